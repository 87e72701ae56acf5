/- Layer 7: isActive, vertices, Active. -/
import Derived.Test.YtanifbofjecpmaaOpeno
import Derived.Test.YtanifbofjecpmaaLab
namespace Go.Proofs.Ytanifbofjecpmaa
open Go.RowKit
set_option maxRecDepth 100000

set_option maxHeartbeats 4000000 in
theorem pindex_yes {i n : Int} (h : 0 ≤ i ∧ i < n) (w : World) :
    Calls Try.prog 61 #[.int .i64 i, .int .i64 n] w fun e w' => e = .returned (.bool true) ∧ w' = w := by
  obtain ⟨h1, h2⟩ := h
  go_enter Try.func61, Try.ntmps61
  go_wp2
  go_ret
  exact ⟨ret_bool (by simp), rfl⟩
set_option maxHeartbeats 400000 in
theorem pindex_no {i n : Int} (h : ¬ (0 ≤ i ∧ i < n)) (w : World) :
    Calls Try.prog 61 #[.int .i64 i, .int .i64 n] w fun e w' => e = .returned (.bool false) ∧ w' = w := by
  by_cases h1 : 0 ≤ i
  · have h2 : ¬ i < n := fun h2 => h ⟨h1, h2⟩
    go_enter Try.func61, Try.ntmps61
    go_wp2
    go_ret
    exact ⟨rfl, rfl⟩
  · go_enter Try.func61, Try.ntmps61
    go_wp2
    go_ret
    exact ⟨rfl, rfl⟩

set_option maxHeartbeats 4000000 in
theorem act_is (N M s t v nX nH : Nat) (K : CsrS) (Q : PreS) (X E H : List Int) (w : World) (hQ : StIn w w.heap.size nX N nH Q X E H) (hv : v < N) :
    Calls Try.prog 58 #[csrW N M s t K, preW nX N nH Q, .int .i64 (v : Int)] w fun e w' => e = .returned (.bool (actB s t E v)) ∧ Below w.heap.size w w' := by
  obtain ⟨AF, cF, AH, cH, AR, cR, AC, cC, AA, cA, AB, cB⟩ := K
  obtain ⟨AX, cX, AE, cE, AHH, cHH⟩ := Q
  obtain ⟨bE, oE, hEa⟩ := hQ.iE.adr (by omega)
  dsimp only [csrW, preW] at hEa ⊢
  subst hEa
  obtain ⟨hbE, ce⟩ := hQ.iE.cel (hOf_get hQ.iE.len hv)
  have HA := Lib.hid (show actB s t E v = (decide (v ≠ s) && (decide (v ≠ t) && decide (0 < hOf E v))) from rfl)
  obtain ⟨r, hr⟩ : ∃ r, actB s t E v = r := ⟨_, rfl⟩
  rw [hr] at HA ⊢
  obtain ⟨y, hy⟩ : ∃ y, hOf E v = y := ⟨_, rfl⟩
  rw [hy] at HA ce
  clear hQ hr hy
  by_cases h1 : v = s
  · subst h1
    go_enter Try.func58, Try.ntmps58
    go_wp2_with fail
    go_ret
    exact ⟨ret_bool (by rw [HA.out]; simp), (below_alloc _).alloc (by simp) _⟩
  · have h1' : ¬ (v : Int) = (s : Int) := by omega
    have h1b : ((v : Int) != (s : Int)) = true := by simpa using h1'
    by_cases h2 : v = t
    · subst h2
      go_enter Try.func58, Try.ntmps58
      go_wp2_with fail
      go_ret
      exact ⟨ret_bool (by rw [HA.out]; simp), (below_alloc _).alloc (by simp) _⟩
    · have h2' : ¬ (v : Int) = (t : Int) := by omega
      have h2b : ((v : Int) != (t : Int)) = true := by simpa using h2'
      go_enter Try.func58, Try.ntmps58
      go_wp2_with fail
      go_ret
      exact ⟨ret_bool (by rw [HA.out]; simp [h1, h2]), (below_alloc _).alloc (by simp) _⟩

set_option maxHeartbeats 4000000 in
theorem verts_is (N M s t : Nat) (K : CsrS) (fn : Nat) (caps : Array Value) (p : Nat → Bool) (w : World) (hN : N ≤ 100000000)
    (hcl : ∀ (k : Nat) (W : World), k < N → Below w.heap.size w W → Calls Try.prog fn (#[.int .i64 (k : Int)] ++ caps) W fun e w' => e = .returned (.bool (p k)) ∧ Below W.heap.size W w')
    (hcf : ∀ (xs : Array Value) (W : World), (callFunc fn xs).run Try.prog W = .ok (.enter fn xs) W) :
    Calls Try.prog 51 #[csrW N M s t K, .func (.func fn) #[] caps] w (RetSel (selTo p N) w) := by
  have HCL := Lib.hid hcl
  obtain ⟨AF, cF, AH, cH, AR, cR, AC, cC, AA, cA, AB, cB⟩ := K
  dsimp only [csrW]
  have hX0 : Hx w w w.heap.size [⟨3, none, 0, 0, []⟩] := (Hx.start rfl).nil _
  have hX1 := hX0.alloc (.cells #[.int .i64 (N : Int), .int .i64 (s : Int), .int .i64 (t : Int), .slice AF (N + 1) cF, .slice AH M cH, .slice AR M cR, .slice AC M cC, .slice AA M cA, .slice AB M cB] 32)
  have HX0 := Lib.hid hX1
  clear hcl hX0 hX1
  go_enter Try.func51, Try.ntmps51
  go_wp2_with fail
  go_loopw [5, 6, 9] (fun q _ i wr => ∃ (k : Nat) (AQ : Option Addr) (cQ : Nat), k ≤ N ∧ i = .int .i64 k ∧ q = .slice AQ (selTo p k).length cQ ∧ Hx w wr w.heap.size [⟨3, AQ, (selTo p k).length, cQ, nvs (selTo p k)⟩]) (fun _ _ i _ => N - (intOf i).toNat)
  case atStart => exact ⟨0, none, 0, Nat.zero_le _, rfl, rfl, HX0.out⟩
  case round =>
    clear HX0
    obtain ⟨k, AQ, cQ, hk, rfl, rfl, X⟩ := hrel
    have HXk := Lib.hid X
    have hsl := sel_len p k
    by_cases hlt : k < N
    · have hzw := X.bel.size
      have Bw := X.bel
      clear X
      go_wp2_with fail
      refine (HCL.out k _ hlt Bw).mono ?_
      rintro e w2 ⟨rfl, B2⟩
      have HX2 := Lib.hid (HXk.out.on B2)
      clear HXk B2 Bw hzw
      cases hpk : p k
      · have HP := Lib.hid hpk
        clear hpk
        go_wp2_with fail
        go_roundw
        case rel => exact ⟨k + 1, AQ, cQ, by omega, by go_num, by rw [sel_no HP.out], by rw [sel_no HP.out]; exact HX2.out⟩
        case measure => simp [intOf]; omega
      · have HP := Lib.hid hpk
        clear hpk
        go_wp2_with (at_builtin; refine wp_appH HX2.out rfl _ _ _ _ _ rfl one_int.wide 0 (selTo p k).length cQ AQ _ (.int .i64 (k : Int)) rfl rfl rfl rfl (by omega) (by simp) ?_)
        intro A4 c4 w4 HX4 _
        go_wp2_with fail
        go_roundw
        case rel =>
          refine ⟨k + 1, A4, c4, by omega, by go_num, by rw [sel_yes HP.out, List.length_append]; rfl, ?_⟩
          have h := HX4.out
          rw [sel_yes HP.out, List.length_append]
          unfold nvs at h ⊢
          rw [List.map_append]
          exact h
        case measure => simp [intOf]; omega
    · obtain rfl : k = N := by omega
      go_wp2_with fail
      go_ret
      exact ⟨AQ, cQ, rfl, HXk.out.held.own 0 _ rfl, HXk.out.bel⟩

end Go.Proofs.Ytanifbofjecpmaa
