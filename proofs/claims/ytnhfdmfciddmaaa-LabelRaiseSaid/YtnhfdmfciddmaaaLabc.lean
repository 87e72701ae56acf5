/- Layer 6: heights: chosen of numbers, Right, fit. -/
import Derived.Test.YtnhfdmfciddmaaaLab
namespace Go.Proofs.Ytnhfdmfciddmaaa
open Go.RowKit
set_option maxRecDepth 100000

set_option maxHeartbeats 4000000 in
theorem chosenl_is (fn : Nat) (caps : Array Value) (p : Nat → Bool) (A : Option Addr) (n c : Nat) (H : List Int) (w : World) (hA : Ints w w.heap.size A n H) (hn : n ≤ 100000000)
    (hcl : ∀ (k : Nat) (x : Int) (W : World), k < n → H[k]? = some x → Below w.heap.size w W → Calls Try.prog fn (#[.int .i64 (k : Int), .int .i64 x] ++ caps) W fun e w' => e = .returned (.bool (p k)) ∧ Below W.heap.size W w')
    (hcf : ∀ (xs : Array Value) (W : World), (callFunc fn xs).run Try.prog W = .ok (.enter fn xs) W) :
    Calls Try.prog 49 #[.slice A n c, .func (.func fn) #[] caps] w (RetSel (selTo p n) w) := by
  have HA := Lib.hid hA; have HCL := Lib.hid hcl
  have hX0 : Hx w w w.heap.size [⟨3, none, 0, 0, []⟩] := (Hx.start rfl).nil _
  have HX0 := Lib.hid hX0
  clear hA hcl hX0
  go_enter Try.func49, Try.ntmps49
  go_wp2_with fail
  go_loopw [5, 6, 7, 10] (fun q _ _ i wr => ∃ (k : Nat) (AQ : Option Addr) (cQ : Nat), k ≤ n ∧ i = .int .i64 k ∧ q = .slice AQ (selTo p k).length cQ ∧ Hx w wr w.heap.size [⟨3, AQ, (selTo p k).length, cQ, nvs (selTo p k)⟩]) (fun _ _ _ i _ => n - (intOf i).toNat)
  case atStart => exact ⟨0, none, 0, Nat.zero_le _, rfl, rfl, HX0.out⟩
  case round =>
    clear HX0
    obtain ⟨k, AQ, cQ, hk, rfl, rfl, X⟩ := hrel
    have HXk := Lib.hid X
    have hsl := sel_len p k
    by_cases hlt : k < n
    · obtain ⟨b, off, x, hAe, hb, hx, cx⟩ := intl_at (HA.out.below X.bel) hlt
      subst hAe
      have hzw := X.bel.size
      have Bw := X.bel
      have HX := Lib.hid hx
      clear X hx
      go_wp2_with fail
      refine (HCL.out k x _ hlt HX.out Bw).mono ?_
      rintro e w2 ⟨rfl, B2⟩
      have HX2 := Lib.hid (HXk.out.on B2)
      clear HXk B2 Bw cx hzw hb
      cases hpk : p k
      · have HP := Lib.hid hpk
        clear hpk
        go_wp2_with fail
        go_roundw
        case rel => exact ⟨k + 1, AQ, cQ, by omega, by go_num, by rw [sel_no HP.out], by rw [sel_no HP.out]; exact HX2.out⟩
        case measure => simp [intOf]; omega
      · have HP := Lib.hid hpk
        clear hpk
        go_wp2_with (at_builtin; refine wp_appH HX2.out rfl (.tmp 19) (.tmp 21) _ _ _ rfl one_int.wide 0 (selTo p k).length cQ AQ _ (.int .i64 (k : Int)) rfl rfl rfl rfl (by omega) (by simp) ?_)
        intro A4 c4 w4 HX4 _
        go_wp2_with fail
        go_roundw
        case rel =>
          refine ⟨k + 1, A4, c4, by omega, by go_num, by rw [sel_yes HP.out, List.length_append]; rfl, ?_⟩
          have h := HX4.out
          rw [sel_yes HP.out, List.length_append]
          unfold nvs at h ⊢
          rw [List.map_append]
          exact h
        case measure => simp [intOf]; omega
    · obtain rfl : k = n := by omega
      go_wp2_with fail
      go_ret
      exact ⟨AQ, cQ, rfl, HXk.out.held.own 0 _ rfl, HXk.out.bel⟩

set_option maxHeartbeats 400000 in
theorem lindex_yes {i n : Int} (h : 0 ≤ i ∧ i < n) (w : World) :
    Calls Try.prog 32 #[.int .i64 i, .int .i64 n] w fun e w' => e = .returned (.bool true) ∧ w' = w := by
  obtain ⟨h1, h2⟩ := h
  go_enter Try.func32, Try.ntmps32
  go_wp2
  go_ret
  exact ⟨ret_bool (by simp), rfl⟩
set_option maxHeartbeats 400000 in
theorem lindex_no {i n : Int} (h : ¬ (0 ≤ i ∧ i < n)) (w : World) :
    Calls Try.prog 32 #[.int .i64 i, .int .i64 n] w fun e w' => e = .returned (.bool false) ∧ w' = w := by
  by_cases h1 : 0 ≤ i
  · have h2 : ¬ i < n := fun h2 => h ⟨h1, h2⟩
    go_enter Try.func32, Try.ntmps32
    go_wp2
    go_ret
    exact ⟨rfl, rfl⟩
  · go_enter Try.func32, Try.ntmps32
    go_wp2
    go_ret
    exact ⟨rfl, rfl⟩

set_option maxHeartbeats 1000000 in
theorem lright1 (N g : Nat) (i x : Int) (v1 v2 v3 v4 v5 v6 v7 v8 : Value) (w : World) (K1 : Blk w g 29 #[.int .i64 (N : Int), v1, v2, v3, v4, v5, v6, v7, v8]) :
    Calls Try.prog 34 #[.int .i64 i, .int .i64 x, .pointer (some ⟨g, 0, none⟩)] w fun e w' => e = .returned (.bool (decide (x < 0 ∨ (N : Int) < x))) ∧ Below w.heap.size w w' := by
  have c1 := K1.cell 0
  simp only [List.getElem?_toArray, List.getElem?_cons_zero] at c1
  have hz := K1.lt
  clear K1
  by_cases h0 : x < 0
  · go_enter Try.func34, Try.ntmps34
    go_wp2_with fail
    go_ret
    exact ⟨ret_bool (by simp [h0]), Below.refl _ _⟩
  · by_cases h1 : (N : Int) < x
    all_goals
      go_enter Try.func34, Try.ntmps34
      go_wp2_with fail
      go_ret
      exact ⟨ret_bool (by simp [h0, h1]), Below.refl _ _⟩

set_option maxHeartbeats 8000000 in
theorem lright_is (N M s t : Nat) (K : CsrS) (A : Option Addr) (n c : Nat) (H : List Int) (w : World) (hA : Ints w w.heap.size A n H) (hs : s < N) (ht : t < N) (hN : N ≤ 4096) :
    Calls Try.prog 13 #[csrW N M s t K, .slice A n c] w fun e w' => e = .returned (.bool (rightB N s t H)) ∧ Below w.heap.size w w' := by
  have hl : H.length = n := hA.len
  obtain ⟨AF, cF, AH, cH, AR, cR, AC, cC, AA, cA, AB, cB⟩ := K
  dsimp only [csrW]
  have K1 : Blk (w.alloc (.cells #[.int .i64 (N : Int), .int .i64 (s : Int), .int .i64 (t : Int), .slice AF (N + 1) cF, .slice AH M cH, .slice AR M cR, .slice AC M cC, .slice AA M cA, .slice AB M cB] 29)) w.heap.size 29 #[.int .i64 (N : Int), .int .i64 (s : Int), .int .i64 (t : Int), .slice AF (N + 1) cF, .slice AH M cH, .slice AR M cR, .slice AC M cC, .slice AA M cA, .slice AB M cB] := Blk.new rfl
  have A1 := hA.onAlloc (.cells #[.int .i64 (N : Int), .int .i64 (s : Int), .int .i64 (t : Int), .slice AF (N + 1) cF, .slice AH M cH, .slice AR M cR, .slice AC M cC, .slice AA M cA, .slice AB M cB] 29)
  have HA1 := Lib.hid A1; have HK1 := Lib.hid K1; have HL := Lib.hid hl
  have hsN : 0 ≤ (s : Int) ∧ (s : Int) < (N : Int) := by omega
  have htN : 0 ≤ (t : Int) ∧ (t : Int) < (N : Int) := by omega
  have HSN := Lib.hid hsN; have HTN := Lib.hid htN
  by_cases hne : n = N
  · subst hne
    obtain ⟨b, off, x, rfl, hb, hx, cx⟩ := intl_at A1 hs
    obtain ⟨b2, off2, y, he, -, hy, cy⟩ := intl_at A1 ht
    injection he with he
    injection he with e1 e2
    subst e1; subst e2
    have hxs := hOf_at hx
    have hyt := hOf_at hy
    have HXS := Lib.hid hxs; have HYT := Lib.hid hyt
    clear hx hy hxs hyt hl A1 K1 hA hsN htN
    by_cases h1 : x = (n : Int)
    · subst h1
      by_cases h2 : y = 0
      · subst h2
        go_enter Try.func13, Try.ntmps13
        go_wp2_with fail
        go_quiet (first | (go_at_call 32; with_reducible exact Calls.quiet_of_same (lindex_yes HSN.out _)) | (go_at_call 32; with_reducible exact Calls.quiet_of_same (lindex_yes HTN.out _)))
        go_wp2_with fail
        have hcf : ∀ (xs : Array Value) (W : World), (callFunc 34 xs).run Try.prog W = .ok (.enter 34 xs) W := fun xs W => by kernel_rfl
        refine (choseni_is 34 #[.pointer (some ⟨w.heap.size, 0, none⟩)] (fun k => decide (hOf H k < 0 ∨ (n : Int) < hOf H k)) _ n c H _ (HA1.out.on (below_drewN' (Below.refl _ _) _)) (by omega) (fun k x W hk hxk hB => ?_) hcf).mono ?_
        · have := lright1 n w.heap.size k x _ _ _ _ _ _ _ _ W ((HK1.out.below (below_drewN' (Below.refl _ _) _) HK1.out.lt).below hB (by simp [World.drewN]))
          rw [hOf_at hxk]
          exact this
        · rintro e w2 ⟨AQ, cQ, rfl, hO, hB⟩
          have hr : decide ((selTo (fun k => decide (hOf H k < 0 ∨ (n : Int) < hOf H k)) n).length = 0) = rightB n s t H := by
            rw [Bool.eq_iff_iff, rightB_yes, decide_eq_true_eq, List.length_eq_zero_iff, sel_nil]
            constructor
            · intro h
              exact ⟨HL.out, HXS.out, HYT.out, fun v hv => by have := h v hv; simp at this; omega⟩
            · intro h v hv
              have := h.bnd v hv
              simp; omega
          have hBw := (below_drewN' (below_alloc (w := w) _) _).trans (hB.mono (by simp [World.drewN]))
          have HR := Lib.hid hr; have HBw := Lib.hid hBw
          clear hO hB hr hBw
          generalize (selTo (fun k => decide (hOf H k < 0 ∨ (n : Int) < hOf H k)) n).length = q at *
          go_wp2_with fail
          go_ret
          exact ⟨ret_bool (by rw [← HR.out, Bool.eq_iff_iff, beq_iff_eq, decide_eq_true_eq]; omega), HBw.out⟩
      · have h2' : ((y : Int) == 0) = false := beq_false_of_ne h2
        have hd2 : decide (y = 0) = false := decide_eq_false h2
        go_enter Try.func13, Try.ntmps13
        go_wp2_with fail
        go_quiet (first | (go_at_call 32; with_reducible exact Calls.quiet_of_same (lindex_yes HSN.out _)) | (go_at_call 32; with_reducible exact Calls.quiet_of_same (lindex_yes HTN.out _)))
        go_wp2_with fail
        go_ret
        exact ⟨ret_bool (rightB_no fun h => h2 (HYT.out.symm.trans h.snk)).symm, below_drewN' (below_alloc _) _⟩
    · have h1' : (x == (n : Int)) = false := beq_false_of_ne h1
      have hd1 : decide (x = (n : Int)) = false := decide_eq_false h1
      go_enter Try.func13, Try.ntmps13
      go_wp2_with fail
      go_quiet (first | (go_at_call 32; with_reducible exact Calls.quiet_of_same (lindex_yes HSN.out _)) | (go_at_call 32; with_reducible exact Calls.quiet_of_same (lindex_yes HTN.out _)))
      go_wp2_with fail
      go_ret
      exact ⟨ret_bool (rightB_no fun h => h1 (HXS.out.symm.trans h.src)).symm, below_drewN' (below_alloc _) _⟩
  · have hne1 : ¬ (n : Int) = (N : Int) := by omega
    have hne2 : ((n : Int) == (N : Int)) = false := beq_false_of_ne hne1
    clear hl A1 K1 hA hsN htN
    go_enter Try.func13, Try.ntmps13
    go_wp2_with fail
    go_quiet (fail)
    go_wp2_with fail
    go_ret
    exact ⟨ret_bool (rightB_no fun h => hne (HL.out.symm.trans h.len)).symm, below_drewN' (below_alloc _) _⟩

end Go.Proofs.Ytnhfdmfciddmaaa
