/- Layer 7: Tail of whatever number, wherever the rows lie; slices.Index, Contains. -/
import Derived.Test.YtanifbofjecpmaaPnet
import Derived.Test.YtanifbofjecpmaaCsrr
namespace Go.Proofs.Ytanifbofjecpmaa
open Go.RowKit
set_option maxRecDepth 100000

set_option maxHeartbeats 1000000 in
theorem tail2_yes (N M s t a : Nat) (K : CsrS) (fst hd rv : Nat → Nat) (w : World) (hG : Grid N M fst hd rv) (hI : GridIn w w.heap.size N M K fst hd rv) (ha : a < M) :
    Calls Try.prog 57 #[csrW N M s t K, .int .i64 (a : Int)] w fun e w' => e = .returned (.tuple #[.int .i64 (hd (rv a) : Int), .bool true]) ∧ Below w.heap.size w w' := by
  obtain ⟨bR, oR, hR⟩ := hI.iR.adr (by omega)
  obtain ⟨bH, oH, hH⟩ := hI.iH.adr (by omega)
  have hq := hG.rvl a ha
  obtain ⟨hbR, cr⟩ := tab_cell (hR ▸ hI.iR) ha
  obtain ⟨hbH, ch⟩ := tab_cell (hH ▸ hI.iH) hq
  obtain ⟨AF, cF, AH, cH, AR, cR, AC, cC, AA, cA, AB, cB⟩ := K
  dsimp only [csrW] at hR hH ⊢
  subst hR; subst hH
  obtain ⟨q, hq'⟩ : ∃ q, rv a = q := ⟨_, rfl⟩
  rw [hq'] at cr ch hq ⊢
  obtain ⟨v, hv⟩ : ∃ v, hd q = v := ⟨_, rfl⟩
  rw [hv] at ch ⊢
  have x1 := fun W => isIndex_any (a : Int) (M : Int) W
  have x2 := fun W => isIndex_any (q : Int) (M : Int) W
  rw [decide_eq_true (show 0 ≤ (a : Int) ∧ (a : Int) < (M : Int) by omega)] at x1
  rw [decide_eq_true (show 0 ≤ (q : Int) ∧ (q : Int) < (M : Int) by omega)] at x2
  have HX1 := Lib.hid x1; have HX2 := Lib.hid x2
  clear x1 x2 hI hG hq' hv
  go_enter Try.func57, Try.ntmps57
  go_wp2_with fail
  go_quiet (first | (go_at_call 82; with_reducible exact Calls.quiet_of_same (HX1.out _)) | (go_at_call 82; with_reducible exact Calls.quiet_of_same (HX2.out _)))
  go_wp2_with fail
  go_quiet (fail)
  go_wp2_with fail
  go_ret2
  exact ⟨rfl, below_drewN' (below_drewN' (below_alloc _) _) _⟩

set_option maxHeartbeats 1000000 in
theorem tail2_no (N M s t : Nat) (a : Int) (K : CsrS) (w : World) (ha : ¬ (0 ≤ a ∧ a < (M : Int))) :
    Calls Try.prog 57 #[csrW N M s t K, .int .i64 a] w fun e w' => e = .returned (.tuple #[.int .i64 0, .bool false]) ∧ Below w.heap.size w w' := by
  obtain ⟨AF, cF, AH, cH, AR, cR, AC, cC, AA, cA, AB, cB⟩ := K
  dsimp only [csrW]
  have x1 := fun W => isIndex_any a (M : Int) W
  rw [decide_eq_false ha] at x1
  have HX1 := Lib.hid x1
  clear x1 ha
  go_enter Try.func57, Try.ntmps57
  go_wp2_with fail
  go_quiet (first | (go_at_call 82; with_reducible exact Calls.quiet_of_same (HX1.out _)))
  go_wp2_with fail
  go_ret2
  exact ⟨rfl, below_drewN' (below_alloc _) _⟩

set_option maxHeartbeats 4000000 in
theorem index_is (A : Option Addr) (n c : Nat) (L : List Int) (x : Int) (w : World) (hA : Ints w w.heap.size A n L) (hn : n ≤ 100000000) :
    Calls Try.prog 83 #[.slice A n c, .int .i64 x] w fun e w' => (∃ i : Int, e = .returned (.int .i64 i) ∧ (0 ≤ i ↔ x ∈ L)) ∧ w' = w := by
  have HA := Lib.hid hA
  have hl := hA.len
  have HLEN := Lib.hid hl
  clear hA hl
  go_enter Try.func83, Try.ntmps83
  go_wp2_with fail
  go_loopw [5, 8] (fun _ i wr => ∃ k : Nat, k ≤ n ∧ i = .int .i64 k ∧ (∀ j, j < k → L[j]? ≠ some x) ∧ wr = w) (fun _ i _ => n - (intOf i).toNat)
  case atStart => exact ⟨0, Nat.zero_le _, rfl, fun _ h => absurd h (by omega), rfl⟩
  case round =>
    obtain ⟨k, hk, rfl, hno, rfl⟩ := hrel
    have HNO := Lib.hid hno
    clear hno
    by_cases hlt : k < n
    · obtain ⟨b, off, y, hAe, hb, hy, cy⟩ := intl_at HA.out hlt
      subst hAe
      have HY := Lib.hid hy
      clear hy
      by_cases e : x = y
      · have hd : decide (x = y) = true := decide_eq_true e
        have hyx : (x == y) = true := by simpa using e
        have HE := Lib.hid e
        clear e
        go_wp2_with fail
        go_ret
        exact ⟨⟨k, rfl, fun _ => List.mem_of_getElem? (HE.out ▸ HY.out), fun _ => by omega⟩, rfl⟩
      · have hd : decide (x = y) = false := decide_eq_false e
        have hyx : (x == y) = false := by simpa using e
        have HE := Lib.hid e
        clear e
        go_wp2_with fail
        go_roundw
        case rel =>
          refine ⟨k + 1, by omega, by go_num, fun j hj => ?_, trivial⟩
          by_cases ej : j = k
          · subst ej; rw [HY.out]; intro h; injection h with h; exact HE.out h.symm
          · exact HNO.out j (by omega)
        case measure => simp [intOf]; omega
    · go_wp2_with fail
      go_ret
      exact ⟨⟨-1, rfl, fun h => absurd h (by omega), fun h => by
        obtain ⟨j, hj⟩ := List.getElem?_of_mem h
        have := (List.getElem?_eq_some_iff.1 hj).1
        exact absurd hj (HNO.out j (by have := HLEN.out; omega))⟩, rfl⟩

set_option maxHeartbeats 1000000 in
theorem contains_is (A : Option Addr) (n c : Nat) (L : List Int) (x : Int) (w : World) (r : Bool) (hA : Ints w w.heap.size A n L) (hn : n ≤ 100000000) (hr : r = true ↔ x ∈ L) :
    Calls Try.prog 59 #[.slice A n c, .int .i64 x] w fun e w' => e = .returned (.bool r) ∧ w' = w := by
  have hi := index_is A n c L x w hA hn
  have HI := Lib.hid hi; have HR := Lib.hid hr
  clear hi hr hA
  go_enter Try.func59, Try.ntmps59
  go_wp2_with fail
  refine HI.out.mono ?_
  rintro e w1 ⟨⟨i, rfl, hi⟩, rfl⟩
  have HQ := Lib.hid hi
  clear hi
  go_wp2_with fail
  go_ret
  refine ⟨ret_bool ?_, rfl⟩
  have h1 := HR.out; have h2 := HQ.out
  by_cases h : 0 ≤ i
  · rw [h1.2 (h2.1 h)]; simpa using h
  · have : r = false := by
      cases r
      · rfl
      · exact absurd (h2.2 (h1.1 rfl)) h
    rw [this]; simpa using h

end Go.Proofs.Ytanifbofjecpmaa
