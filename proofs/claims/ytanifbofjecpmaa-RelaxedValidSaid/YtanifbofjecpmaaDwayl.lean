/- DistWay: the walk. -/
import Derived.Test.YtanifbofjecpmaaDawake
import Derived.Test.YtanifbofjecpmaaDway
namespace Go.Proofs.Ytanifbofjecpmaa
open Go.RowKit
set_option maxRecDepth 100000

set_option maxHeartbeats 1000000 in
theorem tail2_at (N M : Nat) (S T : Int) (K : CsrS) (fst hd rv : Nat → Nat) (a : Nat) (w : World) (hG : Grid N M fst hd rv) (hI : GridIn w w.heap.size N M K fst hd rv) (ha : a < M) :
    Calls Try.prog 57 #[csrW N M S T K, .int .i64 (a : Int)] w fun e w' => e = .returned (.tuple #[.int .i64 (hd (rv a) : Int), .bool true]) ∧ Below w.heap.size w w' := by
  obtain ⟨AF, cF, AH, cH, AR, cR, AC, cC, AA, cA, AB, cB⟩ := K
  dsimp only [csrW]
  obtain ⟨bH, oH, hH⟩ := hI.iH.adr (by omega)
  obtain ⟨bR, oR, hR⟩ := hI.iR.adr (by omega)
  dsimp only at hH hR
  subst hH; subst hR
  have hq := hG.rvl a ha
  obtain ⟨hb1, c1⟩ := tab_cell hI.iR ha
  obtain ⟨hb2, c2⟩ := tab_cell hI.iH hq
  generalize hd (rv a) = u at *
  generalize rv a = q at *
  have x1 := fun W => isIndex_any (a : Int) (M : Int) W
  have x2 := fun W => isIndex_any (q : Int) (M : Int) W
  rw [decide_eq_true (show 0 ≤ (a : Int) ∧ (a : Int) < (M : Int) by omega)] at x1
  rw [decide_eq_true (show 0 ≤ (q : Int) ∧ (q : Int) < (M : Int) by omega)] at x2
  have HX1 := Lib.hid x1; have HX2 := Lib.hid x2
  clear x1 x2 hI hG
  go_enter Try.func57, Try.ntmps57
  go_wp2_with fail
  go_quiet (first | (go_at_call 82; with_reducible exact Calls.quiet_of_same (HX1.out _)) | (go_at_call 82; with_reducible exact Calls.quiet_of_same (HX2.out _)))
  go_wp2_with fail
  go_quiet (fail)
  go_wp2_with fail
  go_ret2
  exact ⟨rfl, below_drewN' (below_drewN' (below_alloc _) _) _⟩

theorem opn_pos {X : List Int} {a : Nat} (h : opn X a = true) : ∃ y, X[a]? = some y ∧ 0 < y := by
  unfold opn at h
  cases hx : X[a]? with
  | none => rw [hx] at h; simp at h
  | some y => rw [hx] at h; exact ⟨y, rfl, by simpa using h⟩


end Go.Proofs.Ytanifbofjecpmaa
