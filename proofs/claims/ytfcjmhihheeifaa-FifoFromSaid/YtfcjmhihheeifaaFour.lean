/- The chapter's net. -/
import Derived.Test.YtfcjmhihheeifaaChecks
import Derived.Test.YtfcjmhihheeifaaFacts
/-! The chapter's net. -/
namespace Go.Proofs.Ytfcjmhihheeifaa
open Go.RowKit

def fourArcs : List ArcN := [⟨0, 1, 5⟩, ⟨0, 2, 4⟩, ⟨1, 3, 3⟩, ⟨2, 3, 6⟩, ⟨1, 2, 2⟩]

set_option maxHeartbeats 400000 in
theorem four_any (w : World) : Calls Try.prog 37 #[] w (RetNet 4 0 3 fourArcs w) := by
  go_enter Try.func37, Try.ntmps37
  go_wp2
  refine bodyPost_ret (v := .agg #[.int .i64 4, .int .i64 0, .int .i64 3, .slice (some ⟨w.heap.size + 1, 0, none⟩) 5 5]) (by simp [results, Try.results37, go_sem]) rfl ⟨_, _, _, rfl, ?_, rfl, ?_⟩
  · exact own_of_block (xs := fourArcs.flatMap arcCells) (Blk.new (by simp)) (by omega) (by decide) rfl
  · exact ((Below.refl _ _).alloc (Nat.le_refl _) _).alloc (by simp) _

end Go.Proofs.Ytfcjmhihheeifaa

/-! The chapter's net: plain facts. -/
namespace Go.Proofs.Ytfcjmhihheeifaa

theorem four_flow {x0 x1 x2 x3 x4 : Int} : FlowIn fourArcs [x0, x1, x2, x3, x4] ↔ (0 ≤ x0 ∧ x0 ≤ 5) ∧ (0 ≤ x1 ∧ x1 ≤ 4) ∧ (0 ≤ x2 ∧ x2 ≤ 3) ∧ (0 ≤ x3 ∧ x3 ≤ 6) ∧ (0 ≤ x4 ∧ x4 ≤ 2) := by
  constructor
  · intro h
    exact ⟨h.ent 0 _ _ rfl rfl, h.ent 1 _ _ rfl rfl, h.ent 2 _ _ rfl rfl, h.ent 3 _ _ rfl rfl, h.ent 4 _ _ rfl rfl⟩
  · rintro ⟨h0, h1, h2, h3, h4⟩
    refine ⟨rfl, fun i a x ha hx => ?_⟩
    match i, ha, hx with
    | 0, ha, hx => simp [fourArcs] at ha hx; subst ha; subst hx; exact h0
    | 1, ha, hx => simp [fourArcs] at ha hx; subst ha; subst hx; exact h1
    | 2, ha, hx => simp [fourArcs] at ha hx; subst ha; subst hx; exact h2
    | 3, ha, hx => simp [fourArcs] at ha hx; subst ha; subst hx; exact h3
    | 4, ha, hx => simp [fourArcs] at ha hx; subst ha; subst hx; exact h4
    | i + 5, ha, hx => simp at hx
theorem four_check' : checkF (4 : Nat) 0 3 fourArcs = 0 := by decide +kernel

end Go.Proofs.Ytfcjmhihheeifaa
