/- Layer 1: what the conditions of a net come to. -/
import Derived.Test.YtmmafibeciaghaaRows
import Derived.Test.YtmmafibeciaghaaWords
import Derived.WalkKit
import Derived.WalkSpells
import Derived.WalkLawsBesides
namespace Go.Proofs.Ytmmafibeciaghaa
open Go.RowKit

theorem below_alloc {w : World} (o : Obj) : Below w.heap.size w (w.alloc o) := (Below.refl _ _).alloc (Nat.le_refl _) o

set_option maxHeartbeats 400000 in
theorem isVert_any (N S T v : Int) (A : Option Addr) (n c : Nat) (w : World) :
    Calls Try.prog 39 #[.agg #[.int .i64 N, .int .i64 S, .int .i64 T, .slice A n c], .int .i64 v] w fun e w' => e = .returned (.bool (isVertB N v)) ∧ Below w.heap.size w w' := by
  go_enter Try.func39, Try.ntmps39
  go_wp2
  all_goals go_ret
  all_goals refine ⟨ret_bool ?_, below_alloc _⟩
  all_goals (simp [isVertB]; try omega)

set_option maxHeartbeats 400000 in
theorem verts_any (N S T : Int) (A : Option Addr) (n c : Nat) (w : World) :
    Calls Try.prog 33 #[.agg #[.int .i64 N, .int .i64 S, .int .i64 T, .slice A n c]] w fun e w' => e = .returned (.bool (vertsB N)) ∧ Below w.heap.size w w' := by
  go_enter Try.func33, Try.ntmps33
  go_wp2
  all_goals go_ret
  all_goals refine ⟨ret_bool ?_, below_alloc _⟩
  all_goals (simp [vertsB]; try omega)

set_option maxHeartbeats 400000 in
theorem arcsIn_any (N S T : Int) (A : Option Addr) (n c : Nat) (w : World) :
    Calls Try.prog 34 #[.agg #[.int .i64 N, .int .i64 S, .int .i64 T, .slice A n c]] w fun e w' => e = .returned (.bool (decide (n ≤ 16384))) ∧ Below w.heap.size w w' := by
  go_enter Try.func34, Try.ntmps34
  go_wp2
  all_goals go_ret
  all_goals refine ⟨ret_bool ?_, below_alloc _⟩
  all_goals (simp; try omega)

theorem bcell {W w1 : World} (hb : Below W.heap.size W w1) : (∀ b o, b < W.heap.size → w1.cell? ⟨b, o, none⟩ = W.cell? ⟨b, o, none⟩) ∧ (∀ b o, b < W.heap.size → w1.frozen? ⟨b, o, none⟩ = W.frozen? ⟨b, o, none⟩) :=
  ⟨fun b o h => hb.cell (p := ⟨b, o, none⟩) h, fun b o h => hb.frozen (p := ⟨b, o, none⟩) h⟩
theorem sizes {w W w1 : World} {o : Obj} (h : W = w.alloc o) (hb : Below W.heap.size W w1) : w.heap.size < w1.heap.size := by
  subst h; have := hb.size; simp at this; omega
theorem below_step {w W w1 : World} (h : Below w.heap.size w W) (hb : Below W.heap.size W w1) : Below w.heap.size w w1 := h.trans (hb.mono h.size)

set_option maxHeartbeats 400000 in
theorem ends_any (N S T : Int) (A : Option Addr) (n c : Nat) (w : World) :
    Calls Try.prog 35 #[.agg #[.int .i64 N, .int .i64 S, .int .i64 T, .slice A n c]] w fun e w' => e = .returned (.bool (endsB N S T)) ∧ Below w.heap.size w w' := by
  cases hs : isVertB N S
  · go_enter Try.func35, Try.ntmps35
    go_wp2_with fail
    refine (isVert_any _ _ _ _ _ _ _ _).mono ?_
    rintro e w1 ⟨rfl, hb1⟩
    go_wp2_with fail
    go_ret
    exact ⟨ret_bool (by simp [endsB, hs]), below_step (below_alloc _) hb1⟩
  · cases ht : isVertB N T
    all_goals
      go_enter Try.func35, Try.ntmps35
      go_wp2_with fail
      refine (isVert_any _ _ _ _ _ _ _ _).mono ?_
      rintro e w1 ⟨rfl, hb1⟩
      obtain ⟨hc1, hf1⟩ := bcell hb1
      go_wp2_with fail
      refine (isVert_any _ _ _ _ _ _ _ _).mono ?_
      rintro e w2 ⟨rfl, hb2⟩
      obtain ⟨hc2, hf2⟩ := bcell hb2
      have hz : w.heap.size < w1.heap.size := by have := hb1.size; simp at this; omega
      go_wp2_with fail
      go_ret
      exact ⟨ret_bool (by rw [endsB, hs, ht, Bool.eq_iff_iff]; simp), below_step (below_step (below_alloc _) hb1) hb2⟩

set_option maxHeartbeats 1000000 in
theorem between_any (N S T : Int) (A : Option Addr) (n c : Nat) (l : List ArcN) (w : World) (hA : Arcs w w.heap.size A n l) (hn : n ≤ 1000000000000) :
    Calls Try.prog 36 #[.agg #[.int .i64 N, .int .i64 S, .int .i64 T, .slice A n c]] w fun e w' => e = .returned (.bool (betweenB N l)) ∧ Below w.heap.size w w' := by
  go_enter Try.func36, Try.ntmps36
  go_wp2
  go_loopw [4, 8] (fun v i wr => ∃ k : Nat, k ≤ n ∧ i = .int .i64 k ∧ (l.take k).all (fun a => isVertB N a.frm && isVertB N a.to) = true ∧ Below (w.heap.size + 1) (w.alloc (.cells #[.int .i64 N, .int .i64 S, .int .i64 T, .slice A n c] 24)) wr) (fun _ i _ => n - (intOf i).toNat)
  case atStart => exact ⟨0, Nat.zero_le _, rfl, rfl, Below.refl _ _⟩
  case round =>
    obtain ⟨k, hk, rfl, hp, hb⟩ := hrel
    have HP := Lib.hid hp; clear hp
    have hb0 : Below w.heap.size w wr := (below_alloc _).trans (hb.mono (Nat.le_succ _))
    have h0 : wr.cell? ⟨w.heap.size, 0, none⟩ = some (.int .i64 N) := by rw [hb.cell (by simp)]; simp
    have h1 : wr.cell? ⟨w.heap.size, 1, none⟩ = some (.int .i64 S) := by rw [hb.cell (by simp)]; simp
    have h2 : wr.cell? ⟨w.heap.size, 2, none⟩ = some (.int .i64 T) := by rw [hb.cell (by simp)]; simp
    have h3 : wr.cell? ⟨w.heap.size, 3, none⟩ = some (.slice A n c) := by rw [hb.cell (by simp)]; simp
    by_cases hlt : k < n
    · obtain ⟨b, off, a, rfl, hbl, hla, c0, c1, c2⟩ := arcs_at (hA.below hb0) hlt
      have HL := Lib.hid hla; clear hla
      have hz : w.heap.size < wr.heap.size := by have := hb.size; simp at this; omega
      cases hv : isVertB N a.frm
      · go_wp2_with fail
        refine (isVert_any _ _ _ _ _ _ _ _).mono ?_
        rintro e w1 ⟨rfl, hb1⟩
        go_wp2_with fail
        go_ret
        exact ⟨ret_bool (all_false_at HL.out (by simp [hv])).symm, below_step (hb0.alloc hb0.size _) hb1⟩
      · cases hv' : isVertB N a.to
        all_goals
          go_wp2_with fail
          refine (isVert_any _ _ _ _ _ _ _ _).mono ?_
          rintro e w1 ⟨rfl, hb1⟩
          obtain ⟨hc1, hf1⟩ := bcell hb1
          go_wp2_with fail
          refine (isVert_any _ _ _ _ _ _ _ _).mono ?_
          rintro e w2 ⟨rfl, hb2⟩
          go_wp2_with fail
        · go_ret
          exact ⟨ret_bool (all_false_at HL.out (by simp [hv'])).symm, below_step (below_step (hb0.alloc hb0.size _) hb1) hb2⟩
        · go_roundw
          case rel =>
            refine ⟨k + 1, by omega, by go_num, all_take HL.out HP.out (by simp [hv, hv']), ?_⟩
            have hz1 := hb1.size
            simp at hz1
            exact ((hb.alloc (by omega) _).trans (hb1.mono (by simp; omega))).trans (hb2.mono (by omega))
          case measure => simp [intOf]; omega
    · go_wp2
      go_ret
      exact ⟨ret_bool (all_take_end hA.len hlt HP.out).symm, hb0⟩

end Go.Proofs.Ytmmafibeciaghaa
