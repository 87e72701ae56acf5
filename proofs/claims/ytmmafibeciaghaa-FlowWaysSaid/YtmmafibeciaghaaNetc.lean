/- Layer 1: Check. -/
import Derived.Test.YtmmafibeciaghaaNetb
namespace Go.Proofs.Ytmmafibeciaghaa
open Go.RowKit

theorem cond_at0 (w : World) : (Instr.index 65 condTable (.int .i64 0)).run Try.prog w = .ok (.agg #[.func (.func 33) #[] #[], .int .i64 10]) w := by kernel_rfl
theorem cond_at1 (w : World) : (Instr.index 65 condTable (.int .i64 1)).run Try.prog w = .ok (.agg #[.func (.func 34) #[] #[], .int .i64 11]) w := by kernel_rfl
theorem cond_at2 (w : World) : (Instr.index 65 condTable (.int .i64 2)).run Try.prog w = .ok (.agg #[.func (.func 35) #[] #[], .int .i64 12]) w := by kernel_rfl
theorem cond_at3 (w : World) : (Instr.index 65 condTable (.int .i64 3)).run Try.prog w = .ok (.agg #[.func (.func 36) #[] #[], .int .i64 13]) w := by kernel_rfl
theorem cond_at4 (w : World) : (Instr.index 65 condTable (.int .i64 4)).run Try.prog w = .ok (.agg #[.func (.func 37) #[] #[], .int .i64 14]) w := by kernel_rfl
theorem cond_at5 (w : World) : (Instr.index 65 condTable (.int .i64 5)).run Try.prog w = .ok (.agg #[.func (.func 38) #[] #[], .int .i64 15]) w := by kernel_rfl

theorem ret_i64 {a b : Int} (h : a = b) : Ending.returned (.int .i64 a) = .returned (.int .i64 b) := by rw [h]

set_option maxHeartbeats 1000000 in
theorem check_any (N S T : Int) (A : Option Addr) (n c : Nat) (l : List ArcN) (w : World) (hA : Arcs w w.heap.size A n l) (hn : n ≤ 1000000000000) :
    Calls Try.prog 23 #[.agg #[.int .i64 N, .int .i64 S, .int .i64 T, .slice A n c]] w fun e w' => e = .returned (.int .i64 (checkF N S T l)) ∧ Below w.heap.size w w' := by
  go_enter Try.func23, Try.ntmps23
  go_wp2_with fail
  refine (conditions_any _).mono ?_
  rintro e w0 ⟨rfl, hb0⟩
  have hz0 : w.heap.size < w0.heap.size := by have := hb0.size; simp at this; omega
  have hbw : Below w.heap.size w w0 := below_step (below_alloc _) hb0
  have hN0 : w0.cell? ⟨w.heap.size, 0, none⟩ = some (.int .i64 N) := by rw [hb0.cell (by simp)]; simp
  have hS0 : w0.cell? ⟨w.heap.size, 1, none⟩ = some (.int .i64 S) := by rw [hb0.cell (by simp)]; simp
  have hT0 : w0.cell? ⟨w.heap.size, 2, none⟩ = some (.int .i64 T) := by rw [hb0.cell (by simp)]; simp
  have hL0 : w0.cell? ⟨w.heap.size, 3, none⟩ = some (.slice A n c) := by rw [hb0.cell (by simp)]; simp
  clear hb0
  go_wp2_with fail
  go_loopw [2, 4, 6] (fun r v i wr => ∃ k : Nat, k ≤ 6 ∧ i = .int .i64 k ∧ (∀ j, j < k → condB N S T l j = true) ∧ Below w0.heap.size w0 wr) (fun _ _ i _ => 6 - (intOf i).toNat)
  case atStart => exact ⟨0, Nat.zero_le _, rfl, fun j hj => absurd hj (by omega), Below.refl _ _⟩
  case round =>
    obtain ⟨k, hk, rfl, hp, hb⟩ := hrel
    have HP := Lib.hid hp; clear hp
    have hN := (hb.cell (p := ⟨w.heap.size, 0, none⟩) hz0).trans hN0
    have hS := (hb.cell (p := ⟨w.heap.size, 1, none⟩) hz0).trans hS0
    have hT := (hb.cell (p := ⟨w.heap.size, 2, none⟩) hz0).trans hT0
    have hL := (hb.cell (p := ⟨w.heap.size, 3, none⟩) hz0).trans hL0
    have hz : w.heap.size < wr.heap.size := Nat.lt_of_lt_of_le hz0 hb.size
    have hbr : Below w.heap.size w wr := hbw.trans (hb.mono (Nat.le_of_lt hz0))
    clear hN0 hS0 hT0 hL0
    by_cases hlt : k < 6
    · have hks : k = 0 ∨ k = 1 ∨ k = 2 ∨ k = 3 ∨ k = 4 ∨ k = 5 := by omega
      rcases hks with rfl | rfl | rfl | rfl | rfl | rfl
      · have hi := cond_at0
        have hR : Arcs (wr.alloc (.cells #[.func (.func 33) #[] #[], .int .i64 10] 64)) (wr.alloc (.cells #[.func (.func 33) #[] #[], .int .i64 10] 64)).heap.size A n l := (hA.below (hbr.alloc hbr.size _)).more (by simp; omega)
        cases hv : vertsB N
        · go_wp2_with fail
          refine (verts_any _ _ _ _ _ _ _).mono ?_
          rintro e w1 ⟨rfl, hb1⟩
          obtain ⟨hc1, hf1⟩ := bcell hb1
          go_wp2_with fail
          go_ret
          exact ⟨ret_i64 (check_first (k := 0) (by omega) HP.out hv).symm, below_step (hbr.alloc hbr.size _) hb1⟩
        · go_wp2_with fail
          refine (verts_any _ _ _ _ _ _ _).mono ?_
          rintro e w1 ⟨rfl, hb1⟩
          go_wp2_with fail
          go_roundw
          case rel => exact ⟨1, by omega, by go_num, cond_next HP.out hv, (hb.alloc hb.size _).trans (hb1.mono (by have := hb.size; simp; omega))⟩
          case measure => simp [intOf]
      · have hi := cond_at1
        have hR : Arcs (wr.alloc (.cells #[.func (.func 34) #[] #[], .int .i64 11] 64)) (wr.alloc (.cells #[.func (.func 34) #[] #[], .int .i64 11] 64)).heap.size A n l := (hA.below (hbr.alloc hbr.size _)).more (by simp; omega)
        cases hv : decide (n ≤ 16384)
        · go_wp2_with fail
          refine (arcsIn_any _ _ _ _ _ _ _).mono ?_
          rintro e w1 ⟨rfl, hb1⟩
          obtain ⟨hc1, hf1⟩ := bcell hb1
          go_wp2_with fail
          go_ret
          exact ⟨ret_i64 (check_first (k := 1) (by omega) HP.out (by rw [← hA.len] at hv; exact hv)).symm, below_step (hbr.alloc hbr.size _) hb1⟩
        · go_wp2_with fail
          refine (arcsIn_any _ _ _ _ _ _ _).mono ?_
          rintro e w1 ⟨rfl, hb1⟩
          go_wp2_with fail
          go_roundw
          case rel => exact ⟨2, by omega, by go_num, cond_next HP.out (by rw [← hA.len] at hv; exact hv), (hb.alloc hb.size _).trans (hb1.mono (by have := hb.size; simp; omega))⟩
          case measure => simp [intOf]
      · have hi := cond_at2
        have hR : Arcs (wr.alloc (.cells #[.func (.func 35) #[] #[], .int .i64 12] 64)) (wr.alloc (.cells #[.func (.func 35) #[] #[], .int .i64 12] 64)).heap.size A n l := (hA.below (hbr.alloc hbr.size _)).more (by simp; omega)
        cases hv : endsB N S T
        · go_wp2_with fail
          refine (ends_any _ _ _ _ _ _ _).mono ?_
          rintro e w1 ⟨rfl, hb1⟩
          obtain ⟨hc1, hf1⟩ := bcell hb1
          go_wp2_with fail
          go_ret
          exact ⟨ret_i64 (check_first (k := 2) (by omega) HP.out hv).symm, below_step (hbr.alloc hbr.size _) hb1⟩
        · go_wp2_with fail
          refine (ends_any _ _ _ _ _ _ _).mono ?_
          rintro e w1 ⟨rfl, hb1⟩
          go_wp2_with fail
          go_roundw
          case rel => exact ⟨3, by omega, by go_num, cond_next HP.out hv, (hb.alloc hb.size _).trans (hb1.mono (by have := hb.size; simp; omega))⟩
          case measure => simp [intOf]
      · have hi := cond_at3
        have hR : Arcs (wr.alloc (.cells #[.func (.func 36) #[] #[], .int .i64 13] 64)) (wr.alloc (.cells #[.func (.func 36) #[] #[], .int .i64 13] 64)).heap.size A n l := (hA.below (hbr.alloc hbr.size _)).more (by simp; omega)
        cases hv : betweenB N l
        · go_wp2_with fail
          refine (between_any _ _ _ _ _ _ l _ hR hn).mono ?_
          rintro e w1 ⟨rfl, hb1⟩
          obtain ⟨hc1, hf1⟩ := bcell hb1
          go_wp2_with fail
          go_ret
          exact ⟨ret_i64 (check_first (k := 3) (by omega) HP.out hv).symm, below_step (hbr.alloc hbr.size _) hb1⟩
        · go_wp2_with fail
          refine (between_any _ _ _ _ _ _ l _ hR hn).mono ?_
          rintro e w1 ⟨rfl, hb1⟩
          go_wp2_with fail
          go_roundw
          case rel => exact ⟨4, by omega, by go_num, cond_next HP.out hv, (hb.alloc hb.size _).trans (hb1.mono (by have := hb.size; simp; omega))⟩
          case measure => simp [intOf]
      · have hi := cond_at4
        have hR : Arcs (wr.alloc (.cells #[.func (.func 37) #[] #[], .int .i64 14] 64)) (wr.alloc (.cells #[.func (.func 37) #[] #[], .int .i64 14] 64)).heap.size A n l := (hA.below (hbr.alloc hbr.size _)).more (by simp; omega)
        cases hv : capsB l
        · go_wp2_with fail
          refine (caps_any _ _ _ _ _ _ l _ hR hn).mono ?_
          rintro e w1 ⟨rfl, hb1⟩
          obtain ⟨hc1, hf1⟩ := bcell hb1
          go_wp2_with fail
          go_ret
          exact ⟨ret_i64 (check_first (k := 4) (by omega) HP.out hv).symm, below_step (hbr.alloc hbr.size _) hb1⟩
        · go_wp2_with fail
          refine (caps_any _ _ _ _ _ _ l _ hR hn).mono ?_
          rintro e w1 ⟨rfl, hb1⟩
          go_wp2_with fail
          go_roundw
          case rel => exact ⟨5, by omega, by go_num, cond_next HP.out hv, (hb.alloc hb.size _).trans (hb1.mono (by have := hb.size; simp; omega))⟩
          case measure => simp [intOf]
      · have hi := cond_at5
        have hR : Arcs (wr.alloc (.cells #[.func (.func 38) #[] #[], .int .i64 15] 64)) (wr.alloc (.cells #[.func (.func 38) #[] #[], .int .i64 15] 64)).heap.size A n l := (hA.below (hbr.alloc hbr.size _)).more (by simp; omega)
        cases hv : sumB l
        · go_wp2_with fail
          refine (sumIn_any _ _ _ _ _ _ l _ hR hn).mono ?_
          rintro e w1 ⟨rfl, hb1⟩
          obtain ⟨hc1, hf1⟩ := bcell hb1
          go_wp2_with fail
          go_ret
          exact ⟨ret_i64 (check_first (k := 5) (by omega) HP.out hv).symm, below_step (hbr.alloc hbr.size _) hb1⟩
        · go_wp2_with fail
          refine (sumIn_any _ _ _ _ _ _ l _ hR hn).mono ?_
          rintro e w1 ⟨rfl, hb1⟩
          go_wp2_with fail
          go_roundw
          case rel => exact ⟨6, by omega, by go_num, cond_next HP.out hv, (hb.alloc hb.size _).trans (hb1.mono (by have := hb.size; simp; omega))⟩
          case measure => simp [intOf]
    · go_wp2
      go_ret
      exact ⟨ret_i64 (check_all fun j hj => HP.out j (by omega)).symm, hbr⟩

end Go.Proofs.Ytmmafibeciaghaa
