/- Layer 1: Copy, Turn. -/
import Derived.Test.YtfcjmhihheeifaaChecks
namespace Go.Proofs.Ytfcjmhihheeifaa
open Go.RowKit

set_option maxHeartbeats 400000 in
theorem copy_any (N S T : Int) (A : Option Addr) (n c : Nat) (l : List ArcN) (w : World) (hA : Arcs w w.heap.size A n l) (hn : n ≤ 1000000000000) :
    Calls Try.prog 23 #[.agg #[.int .i64 N, .int .i64 S, .int .i64 T, .slice A n c]] w (RetNet N S T l w) := by
  obtain ⟨i0, hi, hz0, hz1, hz2⟩ := info_parts arc_info
  have hmk := fun W => run_make_lit (P := Try.prog) 22 64 i0 _ Try.underlying22 hi hz0 n (by rw [hz2]; omega) (by omega) W
  rw [hz1] at hmk
  generalize hmc : madeCells (Value.agg #[.int .i64 0, .int .i64 0, .int .i64 0]).cells (n * 3) = mc at hmk
  have HS : Hid (mc.size = n * 3) := by rw [← hmc]; exact size_madeCells _ _
  clear hmc
  have HI := Lib.hid hi; have HZ := Lib.hid hz1
  clear hi hz0 hz1 hz2
  go_enter Try.func23, Try.ntmps23
  go_wp2_with (with_reducible refine wpList_copy_fill rfl (.tmp 8) (.tmp 10) _ _ rfl 64 i0 3 Try.underlying22 HI.out HZ.out (w.heap.size + 1 + 1) n n c A rfl rfl mc (l.flatMap arcCells) ?_ HS.out ?_ ?_ arc_one ?_)
  · exact heap_new_at (by simp)
  · rw [flat_len (arc_len l), hA.len]
  · exact RdBy.src (arc_len l) (hA.below ((((Below.refl _ _).alloc (Nat.le_refl _) _).alloc (by simp) _).alloc (by simp; omega) _))
  · intro w' HO hg hsz
    have hb := below_of_grown hg (by simp)
    obtain ⟨hc, hf⟩ := bcell_lt hb
    have HSZ := Lib.hid hsz; clear hsz
    have q0 : w'.cell? ⟨w.heap.size + 1, 0, none⟩ = some (.int .i64 0) := by rw [hc _ _ (by omega)]; simp [go_sem]
    have q1 : w'.cell? ⟨w.heap.size + 1, 1, none⟩ = some (.int .i64 0) := by rw [hc _ _ (by omega)]; simp [go_sem]
    have q2 : w'.cell? ⟨w.heap.size + 1, 2, none⟩ = some (.int .i64 0) := by rw [hc _ _ (by omega)]; simp [go_sem]
    have q3 : w'.cell? ⟨w.heap.size + 1, 3, none⟩ = some (.slice none 0 0) := by rw [hc _ _ (by omega)]; simp [go_sem]
    go_wp2
    refine bodyPost_ret (v := .agg #[.int .i64 N, .int .i64 S, .int .i64 T, .slice (some ⟨w.heap.size + 1 + 1, 0, none⟩) n n]) (by simp [results, Try.results23, go_sem, q0, q1, q2, q3]) rfl ⟨_, _, _, rfl, ?_, hA.len, ?_⟩
    · refine own_of_block ?_ (by omega) (by unfold maxLen; omega) (by rw [flat_len (arc_len l), hA.len])
      rw [Below.heap_setCell _ _ _ _ (by simp), Below.heap_setCell _ _ _ _ (by simp), Below.heap_setCell _ _ _ _ (by simp), Below.heap_setCell _ _ _ _ (by simp)]
      exact HO.out
    · exact ((((((((Below.refl _ _).alloc (Nat.le_refl _) _).alloc (by simp) _).alloc (by simp; omega) _).trans (hb.mono (by omega))).setCell (by simp) _).setCell (by simp) _).setCell (by simp) _).setCell (by simp) _

end Go.Proofs.Ytfcjmhihheeifaa
