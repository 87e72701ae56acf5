/- Layer 1: the chapter's net, and more arcs. -/
import Derived.Test.YtfdidjgecdhaiaaNetf
namespace Go.Proofs.Ytfdidjgecdhaiaa
open Go.RowKit

def fourArcs : List ArcN := [⟨0, 1, 5⟩, ⟨0, 2, 4⟩, ⟨1, 3, 3⟩, ⟨2, 3, 6⟩, ⟨1, 2, 2⟩]

set_option maxHeartbeats 400000 in
theorem four_any (w : World) : Calls Try.prog 17 #[] w (RetNet 4 0 3 fourArcs w) := by
  go_enter Try.func17, Try.ntmps17
  go_wp2
  refine bodyPost_ret (v := .agg #[.int .i64 4, .int .i64 0, .int .i64 3, .slice (some ⟨w.heap.size + 1, 0, none⟩) 5 5]) (by simp [results, Try.results17, go_sem]) rfl ⟨_, _, _, rfl, ?_, rfl, ?_⟩
  · exact own_of_block (xs := fourArcs.flatMap arcCells) (Blk.new (by simp)) (by omega) (by decide) rfl
  · exact ((Below.refl _ _).alloc (Nat.le_refl _) _).alloc (by simp) _

set_option maxHeartbeats 400000 in
theorem with_any (A : Option Addr) (m c : Nat) (l : List ArcN) (w : World) (hA : Arcs w w.heap.size A m l) (hm : m ≤ 1000000) :
    Calls Try.prog 18 #[.slice A m c] w (RetNet 4 0 3 (fourArcs ++ l) w) := by
  obtain ⟨i0, hi, hz0, hz1, hz2⟩ := info_parts arc_info
  have HI := Lib.hid hi; have HZ0 := Lib.hid hz0; have HZ1 := Lib.hid hz1; have HZ2 := Lib.hid hz2
  clear hi hz0 hz1 hz2
  go_enter Try.func18, Try.ntmps18
  go_wp2_with fail
  refine (four_any _).mono ?_
  rintro e w1 ⟨A1, n1, c1, rfl, hown, hl1, hb1⟩
  obtain rfl : n1 = 5 := hl1.symm
  clear hl1
  have K1 : Blk w1 w.heap.size 24 #[.int .i64 0, .int .i64 0, .int .i64 0, .slice none 0 0] := (Blk.new rfl).below hb1 (by simp)
  have hz : w.heap.size < w1.heap.size := K1.lt
  have hbw : Below w.heap.size w w1 := below_step (below_alloc _) hb1
  have HO := Lib.hid (own_less (base' := w.heap.size + 1) hown (by simp)); clear hown
  go_wp2_with (at_builtin; refine wpList_append_row _ rfl (.tmp 6) (.tmp 7) _ rfl (w.heap.size + 1) 31 i0 _ 3 24 Try.underlying22 HI.out HZ0.out HZ1.out HZ2.out rfl (by omega) A1 5 c1 _ rfl (HO.out.alloc _) A m c (l.flatMap arcCells) rfl ?_ ?_ arc_one ?_ ?_ ?_ ?_)
  · rw [flat_len (arc_len l), hA.len]
  · exact RdBy.src (arc_len l) (hA.below (hbw.alloc hbw.size _))
  · unfold maxLen; omega
  · omega
  · simp; omega
  · intro A2 c2 w2 HO2 hg HX
    have hb2 := below_grown (hbw.alloc hbw.size _) hg (HO.out.alloc _) (by omega) (by simp; omega)
    have K2 : Blk w2 w.heap.size 24 #[.int .i64 0, .int .i64 0, .int .i64 0, .slice none 0 0] := (K1.alloc _).grownO hg (HO.out.alloc _) (by decide)
    have L2 : Blk w2 w1.heap.size 24 #[.int .i64 4, .int .i64 0, .int .i64 3, .slice A1 5 c1] := (Blk.new rfl).grownO hg (HO.out.alloc _) (by decide)
    obtain ⟨r0, r1, r2, r3⟩ := L2.at4
    obtain ⟨_, _, _, f3⟩ := L2.free4
    obtain ⟨q0, q1, q2, q3⟩ := K2.at4
    obtain ⟨g0, g1, g2, g3⟩ := K2.free4
    have hne : ¬ w1.heap.size = w.heap.size := by omega
    have hne' : ¬ w.heap.size = w1.heap.size := by omega
    go_wp2
    have hr := HO2.out
    have h1 := own_ne hr L2 (by decide)
    have h2 := own_ne hr K2 (by decide)
    have L3 := (K2.far (p := ⟨w1.heap.size, 3, none⟩) hne' (.slice A2 (5 + m) c2)).set4 (.int .i64 4) (.int .i64 0) (.int .i64 3) (.slice A2 (5 + m) c2)
    obtain ⟨s0, s1, s2, s3⟩ := L3.at4
    refine bodyPost_ret (v := .agg #[.int .i64 4, .int .i64 0, .int .i64 3, .slice A2 (5 + m) c2]) (by simp [results, Try.results18, go_sem, s0, s1, s2, s3]) rfl ⟨_, _, _, rfl, ?_, ?_, ?_⟩
    · rw [List.flatMap_append]
      exact own_less (own_far (own_far (own_far (own_far (own_far hr h1 _) h2 _) h2 _) h2 _) h2 _) (by omega)
    · simp [fourArcs, hA.len]; omega
    · exact ((((hb2.setCell (by simp; omega) _).setCell (by simp) _).setCell (by simp) _).setCell (by simp) _).setCell (by simp) _

end Go.Proofs.Ytfdidjgecdhaiaa
