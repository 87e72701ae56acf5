/- Layer 1: Turn. -/
import Derived.Test.YtfcjmhihheeifaaNetd
import Derived.RegionTactic
namespace Go.Proofs.Ytfcjmhihheeifaa
open Go.RowKit

set_option maxHeartbeats 1000000 in
theorem turn_any (N S T : Int) (A : Option Addr) (n c : Nat) (l : List ArcN) (w : World) (hA : Arcs w w.heap.size A n l) (hn : n ≤ 1000000000000) :
    Calls Try.prog 25 #[.agg #[.int .i64 N, .int .i64 S, .int .i64 T, .slice A n c]] w (RetNet N T S (l.map turnArc) w) := by
  go_enter Try.func25, Try.ntmps25
  go_wp2_with fail
  refine (copy_any _ _ _ _ _ _ l _ ((hA.below (((Below.refl _ _).alloc (Nat.le_refl _) _).alloc (by simp) _)).more (by simp; omega)) hn).mono ?_
  rintro e w2 ⟨A1, n1, c1, rfl, hown, hl1, hb2⟩
  obtain rfl : n = n1 := hA.len.symm.trans hl1
  clear hl1
  have HB := Lib.hid hb2
  have K1 : Blk w2 w.heap.size 24 #[.int .i64 N, .int .i64 S, .int .i64 T, .slice A n c] := ((Blk.new rfl).alloc _).below hb2 (by simp; omega)
  have K2 : Blk w2 (w.heap.size + 1) 24 #[.int .i64 0, .int .i64 0, .int .i64 0, .slice none 0 0] := (Blk.new (by simp)).below hb2 (by simp)
  have hz : w.heap.size + 1 < w2.heap.size := K2.lt
  have hz' : w.heap.size < w2.heap.size := K1.lt
  have hb0 : Below w.heap.size w w2 := (((Below.refl _ _).alloc (Nat.le_refl _) _).alloc (by simp) _).trans (hb2.mono (by simp; omega))
  have hown' : w2.ownsRow (w.heap.size + 2) 64 3 (.slice A1 n c1) n (l.flatMap arcCells) := own_less hown (by simp)
  clear hown hb2
  have b0 := K1.cell 0; have b1 := K1.cell 1; have b2 := K1.cell 2; have b3 := K1.cell 3
  simp only [List.getElem?_toArray, List.getElem?_cons_zero, List.getElem?_cons_succ] at b0 b1 b2 b3
  go_wp2_with fail
  go_region
  go_wp2_with fail
  go_loopw [4, 5, 17] (fun _ _ i wr => ∃ k : Nat, k ≤ n ∧ i = .int .i64 k ∧ Below w.heap.size w wr ∧ Blk wr (w.heap.size + 1) 24 #[.int .i64 0, .int .i64 0, .int .i64 0, .slice none 0 0] ∧
      Blk wr w2.heap.size 24 #[.int .i64 N, .int .i64 T, .int .i64 S, .slice A1 n c1] ∧ wr.ownsRow (w.heap.size + 2) 64 3 (.slice A1 n c1) n ((mapTo turnArc l k).flatMap arcCells)) (fun _ _ i _ => n - (intOf i).toNat)
  case atStart => 
    refine ⟨0, Nat.zero_le _, rfl, ?_, ?_, ?_, ?_⟩
    · exact (hb0.alloc hb0.size _).drew
    · exact (K2.alloc _).drew
    · exact (Blk.new rfl).drew
    · rw [mapTo_zero]; exact (hown'.alloc _)
  case round =>
    obtain ⟨k, hk, rfl, hb, L2, L3, ho⟩ := hrel
    have HO := Lib.hid ho; clear ho
    obtain ⟨r0, r1, r2, r3⟩ := L3.at4
    have hz3 : w2.heap.size < wr.heap.size := L3.lt
    by_cases hlt : k < n
    · obtain ⟨b, off, a, rfl, hbl, hla, d0, d1, d2⟩ := arcs_at (hA.below hb) hlt
      obtain ⟨g, rfl, hg1, hg2⟩ := own_form HO.out (by omega)
      obtain ⟨x, _, x0, x1, x2, f0, f1, f2⟩ := own_cells3 HO.out ((mapTo_len _ _ _).trans hA.len) hlt
      have HL := Lib.hid hla; clear hla
      go_wp2
      go_roundw
      case rel =>
        have hne := own_ne HO.out L2 (by decide) g rfl
        have hne' := own_ne HO.out L3 (by decide) g rfl
        refine ⟨k + 1, by omega, by go_num, ?_, ?_, ?_, ?_⟩
        · exact Below.alloc (((hb.setCell (by simp; omega) _).setCell (by simp; omega) _).setCell (by simp; omega) _) (by simp; exact hb.size) _
        · exact (((L2.far (Ne.symm hne) _).far (Ne.symm hne) _).far (Ne.symm hne) _).alloc _
        · exact (((L3.far (Ne.symm hne') _).far (Ne.symm hne') _).far (Ne.symm hne') _).alloc _
        · rw [← mapTo_set turnArc HL.out]
          exact (own_set3 HO.out ((mapTo_len _ _ _).trans hA.len) hlt (turnArc a)).alloc _
      case measure => simp [intOf]; omega
    · obtain ⟨s0, s1, s2, s3⟩ := L2.at4
      obtain ⟨t0, t1, t2, t3⟩ := L2.free4
      go_wp2
      have L4 := L2.set4 (.int .i64 N) (.int .i64 T) (.int .i64 S) (.slice A1 n c1)
      obtain ⟨q0, q1, q2, q3⟩ := L4.at4
      have hne := own_ne HO.out L2 (by decide)
      refine bodyPost_ret (v := .agg #[.int .i64 N, .int .i64 T, .int .i64 S, .slice A1 n c1]) (by simp [results, Try.results25, go_sem, q0, q1, q2, q3]) rfl ⟨_, _, _, rfl, ?_, by simpa using hA.len, ?_⟩
      · have hfin := HO.out
        rw [mapTo_end turnArc l hA.len hlt] at hfin
        exact own_less (own_far (own_far (own_far (own_far hfin hne _) hne _) hne _) hne _) (by omega)
      · exact (((hb.setCell (by simp) _).setCell (by simp) _).setCell (by simp) _).setCell (by simp) _

end Go.Proofs.Ytfcjmhihheeifaa
