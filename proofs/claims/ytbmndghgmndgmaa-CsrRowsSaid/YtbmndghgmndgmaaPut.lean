/- Layer 2: what the closure that writes a residual arc does. -/
import Derived.Test.YtbmndghgmndgmaaCsrc
namespace Go.Proofs.Ytbmndghgmndgmaa
open Go.RowKit

set_option maxHeartbeats 1000000 in
theorem put_any (N M : Nat) (S T : Int) (gF gH gR gC gA gB gf gc gr cr : Nat) (cur : Array Value) (F H R C A : List Int) (B : List Bool) (i u cap : Int) (f : Nat) (b : Bool) (pos : Nat) (w : World)
    (hfN : f ≤ N) (hcur : cur[f]? = some (.int .i64 (pos : Int))) (hpos : pos < M) (hM : M ≤ 5000000000000)
    (hH : H.length = M) (hC : C.length = M) (hA : A.length = M) (hB : B.length = M)
    (K1 : Blk w gf 26 #[.slice (some ⟨gr, 0, none⟩) (N + 1) cr])
    (K2 : Blk w gc 30 #[.int .i64 N, .int .i64 S, .int .i64 T, .slice (some ⟨gF, 0, none⟩) (N + 1) (N + 1), .slice (some ⟨gH, 0, none⟩) M M, .slice (some ⟨gR, 0, none⟩) M M, .slice (some ⟨gC, 0, none⟩) M M, .slice (some ⟨gA, 0, none⟩) M M, .slice (some ⟨gB, 0, none⟩) M M])
    (K3 : Blk w gr 3 cur) (hne : gr ≠ gF ∧ gr ≠ gH ∧ gr ≠ gR ∧ gr ≠ gA)
    (CB : CsrBlk w F H R C A B gF gH gR gC gA gB) :
    Calls Try.prog 32 #[.int .i64 i, .agg #[.int .i64 (f : Int), .int .i64 u, .int .i64 cap], .bool b, .pointer (some ⟨gf, 0, none⟩), .pointer (some ⟨gc, 0, none⟩)] w fun e w' =>
      e = .returned (.int .i64 (pos : Int)) ∧ w.heap.size ≤ w'.heap.size ∧ Blk w' gr 3 (cur.setIfInBounds f (.int .i64 ((pos : Int) + 1))) ∧ CsrBlk w' F (H.set pos u) R (C.set pos cap) (A.set pos i) (B.set pos b) gF gH gR gC gA gB ∧
      (∀ n, n ≤ gr → n ≤ gH → n ≤ gC → n ≤ gA → n ≤ gB → n ≤ w.heap.size → Below n w w') ∧
      (∀ g t cs, Blk w g t cs → t ≠ 3 → t ≠ 2 → t ≠ 4 → Blk w' g t cs) := by
  have hz1 := K1.lt
  have hz2 := K2.lt
  have hz3 := K3.lt
  have k0 := K1.cell 0
  have k3 := (K3.cell f).trans hcur
  have q3 := K3.frozen f
  simp only [List.getElem?_toArray, List.getElem?_cons_zero] at k0
  have e1 := K1.ne K3 (by decide)
  have e2 := K2.ne K3 (by decide)
  have e3 := CB.kC.ne K3 (by decide)
  have e4 := CB.kB.ne K3 (by decide)
  go_enter Try.func32, Try.ntmps32
  go_wp2_with fail
  have L2 : Blk ((w.setCell ⟨gr, f, none⟩ (.int .i64 ((pos : Int) + 1))).alloc (.cells #[.int .i64 (f : Int), .int .i64 u, .int .i64 cap] 38)) gc _ _ := (K2.far e2 _).alloc _
  have L3 : Blk ((w.setCell ⟨gr, f, none⟩ (.int .i64 ((pos : Int) + 1))).alloc (.cells #[.int .i64 (f : Int), .int .i64 u, .int .i64 cap] 38)) gr _ _ := (K3.set f (.int .i64 ((pos : Int) + 1))).alloc _
  have L4 : Blk ((w.setCell ⟨gr, f, none⟩ (.int .i64 ((pos : Int) + 1))).alloc (.cells #[.int .i64 (f : Int), .int .i64 u, .int .i64 cap] 38)) w.heap.size 38 #[.int .i64 (f : Int), .int .i64 u, .int .i64 cap] := Blk.new (by simp)
  have L5 : CsrBlk ((w.setCell ⟨gr, f, none⟩ (.int .i64 ((pos : Int) + 1))).alloc (.cells #[.int .i64 (f : Int), .int .i64 u, .int .i64 cap] 38)) F H R C A B gF gH gR gC gA gB := (CB.far ⟨hne.1.symm, hne.2.1.symm, hne.2.2.1.symm, e3, hne.2.2.2.symm, e4⟩ _).alloc _
  have L6 : ∀ n, n ≤ gr → n ≤ w.heap.size → Below n w ((w.setCell ⟨gr, f, none⟩ (.int .i64 ((pos : Int) + 1))).alloc (.cells #[.int .i64 (f : Int), .int .i64 u, .int .i64 cap] 38)) := fun n h1 h2 => ((Below.refl _ _).setCell h1 _).alloc (by simp; exact h2) _
  have L7 : ∀ g t cs, Blk w g t cs → t ≠ 3 → Blk ((w.setCell ⟨gr, f, none⟩ (.int .i64 ((pos : Int) + 1))).alloc (.cells #[.int .i64 (f : Int), .int .i64 u, .int .i64 cap] 38)) g t cs := fun g t cs h ht => (h.far (h.ne K3 ht) _).alloc _
  have L8 : w.heap.size ≤ ((w.setCell ⟨gr, f, none⟩ (.int .i64 ((pos : Int) + 1))).alloc (.cells #[.int .i64 (f : Int), .int .i64 u, .int .i64 cap] 38)).heap.size := by simp
  generalize ((w.setCell ⟨gr, f, none⟩ (.int .i64 ((pos : Int) + 1))).alloc (.cells #[.int .i64 (f : Int), .int .i64 u, .int .i64 cap] 38)) = W at *
  obtain ⟨a0, a1, a2, a3, a4, a5, a6, a7, a8⟩ := L2.at9
  have b0 := L4.cell 0; have b1 := L4.cell 1; have b2 := L4.cell 2
  simp only [List.getElem?_toArray, List.getElem?_cons_zero, List.getElem?_cons_succ] at b0 b1 b2
  have c1 := L5.kH.iat (i := pos) (List.getElem?_eq_getElem (by omega))
  have c2 := L5.kC.iat (i := pos) (List.getElem?_eq_getElem (by omega))
  have c3 := L5.kA.iat (i := pos) (List.getElem?_eq_getElem (by omega))
  have c4 := L5.kB.bat (i := pos) (List.getElem?_eq_getElem (by omega))
  have d1 := L5.kH.frozen pos; have d2 := L5.kC.frozen pos; have d3 := L5.kA.frozen pos; have d4 := L5.kB.frozen pos
  obtain ⟨s1, s2, s3, s4, s5, s6⟩ := L5.ne
  obtain ⟨t1, t2, t3, t4, t5, t6, t7, t8, t9⟩ := L5.diff
  clear k0 k3 q3 K1 K2 K3 CB
  have HL2 := Lib.hid L2; have HL3 := Lib.hid L3; have HL4 := Lib.hid L4; have HL5 := Lib.hid L5; have HL6 := Lib.hid L6; have HL7 := Lib.hid L7; have HL8 := Lib.hid L8
  clear L2 L3 L4 L5 L6 L7 L8
  have y1 := HL5.out.kH.ne HL2.out (by decide); have y2 := HL5.out.kC.ne HL2.out (by decide); have y3 := HL5.out.kA.ne HL2.out (by decide); have y4 := HL5.out.kB.ne HL2.out (by decide)
  have x1 := HL5.out.kH.ne HL4.out (by decide); have x2 := HL5.out.kC.ne HL4.out (by decide); have x3 := HL5.out.kA.ne HL4.out (by decide); have x4 := HL5.out.kB.ne HL4.out (by decide)
  go_region_held3 (fun W' => W'.cell? ⟨gc, 4, none⟩ = some (.slice (some ⟨gH, 0, none⟩) M M) ∧ W'.cell? ⟨gc, 6, none⟩ = some (.slice (some ⟨gC, 0, none⟩) M M) ∧ W'.cell? ⟨gc, 7, none⟩ = some (.slice (some ⟨gA, 0, none⟩) M M) ∧ W'.cell? ⟨gc, 8, none⟩ = some (.slice (some ⟨gB, 0, none⟩) M M) ∧
      W'.cell? ⟨w.heap.size, 1, none⟩ = some (.int .i64 u) ∧ W'.cell? ⟨w.heap.size, 2, none⟩ = some (.int .i64 cap)) (go_keep) (first | fail)
  go_wp2_with fail
  go_ret
  refine ⟨rfl, ?_, ?_, ?_, ?_, ?_⟩
  · simpa using HL8.out
  · exact ((((HL3.out.far hne.2.1 _).far (Ne.symm e3) _).far hne.2.2.2 _).far (Ne.symm e4) _).drew
  · exact ((((HL5.out.setH pos u).setC pos cap).setA pos i).setB pos b).drew
  · intro n h1 h2 h3 h4 h5 h6
    exact (((((HL6.out n h1 h6).setCell h2 _).setCell h3 _).setCell h4 _).setCell h5 _).drew
  · intro g t cs h ht1 ht2 ht3
    have h' := HL7.out g t cs h ht1
    exact ((((h'.far (h'.ne HL5.out.kH ht1) _).far (h'.ne HL5.out.kC ht2) _).far (h'.ne HL5.out.kA ht1) _).far (h'.ne HL5.out.kB ht3) _).drew

end Go.Proofs.Ytbmndghgmndgmaa
