/- CsrPairs: the walk. -/
import Derived.Test.YtbmndghgmndgmaaAwake2
import Derived.Test.YtbmndghgmndgmaaSomep
namespace Go.Proofs.Ytbmndghgmndgmaa
open Go.RowKit

theorem nine_keep {w W : World} {g : Nat} {t : TypeId} {v0 v1 v2 v3 v4 v5 v6 v7 v8 : Value} (h : Blk w g t #[v0, v1, v2, v3, v4, v5, v6, v7, v8]) (hb : Below w.heap.size w W) :
    Below w.heap.size w W ∧ W.cell? ⟨g, 0, none⟩ = some v0 ∧ W.cell? ⟨g, 1, none⟩ = some v1 ∧ W.cell? ⟨g, 2, none⟩ = some v2 ∧ W.cell? ⟨g, 3, none⟩ = some v3 ∧ W.cell? ⟨g, 4, none⟩ = some v4 ∧
      W.cell? ⟨g, 5, none⟩ = some v5 ∧ W.cell? ⟨g, 6, none⟩ = some v6 ∧ W.cell? ⟨g, 7, none⟩ = some v7 ∧ W.cell? ⟨g, 8, none⟩ = some v8 := ⟨hb, (h.below hb h.lt).at9⟩

theorem pairs_keep {w W : World} {g gR gA gB k q : Nat} {t : TypeId} {v0 v1 v2 v3 v4 v5 v6 v7 v8 x1 x2 x3 x4 x5 : Value} (h : Blk w g t #[v0, v1, v2, v3, v4, v5, v6, v7, v8])
    (d2 : w.cell? ⟨gR, q, none⟩ = some x1) (e4 : w.cell? ⟨gA, k, none⟩ = some x2) (d4 : w.cell? ⟨gA, q, none⟩ = some x3) (e5 : w.cell? ⟨gB, k, none⟩ = some x4) (d5 : w.cell? ⟨gB, q, none⟩ = some x5)
    (l3 : gR < w.heap.size) (l5 : gA < w.heap.size) (l6 : gB < w.heap.size) (hb : Below w.heap.size w W) :
    Below w.heap.size w W ∧ W.cell? ⟨g, 0, none⟩ = some v0 ∧ W.cell? ⟨g, 1, none⟩ = some v1 ∧ W.cell? ⟨g, 2, none⟩ = some v2 ∧ W.cell? ⟨g, 3, none⟩ = some v3 ∧ W.cell? ⟨g, 4, none⟩ = some v4 ∧
      W.cell? ⟨g, 5, none⟩ = some v5 ∧ W.cell? ⟨g, 6, none⟩ = some v6 ∧ W.cell? ⟨g, 7, none⟩ = some v7 ∧ W.cell? ⟨g, 8, none⟩ = some v8 ∧
      W.cell? ⟨gR, q, none⟩ = some x1 ∧ W.cell? ⟨gA, k, none⟩ = some x2 ∧ W.cell? ⟨gA, q, none⟩ = some x3 ∧ W.cell? ⟨gB, k, none⟩ = some x4 ∧ W.cell? ⟨gB, q, none⟩ = some x5 := by
  obtain ⟨b0, b1, b2, b3, b4, b5, b6, b7, b8⟩ := (h.below hb h.lt).at9
  exact ⟨hb, b0, b1, b2, b3, b4, b5, b6, b7, b8, (hb.cell l3).trans d2, (hb.cell l5).trans e4, (hb.cell l5).trans d4, (hb.cell l6).trans e5, (hb.cell l6).trans d5⟩
set_option maxRecDepth 100000 in
set_option maxHeartbeats 8000000 in
theorem pairs_walk (N S T : Int) (A : Option Addr) (n c : Nat) (l : List ArcN) (w : World) (hA : Arcs w w.heap.size A n l) (hf : FitsAll l) (hnc : n ≤ c) :
    Calls Try.prog 3 #[.agg #[.int .i64 N, .int .i64 S, .int .i64 T, .slice A n c]] w fun e w' => e = .returned (.bool true) ∧ Below w.heap.size w w' := by
  have hso := fun W hW => some_any N S T A n c 40 80 l W hW hf hnc (by omega) (by omega) (by omega)
  obtain ⟨N1, hN1, hN2, hN3, hck, hln, hmem⟩ := some_net N S T 40 80 l (by omega) (by omega) (by omega)
  rw [hN1] at hso hck hln hmem
  generalize S % (N1 : Int) = S1 at *
  generalize someT (N1 : Int) S T = T1 at *
  generalize someL (N1 : Int) 80 l = l1 at *
  obtain ⟨-, -, hE⟩ := ends_of_check hck
  have hM := csr_size (N := N1) (l := l1) (by omega) (by omega)
  obtain ⟨M, hMe⟩ : ∃ M, firstOf l1 N1 = M := ⟨_, rfl⟩
  rw [hMe] at hM
  have HSO := Lib.hid hso; have HCK := Lib.hid hck; have HMEM := Lib.hid hmem
  clear hso hck hmem hN1
  go_enter Try.func3, Try.ntmps3
  go_wp2_with fail
  refine (HSO.out _ (hA.onAlloc _)).mono ?_
  rintro e w1 ⟨A1, n1, c1, rfl, o1, hl1, B1⟩
  have K1 : Blk w1 w.heap.size 24 #[.int .i64 N, .int .i64 S, .int .i64 T, .slice A n c] := (Blk.new rfl).below B1 (by simp)
  have hz1 := K1.lt
  obtain ⟨r0, r1, r2, r3⟩ := K1.at4
  obtain ⟨f0, f1, f2, f3⟩ := K1.free4
  have ST := some_stored K1 o1 hl1 (below_step (below_alloc _) B1) (.int .i64 (N1 : Int)) (.int .i64 S1) (.int .i64 T1)
  go_wp2_with fail
  generalize (((w1.setCell ⟨w.heap.size, 0, none⟩ (.int .i64 (N1 : Int))).setCell ⟨w.heap.size, 1, none⟩ (.int .i64 S1)).setCell ⟨w.heap.size, 2, none⟩ (.int .i64 T1)).setCell ⟨w.heap.size, 3, none⟩ (.slice A1 n1 c1) = w2 at *
  obtain ⟨K2, a2, Bw2⟩ := ST
  clear r0 r1 r2 r3 f0 f1 f2 f3 K1 o1 B1 hz1 HSO
  refine (make_good N1 S1 T1 A1 n1 c1 l1 _ a2 HCK.out).mono ?_
  rintro e w3 ⟨gF, gH, gR, gC, gA, gB, rfl, hg, C3, B3⟩
  rw [hMe]
  have K3 := K2.below B3 K2.lt
  have a3 := a2.on B3
  have Bw3 := below_step Bw2 B3
  clear K2 a2 Bw2 B3
  have hz3 := K3.lt
  go_wp2_with fail
  have K4 : Blk (w3.alloc (.cells #[.int .i64 (N1 : Int), .int .i64 S1, .int .i64 T1, .slice (some ⟨gF, 0, none⟩) (N1 + 1) (N1 + 1), .slice (some ⟨gH, 0, none⟩) M M, .slice (some ⟨gR, 0, none⟩) M M, .slice (some ⟨gC, 0, none⟩) M M, .slice (some ⟨gA, 0, none⟩) M M, .slice (some ⟨gB, 0, none⟩) M M] 30)) w3.heap.size 30 #[.int .i64 (N1 : Int), .int .i64 S1, .int .i64 T1, .slice (some ⟨gF, 0, none⟩) (N1 + 1) (N1 + 1), .slice (some ⟨gH, 0, none⟩) M M, .slice (some ⟨gR, 0, none⟩) M M, .slice (some ⟨gC, 0, none⟩) M M, .slice (some ⟨gA, 0, none⟩) M M, .slice (some ⟨gB, 0, none⟩) M M] := Blk.new rfl
  have C4 := C3.onAlloc (.cells #[.int .i64 (N1 : Int), .int .i64 S1, .int .i64 T1, .slice (some ⟨gF, 0, none⟩) (N1 + 1) (N1 + 1), .slice (some ⟨gH, 0, none⟩) M M, .slice (some ⟨gR, 0, none⟩) M M, .slice (some ⟨gC, 0, none⟩) M M, .slice (some ⟨gA, 0, none⟩) M M, .slice (some ⟨gB, 0, none⟩) M M] 30)
  have a4 := a3.onAlloc (.cells #[.int .i64 (N1 : Int), .int .i64 S1, .int .i64 T1, .slice (some ⟨gF, 0, none⟩) (N1 + 1) (N1 + 1), .slice (some ⟨gH, 0, none⟩) M M, .slice (some ⟨gR, 0, none⟩) M M, .slice (some ⟨gC, 0, none⟩) M M, .slice (some ⟨gA, 0, none⟩) M M, .slice (some ⟨gB, 0, none⟩) M M] 30)
  have KN4 := K3.alloc (.cells #[.int .i64 (N1 : Int), .int .i64 S1, .int .i64 T1, .slice (some ⟨gF, 0, none⟩) (N1 + 1) (N1 + 1), .slice (some ⟨gH, 0, none⟩) M M, .slice (some ⟨gR, 0, none⟩) M M, .slice (some ⟨gC, 0, none⟩) M M, .slice (some ⟨gA, 0, none⟩) M M, .slice (some ⟨gB, 0, none⟩) M M] 30)
  have Bw4 := Bw3.alloc Bw3.size (.cells #[.int .i64 (N1 : Int), .int .i64 S1, .int .i64 T1, .slice (some ⟨gF, 0, none⟩) (N1 + 1) (N1 + 1), .slice (some ⟨gH, 0, none⟩) M M, .slice (some ⟨gR, 0, none⟩) M M, .slice (some ⟨gC, 0, none⟩) M M, .slice (some ⟨gA, 0, none⟩) M M, .slice (some ⟨gB, 0, none⟩) M M] 30)
  generalize (w3.alloc (.cells #[.int .i64 (N1 : Int), .int .i64 S1, .int .i64 T1, .slice (some ⟨gF, 0, none⟩) (N1 + 1) (N1 + 1), .slice (some ⟨gH, 0, none⟩) M M, .slice (some ⟨gR, 0, none⟩) M M, .slice (some ⟨gC, 0, none⟩) M M, .slice (some ⟨gA, 0, none⟩) M M, .slice (some ⟨gB, 0, none⟩) M M] 30)) = w4 at *
  clear K3 C3 a3 Bw3
  go_region_held3 (fun W => Below w4.heap.size w4 W ∧ W.cell? ⟨w3.heap.size, 0, none⟩ = some (.int .i64 (N1 : Int)) ∧ W.cell? ⟨w3.heap.size, 1, none⟩ = some (.int .i64 S1) ∧ W.cell? ⟨w3.heap.size, 2, none⟩ = some (.int .i64 T1) ∧ W.cell? ⟨w3.heap.size, 3, none⟩ = some (.slice (some ⟨gF, 0, none⟩) (N1 + 1) (N1 + 1)) ∧ W.cell? ⟨w3.heap.size, 4, none⟩ = some (.slice (some ⟨gH, 0, none⟩) M M) ∧ W.cell? ⟨w3.heap.size, 5, none⟩ = some (.slice (some ⟨gR, 0, none⟩) M M) ∧ W.cell? ⟨w3.heap.size, 6, none⟩ = some (.slice (some ⟨gC, 0, none⟩) M M) ∧ W.cell? ⟨w3.heap.size, 7, none⟩ = some (.slice (some ⟨gA, 0, none⟩) M M) ∧ W.cell? ⟨w3.heap.size, 8, none⟩ = some (.slice (some ⟨gB, 0, none⟩) M M))
    (first
      | exact nine_keep K4 (Below.refl _ _).drew
      | (go_split_ands
         exact nine_keep K4 (by refine below_step ?_ (by assumption); assumption)))
    (first
      | (go_at_call 9; ((with_reducible refine (len_any _ _ _ _ _ _ _ _ _ _ _).mono ?_); rintro e W4 ⟨rfl, B4⟩)))
  go_split_ands
  have hbW : Below w4.heap.size w4 W4 := by assumption
  have K5 := K4.below hbW K4.lt
  obtain ⟨a0, a1, a2, a3, a4', a5, a6, a7, a8⟩ := K5.at9
  go_wp2_with fail
  refine (len_any _ _ _ _ _ _ _ _ _ _ _).mono ?_
  rintro e w5 ⟨rfl, B5⟩
  have hb5 := below_step hbW B5
  clear a0 a1 a2 a3 a4' a5 a6 a7 a8 K5 hbW B5
  go_wp2_with fail
  go_loopw [5, 6, 7, 8, 9, 10, 11, 55] (fun _ _ _ _ _ _ _ i wr => ∃ k : Nat, k ≤ M ∧ i = .int .i64 k ∧ Below w4.heap.size w4 wr) (fun _ _ _ _ _ _ _ i _ => M - (intOf i).toNat)
  case atStart => exact ⟨0, Nat.zero_le _, rfl, hb5⟩
  case round =>
    obtain ⟨k, hk, rfl, hbr⟩ := hrel
    have Kr := K4.below hbr K4.lt
    obtain ⟨a0, a1, a2, a3, a4', a5, a6, a7, a8⟩ := Kr.at9
    have hzr := Kr.lt
    by_cases hlt : k < M
    · have Cr := C4.on hbr
      obtain ⟨i, q, v, u, b, c, hI, hpos, hqos, hq, e1, e2, e3, e4, e5⟩ := Cr.at hE (show k < firstOf l1 N1 by omega)
      obtain ⟨c', hI'⟩ := hI.flip
      obtain ⟨d1, d2, d3, d4, d5⟩ := Cr.ent _ _ _ _ _ hI'
      rw [hqos] at d1 d2 d3 d4 d5
      rw [hpos] at d2
      have hqM : q < M := by omega
      have hqk : ¬ (q : Int) = (k : Int) := fun e => hI.1 (pos_inj hI hI' (hI.ends hE).1 (hI'.ends hE).1 (by omega)).1
      have hbb : (b == !b) = false := by cases b <;> rfl
      have g1 : decide ((M : Int) ≤ (q : Int)) = false := by simp; omega
      have g2 : ((q : Int) == (k : Int)) = false := by simpa using hqk
      have g3 : decide ((q : Int) = (k : Int)) = false := by simpa using hqk
      have g4 : decide (M ≤ q) = false := by simp; omega
      have g5 : ¬ M ≤ q := by omega
      have g6 : ¬ q = k := by omega
      have g7 : decide (q = k) = false := by simpa using g6
      obtain ⟨l1', l2, l3, l4, l5, l6⟩ := Cr.lt
      have HI := Lib.hid hI; have HI' := Lib.hid hI'; have HP := Lib.hid hpos; have HQ := Lib.hid hqos; have HC := Lib.hid Cr; have HK := Lib.hid Kr
      clear hI hI' hpos hqos Cr Kr
      go_wp2_with fail
      go_region_held3 (fun W => Below wr.heap.size wr W ∧ W.cell? ⟨w3.heap.size, 0, none⟩ = some (.int .i64 (N1 : Int)) ∧ W.cell? ⟨w3.heap.size, 1, none⟩ = some (.int .i64 S1) ∧ W.cell? ⟨w3.heap.size, 2, none⟩ = some (.int .i64 T1) ∧ W.cell? ⟨w3.heap.size, 3, none⟩ = some (.slice (some ⟨gF, 0, none⟩) (N1 + 1) (N1 + 1)) ∧ W.cell? ⟨w3.heap.size, 4, none⟩ = some (.slice (some ⟨gH, 0, none⟩) M M) ∧ W.cell? ⟨w3.heap.size, 5, none⟩ = some (.slice (some ⟨gR, 0, none⟩) M M) ∧ W.cell? ⟨w3.heap.size, 6, none⟩ = some (.slice (some ⟨gC, 0, none⟩) M M) ∧ W.cell? ⟨w3.heap.size, 7, none⟩ = some (.slice (some ⟨gA, 0, none⟩) M M) ∧ W.cell? ⟨w3.heap.size, 8, none⟩ = some (.slice (some ⟨gB, 0, none⟩) M M) ∧ W.cell? ⟨gR, q, none⟩ = some (.int .i64 (k : Int)) ∧ W.cell? ⟨gA, k, none⟩ = some (.int .i64 (i : Int)) ∧ W.cell? ⟨gA, q, none⟩ = some (.int .i64 (i : Int)) ∧ W.cell? ⟨gB, k, none⟩ = some (.bool b) ∧ W.cell? ⟨gB, q, none⟩ = some (.bool (!b)))
        (first
          | exact pairs_keep HK.out d2 e4 d4 e5 d5 l3 l5 l6 (Below.refl _ _).drew
          | (go_split_ands
             exact pairs_keep HK.out d2 e4 d4 e5 d5 l3 l5 l6 (by refine below_step ?_ (by assumption); assumption)))
        (first
          | (go_at_call 9; ((with_reducible refine (len_any _ _ _ _ _ _ _ _ _ _ _).mono ?_); rintro e W4 ⟨rfl, B4⟩)))
      go_split_ands
      have hb6 : Below wr.heap.size wr W4 := by assumption
      have C6 := HC.out.on hb6
      have K6 := HK.out.below hb6 HK.out.lt
      have T1' := tail_at N1 S1 T1 gF gH gR gC gA gB l1 i k v u b c W4 C6 hE HI.out HP.out
      rw [hMe] at T1'
      have HT1 := Lib.hid T1'; clear T1'
      go_wp2_with fail
      refine HT1.out.mono ?_
      rintro e w7 ⟨rfl, B7⟩
      have hb7 := below_step hb6 B7
      have K7 := K6.below B7 K6.lt
      have T2' := tail_at N1 S1 T1 gF gH gR gC gA gB l1 i q u v (!b) c' w7 (C6.on B7) hE HI'.out HQ.out
      rw [hMe] at T2'
      have HT2 := Lib.hid T2'; clear T2' HT1 C6 B7 hb6
      clear a0 a1 a2 a3 a4' a5 a6 a7 a8
      obtain ⟨a0, a1, a2, a3, a4', a5, a6, a7, a8⟩ := K7.at9
      go_wp2_with fail
      refine HT2.out.mono ?_
      rintro e w8 ⟨rfl, B8⟩
      have hb8 := below_step hb7 B8
      have K8 := K7.below B8 K7.lt
      clear a0 a1 a2 a3 a4' a5 a6 a7 a8
      obtain ⟨a0, a1, a2, a3, a4', a5, a6, a7, a8⟩ := K8.at9
      have x1 := (hb8.cell (p := ⟨gH, k, none⟩) l2).trans e1
      have x2 := (hb8.cell (p := ⟨gH, q, none⟩) l2).trans d1
      have x3 := (hb8.cell (p := ⟨gA, k, none⟩) l5).trans e4
      have x4 := (hb8.cell (p := ⟨gB, k, none⟩) l6).trans e5
      have x5 := (hb8.cell (p := ⟨gC, k, none⟩) l4).trans e3
      have KN8 := (KN4.below hbr KN4.lt).below hb8 (KN4.below hbr KN4.lt).lt
      obtain ⟨y0, y1, y2, y3⟩ := KN8.at4
      obtain ⟨ba, off, ar, rfl, hba, hla, z0, z1, z2⟩ := arcs_at ((a4.on hbr).on hb8) (k := i) (by have := HI.out.lt; omega)
      have hin : (i : Int) < (n1 : Int) := by have := HI.out.lt; omega
      have hbrel : (b = false → ar.frm = v ∧ ar.to = u ∧ ar.cap = c) ∧ (b = true → c = 0) := by
        obtain ⟨_, a', ha', hh⟩ := HI.out
        rw [hla] at ha'
        injection ha' with ha'
        subst ha'
        rcases hh with ⟨h0, h1, h2, h3⟩ | ⟨h0, h1, h2, h3⟩
        · exact ⟨fun _ => ⟨h1, h2, h3.symm⟩, fun h => by rw [h0] at h; cases h⟩
        · exact ⟨fun h => (by rw [h0] at h; cases h), fun _ => h3⟩
      have hz8 := K8.lt
      have hzn8 := KN8.lt
      have hlA : gA < w8.heap.size := by have := hb8.size; omega
      have hlB : gB < w8.heap.size := by have := hb8.size; omega
      have hlC : gC < w8.heap.size := by have := hb8.size; omega
      have HREL := Lib.hid hbrel; clear hbrel
      have Bw8 := below_step hbr hb8
      clear e1 e2 e3 e4 e5 d1 d2 d3 d4 d5 B8 hb7 K7 HT2 hla
      go_wp2_with fail
      go_region_held3 (fun W => W.cell? ⟨w.heap.size, 3, none⟩ = some (.slice (some ⟨ba, off, none⟩) n1 c1) ∧ W.cell? ⟨w3.heap.size, 7, none⟩ = some (.slice (some ⟨gA, 0, none⟩) M M) ∧ W.cell? ⟨gA, k, none⟩ = some (.int .i64 (i : Int)) ∧
          W.cell? ⟨ba, off + i * 3, none⟩ = some (.int .i64 ar.frm) ∧ W.cell? ⟨ba, off + i * 3 + 1, none⟩ = some (.int .i64 ar.to) ∧ W.cell? ⟨ba, off + i * 3 + 2, none⟩ = some (.int .i64 ar.cap)) (go_keep) (first | fail)
      go_split_ands
      have E9 : Blk (w8.alloc (.cells #[.int .i64 ar.frm, .int .i64 ar.to, .int .i64 ar.cap] 38)) w8.heap.size 38 #[.int .i64 ar.frm, .int .i64 ar.to, .int .i64 ar.cap] := Blk.new rfl
      have K9 := K8.alloc (.cells #[.int .i64 ar.frm, .int .i64 ar.to, .int .i64 ar.cap] 38)
      have hb9 : Below w8.heap.size w8 (w8.alloc (.cells #[.int .i64 ar.frm, .int .i64 ar.to, .int .i64 ar.cap] 38)) := below_alloc _
      have hb49 := Bw8.alloc Bw8.size (.cells #[.int .i64 ar.frm, .int .i64 ar.to, .int .i64 ar.cap] 38)
      have t4 := (hb9.cell (p := ⟨gB, k, none⟩) hlB).trans x4
      have t5 := (hb9.cell (p := ⟨gC, k, none⟩) hlC).trans x5
      generalize (w8.alloc (.cells #[.int .i64 ar.frm, .int .i64 ar.to, .int .i64 ar.cap] 38)) = w9 at *
      clear a0 a1 a2 a3 a4' a5 a6 a7 a8 x1 x2 x3 x4 x5 y0 y1 y2 y3 z0 z1 z2
      obtain ⟨a0, a1, a2, a3, a4', a5, a6, a7, a8⟩ := K9.at9
      have e0 := E9.cell 0; have e1 := E9.cell 1; have e2 := E9.cell 2
      simp only [List.getElem?_toArray, List.getElem?_cons_zero, List.getElem?_cons_succ] at e0 e1 e2
      cases b with
      | false =>
        obtain ⟨rfl, rfl, rfl⟩ := HREL.out.1 rfl
        go_wp2_with fail
        go_quiet (fail)
        go_wp2_with fail
        go_roundw
        case rel =>
          first
            | exact ⟨k + 1, by omega, by go_num, below_drewN' hb49.drew _⟩
            | exact ⟨k + 1, by omega, by go_num, below_drewN' hb49 _⟩
            | exact ⟨k + 1, by omega, by go_num, below_drewN' (below_drewN' hb49 _) _⟩
        case measure => simp [intOf]; omega
      | true =>
        obtain rfl := HREL.out.2 rfl
        go_wp2_with fail
        go_quiet (fail)
        go_wp2_with fail
        go_roundw
        case rel =>
          first
            | exact ⟨k + 1, by omega, by go_num, below_drewN' hb49.drew _⟩
            | exact ⟨k + 1, by omega, by go_num, below_drewN' hb49 _⟩
            | exact ⟨k + 1, by omega, by go_num, below_drewN' (below_drewN' hb49 _) _⟩
        case measure => simp [intOf]; omega
    · go_wp2_with fail
      refine (awake2_any _).mono ?_
      rintro e w9 ⟨rfl, B9⟩
      go_wp2_with fail
      go_ret
      exact ⟨rfl, below_step (Bw4.trans (hbr.mono Bw4.size)) B9⟩

end Go.Proofs.Ytbmndghgmndgmaa
