/- CsrRows: the walk. -/
import Derived.Test.YtbmndghgmndgmaaAwake2
import Derived.Test.YtbmndghgmndgmaaSomep
import Derived.Test.YtbmndghgmndgmaaRowsp
namespace Go.Proofs.Ytbmndghgmndgmaa
open Go.RowKit

theorem rows_keep {w W : World} {g g1 g2 k : Nat} {t : TypeId} {v0 v1 v2 v3 v4 v5 v6 v7 v8 x1 x2 x3 : Value} (h : Blk w g t #[v0, v1, v2, v3, v4, v5, v6, v7, v8]) (h1 : w.cell? ⟨g1, 0, none⟩ = some x1) (l1 : g1 < w.heap.size) (h2 : w.cell? ⟨g2, 0, none⟩ = some x2) (h3 : w.cell? ⟨g2, k, none⟩ = some x3) (l2 : g2 < w.heap.size) (hb : Below w.heap.size w W) :
    Below w.heap.size w W ∧ W.cell? ⟨g, 0, none⟩ = some v0 ∧ W.cell? ⟨g, 1, none⟩ = some v1 ∧ W.cell? ⟨g, 2, none⟩ = some v2 ∧ W.cell? ⟨g, 3, none⟩ = some v3 ∧ W.cell? ⟨g, 4, none⟩ = some v4 ∧
      W.cell? ⟨g, 5, none⟩ = some v5 ∧ W.cell? ⟨g, 6, none⟩ = some v6 ∧ W.cell? ⟨g, 7, none⟩ = some v7 ∧ W.cell? ⟨g, 8, none⟩ = some v8 ∧ W.cell? ⟨g1, 0, none⟩ = some x1 ∧ W.cell? ⟨g2, 0, none⟩ = some x2 ∧ W.cell? ⟨g2, k, none⟩ = some x3 := by
  obtain ⟨b0, b1, b2, b3, b4, b5, b6, b7, b8⟩ := (h.below hb h.lt).at9
  exact ⟨hb, b0, b1, b2, b3, b4, b5, b6, b7, b8, (hb.cell l1).trans h1, (hb.cell l2).trans h2, (hb.cell l2).trans h3⟩

theorem wrap64 (n : Int) (h0 : 0 ≤ n) (h1 : n < 9223372036854775808) : IntKind.i64.wrap n = n := by
  simp [IntKind.wrap, IntKind.bits, IntKind.signed]
  omega

set_option maxRecDepth 100000 in
set_option maxHeartbeats 20000000 in
theorem rowsc_walk (N S T : Int) (A : Option Addr) (n c : Nat) (l : List ArcN) (w : World) (hA : Arcs w w.heap.size A n l) (hf : FitsAll l) (hnc : n ≤ c) :
    Calls Try.prog 4 #[.agg #[.int .i64 N, .int .i64 S, .int .i64 T, .slice A n c]] w fun e w' => e = .returned (.bool true) ∧ Below w.heap.size w w' := by
  have hso := fun W hW => some_any N S T A n c 40 80 l W hW hf hnc (by omega) (by omega) (by omega)
  obtain ⟨N1, hN1, hN2, hN3, hck, hln, hmem⟩ := some_net N S T 40 80 l (by omega) (by omega) (by omega)
  rw [hN1] at hso hck hln hmem
  generalize S % (N1 : Int) = S1 at *
  generalize someT (N1 : Int) S T = T1 at *
  generalize someL (N1 : Int) 80 l = l1 at *
  obtain ⟨-, -, hE⟩ := ends_of_check hck
  have hM := csr_size (N := N1) (l := l1) (by omega) (by omega)
  obtain ⟨M, hMe⟩ : ∃ M, firstOf l1 N1 = M := ⟨_, rfl⟩
  rw [hMe] at hM
  have HSO := Lib.hid hso; have HCK := Lib.hid hck
  clear hso hck hmem hN1
  go_enter Try.func4, Try.ntmps4
  go_wp2_with fail
  refine (HSO.out _ (hA.onAlloc _)).mono ?_
  rintro e w1 ⟨A1, n1, c1, rfl, o1, hl1, B1⟩
  have K1 : Blk w1 w.heap.size 24 #[.int .i64 N, .int .i64 S, .int .i64 T, .slice A n c] := (Blk.new rfl).below B1 (by simp)
  have hz1 := K1.lt
  obtain ⟨r0, r1, r2, r3⟩ := K1.at4
  obtain ⟨f0, f1, f2, f3⟩ := K1.free4
  have ST := some_stored K1 o1 hl1 (below_step (below_alloc _) B1) (.int .i64 (N1 : Int)) (.int .i64 S1) (.int .i64 T1)
  have hn1 : n1 ≤ 80 := by omega
  go_wp2_with fail
  generalize (((w1.setCell ⟨w.heap.size, 0, none⟩ (.int .i64 (N1 : Int))).setCell ⟨w.heap.size, 1, none⟩ (.int .i64 S1)).setCell ⟨w.heap.size, 2, none⟩ (.int .i64 T1)).setCell ⟨w.heap.size, 3, none⟩ (.slice A1 n1 c1) = w2 at *
  obtain ⟨K2, a2, Bw2⟩ := ST
  clear r0 r1 r2 r3 f0 f1 f2 f3 K1 o1 B1 hz1 HSO
  refine (make_good N1 S1 T1 A1 n1 c1 l1 _ a2 HCK.out).mono ?_
  rintro e w3 ⟨gF, gH, gR, gC, gA, gB, rfl, hg, C3, B3⟩
  rw [hMe]
  have K3 := K2.below B3 K2.lt
  have a3 := a2.on B3
  have Bw3 := below_step Bw2 B3
  clear K2 a2 Bw2 B3
  have hz3 := K3.lt
  go_wp2_with fail
  have K4 : Blk (w3.alloc (.cells #[.int .i64 (N1 : Int), .int .i64 S1, .int .i64 T1, .slice (some ⟨gF, 0, none⟩) (N1 + 1) (N1 + 1), .slice (some ⟨gH, 0, none⟩) M M, .slice (some ⟨gR, 0, none⟩) M M, .slice (some ⟨gC, 0, none⟩) M M, .slice (some ⟨gA, 0, none⟩) M M, .slice (some ⟨gB, 0, none⟩) M M] 30)) w3.heap.size 30 #[.int .i64 (N1 : Int), .int .i64 S1, .int .i64 T1, .slice (some ⟨gF, 0, none⟩) (N1 + 1) (N1 + 1), .slice (some ⟨gH, 0, none⟩) M M, .slice (some ⟨gR, 0, none⟩) M M, .slice (some ⟨gC, 0, none⟩) M M, .slice (some ⟨gA, 0, none⟩) M M, .slice (some ⟨gB, 0, none⟩) M M] := Blk.new rfl
  have C4 := C3.onAlloc (.cells #[.int .i64 (N1 : Int), .int .i64 S1, .int .i64 T1, .slice (some ⟨gF, 0, none⟩) (N1 + 1) (N1 + 1), .slice (some ⟨gH, 0, none⟩) M M, .slice (some ⟨gR, 0, none⟩) M M, .slice (some ⟨gC, 0, none⟩) M M, .slice (some ⟨gA, 0, none⟩) M M, .slice (some ⟨gB, 0, none⟩) M M] 30)
  have a4 := a3.onAlloc (.cells #[.int .i64 (N1 : Int), .int .i64 S1, .int .i64 T1, .slice (some ⟨gF, 0, none⟩) (N1 + 1) (N1 + 1), .slice (some ⟨gH, 0, none⟩) M M, .slice (some ⟨gR, 0, none⟩) M M, .slice (some ⟨gC, 0, none⟩) M M, .slice (some ⟨gA, 0, none⟩) M M, .slice (some ⟨gB, 0, none⟩) M M] 30)
  have KN4 := K3.alloc (.cells #[.int .i64 (N1 : Int), .int .i64 S1, .int .i64 T1, .slice (some ⟨gF, 0, none⟩) (N1 + 1) (N1 + 1), .slice (some ⟨gH, 0, none⟩) M M, .slice (some ⟨gR, 0, none⟩) M M, .slice (some ⟨gC, 0, none⟩) M M, .slice (some ⟨gA, 0, none⟩) M M, .slice (some ⟨gB, 0, none⟩) M M] 30)
  have Bw4 := Bw3.alloc Bw3.size (.cells #[.int .i64 (N1 : Int), .int .i64 S1, .int .i64 T1, .slice (some ⟨gF, 0, none⟩) (N1 + 1) (N1 + 1), .slice (some ⟨gH, 0, none⟩) M M, .slice (some ⟨gR, 0, none⟩) M M, .slice (some ⟨gC, 0, none⟩) M M, .slice (some ⟨gA, 0, none⟩) M M, .slice (some ⟨gB, 0, none⟩) M M] 30)
  generalize (w3.alloc (.cells #[.int .i64 (N1 : Int), .int .i64 S1, .int .i64 T1, .slice (some ⟨gF, 0, none⟩) (N1 + 1) (N1 + 1), .slice (some ⟨gH, 0, none⟩) M M, .slice (some ⟨gR, 0, none⟩) M M, .slice (some ⟨gC, 0, none⟩) M M, .slice (some ⟨gA, 0, none⟩) M M, .slice (some ⟨gB, 0, none⟩) M M] 30)) = w4 at *
  clear K3 C3 a3 Bw3
  obtain ⟨y0, y1, y2, y3⟩ := KN4.at4
  have h0 : w4.cell? ⟨gF, 0, none⟩ = some (.int .i64 0) := C4.first 0 (by omega)
  have hNc : w4.cell? ⟨gF, N1, none⟩ = some (.int .i64 (M : Int)) := by rw [← hMe]; exact C4.first N1 (Nat.le_refl _)
  have g3 : (N1 : Int) < (N1 : Int) + 1 := by omega
  have g4 : N1 < N1 + 1 := by omega
  have g5 : (0 : Int) ≤ (N1 : Int) := by omega
  have g1 : IntKind.i64.wrap ((N1 : Int) + 1) = (N1 : Int) + 1 := wrap64 _ (by omega) (by omega)
  go_region_held3 (fun W => Below w4.heap.size w4 W ∧ W.cell? ⟨w3.heap.size, 0, none⟩ = some (.int .i64 (N1 : Int)) ∧ W.cell? ⟨w3.heap.size, 1, none⟩ = some (.int .i64 S1) ∧ W.cell? ⟨w3.heap.size, 2, none⟩ = some (.int .i64 T1) ∧ W.cell? ⟨w3.heap.size, 3, none⟩ = some (.slice (some ⟨gF, 0, none⟩) (N1 + 1) (N1 + 1)) ∧ W.cell? ⟨w3.heap.size, 4, none⟩ = some (.slice (some ⟨gH, 0, none⟩) M M) ∧ W.cell? ⟨w3.heap.size, 5, none⟩ = some (.slice (some ⟨gR, 0, none⟩) M M) ∧ W.cell? ⟨w3.heap.size, 6, none⟩ = some (.slice (some ⟨gC, 0, none⟩) M M) ∧ W.cell? ⟨w3.heap.size, 7, none⟩ = some (.slice (some ⟨gA, 0, none⟩) M M) ∧ W.cell? ⟨w3.heap.size, 8, none⟩ = some (.slice (some ⟨gB, 0, none⟩) M M) ∧ W.cell? ⟨w.heap.size, 0, none⟩ = some (.int .i64 (N1 : Int)) ∧ W.cell? ⟨gF, 0, none⟩ = some (.int .i64 0) ∧ W.cell? ⟨gF, N1, none⟩ = some (.int .i64 (M : Int)))
    (first
      | exact rows_keep K4 y0 KN4.lt h0 hNc C4.lt.1 (Below.refl _ _).drew
      | (go_split_ands
         exact rows_keep K4 y0 KN4.lt h0 hNc C4.lt.1 (by refine below_step ?_ (by assumption); assumption)))
    (first
      | (go_at_call 9; ((with_reducible refine (len_any _ _ _ _ _ _ _ _ _ _ _).mono ?_); rintro e W4 ⟨rfl, B4⟩)))
  go_split_ands
  have hbW : Below w4.heap.size w4 W4 := by assumption
  have K5 := K4.below hbW K4.lt
  have C5 := C4.on hbW
  have a5 := a4.on hbW
  have KN5 := KN4.below hbW KN4.lt
  have Bw5 := below_step Bw4 hbW
  have hz5 := K5.lt
  have hzn5 := KN5.lt
  clear y0 y1 y2 y3
  obtain ⟨y0, y1, y2, y3⟩ := KN5.at4
  obtain ⟨i1, hi, hq0, hq1, hq2⟩ := info_parts int_info
  have hml := fun W => run_make_lit (P := Try.prog) 26 3 i1 _ Try.underlying26 hi hq0 n1 (by rw [hq2]; omega) (by omega) W
  rw [hq1, ivs_made] at hml
  clear hi hq0 hq1 hq2
  go_wp2_with fail
  go_loopw [6, 7, 8, 9, 56] (fun _ _ _ _ i wr => ∃ (v : Nat) (Y : List Int), v ≤ N1 ∧ i = .int .i64 v ∧ ManyTo l1 (firstOf l1 v) Y ∧ Blk wr W4.heap.size 3 (ivs Y) ∧ Below W4.heap.size W4 wr) (fun _ _ _ _ i _ => N1 - (intOf i).toNat)
  case atStart =>
    refine ⟨0, _, Nat.zero_le _, rfl, ?_, Blk.new rfl, below_alloc _⟩
    have := ManyTo.zero l1
    rwa [hl1] at this
  case round =>
    clear hml
    obtain ⟨v, Y, hv, rfl, MY, YB, hb⟩ := hrel
    by_cases hvN : v < N1
    · have Kr := K5.below hb K5.lt
      have Cr := C5.below hb
      obtain ⟨a0, a1, a2, a3, a4', a5', a6, a7, a8⟩ := Kr.at9
      have q1 := Cr.first v (by omega)
      have q2 := Cr.first (v + 1) (by omega)
      have hmono := firstOf_mono l1 (show v ≤ v + 1 by omega)
      have hgt : decide ((firstOf l1 (v + 1) : Int) < (firstOf l1 v : Int)) = false := by simp; omega
      have hgtn : decide (firstOf l1 (v + 1) < firstOf l1 v) = false := by simp; omega
      have hvv : v + 1 ≤ N1 := by omega
      have hfin : firstOf l1 (v + 1) ≤ M := by rw [← hMe]; exact firstOf_mono l1 hvv
      have HMY := Lib.hid MY; clear MY
      go_wp2_with fail
      go_quiet (fail)
      go_wp2_with fail
      have YB1 := YB.drewN nq
      have hb1 := below_drewN' hb nq
      clear a0 a1 a2 a3 a4' a5' a6 a7 a8 Kr Cr q1 q2 YB hb
      go_loopw [7, 8, 9] (fun i _ _ wr => ∃ (a : Nat) (Y : List Int), firstOf l1 v ≤ a ∧ a ≤ firstOf l1 (v + 1) ∧ i = .int .i64 a ∧ ManyTo l1 a Y ∧ Blk wr W4.heap.size 3 (ivs Y) ∧ Below W4.heap.size W4 wr) (fun i _ _ _ => firstOf l1 (v + 1) - (intOf i).toNat)
      case atStart => exact ⟨_, Y, Nat.le_refl _, hmono, rfl, HMY.out, YB1, hb1⟩
      case round =>
        clear HMY YB1 hb1
        obtain ⟨a, Y, ha1, ha2, rfl, MY, YB, hb⟩ := hrel
        have Kr := K5.below hb K5.lt
        have Cr := C5.below hb
        have hlr := Cr.lt
        obtain ⟨a0, a1, a2, a3, a4', a5', a6, a7, a8⟩ := Kr.at9
        have q1 := Cr.first v (by omega)
        have q2 := Cr.first (v + 1) (by omega)
        by_cases halt : a < firstOf l1 (v + 1)
        · obtain ⟨i, u, b, c', hI, hpos⟩ := row_find (l := l1) ha1 halt
          obtain ⟨e1, e2, e3, e4, e5⟩ := Cr.ent _ _ _ _ _ hI
          rw [← hpos] at e1 e2 e3 e4 e5
          have haM : a < M := by omega
          have hil := hI.lt
          have CrF : CsrAt wr wr.heap.size N1 l1 gF gH gR gC gA gB := Cr.more hb.size
          have TL := tail_at N1 S1 T1 gF gH gR gC gA gB l1 i a (v : Int) u b c' wr CrF hE hI hpos.symm
          rw [hMe] at TL
          have HTL := Lib.hid TL; clear TL
          obtain ⟨y, hy⟩ : ∃ y, Y[i]? = some y := ⟨_, List.getElem?_eq_getElem (by have := MY.len; omega)⟩
          have hys := MY.small i y hy
          have HS := Lib.hid (MY.step hE hI hpos.symm hy)
          have hin : (i : Int) < (n1 : Int) := by omega
          have HI := Lib.hid hI; have HPOS := Lib.hid hpos; have HY := Lib.hid hy
          clear hI hpos hy
          go_wp2_with fail
          refine HTL.out.mono ?_
          rintro e w7 ⟨rfl, B7⟩
          have hb7 : Below W4.heap.size W4 w7 := hb.trans (B7.mono hb.size)
          have K7 := Kr.below B7 Kr.lt
          have Y7 := YB.below B7 YB.lt
          have t1 := (B7.cell (p := ⟨gF, v, none⟩) CrF.lt.1).trans q1
          have t2 := (B7.cell (p := ⟨gF, v + 1, none⟩) CrF.lt.1).trans q2
          have t4 := (B7.cell (p := ⟨gA, a, none⟩) CrF.lt.2.2.2.2.1).trans e4
          have c1' := Y7.iat HY.out
          have fr1 := Y7.frozen i
          have hzY := YB.lt
          have nYA : W4.heap.size ≠ gA := by omega
          have nYc : W4.heap.size ≠ w3.heap.size := by omega
          have HMY := Lib.hid MY; clear MY
          clear a0 a1 a2 a3 a4' a5' a6 a7 a8 q1 q2 e1 e2 e3 e4 e5
          obtain ⟨a0, a1, a2, a3, a4', a5', a6, a7, a8⟩ := K7.at9
          by_cases hfst : a = firstOf l1 v
          · subst hfst
            go_wp2_with fail
            go_quiet (fail)
            go_wp2_with fail
            go_roundw
            case rel =>
              exact ⟨firstOf l1 v + 1, _, by omega, by omega, by go_num, HS.out, (Y7.drewN nq).iset i _, (below_drewN' hb7 nq).setCell (by simp) _⟩
            case measure => simp [intOf]; omega
          · obtain ⟨i', u', b', c2, hI2, hpos2⟩ := row_find (l := l1) (k := v) (j := a - 1) (by omega) (by omega)
            have hord : i' < i := row_order (l := l1) (v := (v : Int)) (by have := HPOS.out; omega)
            have t5 : w7.cell? ⟨gA, a - 1, none⟩ = some (.int .i64 (i' : Int)) := by
              have h := (Cr.ent _ _ _ _ _ hI2).2.2.2.1
              rw [← hpos2] at h
              exact (B7.cell (p := ⟨gA, a - 1, none⟩) CrF.lt.2.2.2.2.1).trans h
            clear hI2 hpos2
            obtain ⟨a', ha'⟩ : ∃ a', a = a' + 1 := ⟨a - 1, by omega⟩
            subst ha'
            rw [Nat.add_sub_cancel] at t5
            have hg0 : decide ((firstOf l1 v : Int) < (a' : Int) + 1) = true := by simp; omega
            have hg1 : decide ((i : Int) ≤ (i' : Int)) = false := by simp; omega
            have hg2 : IntKind.i64.wrap ((a' : Int) + 1 - 1) = (a' : Int) := by rw [Int.add_sub_cancel]; exact wrap64 _ (by omega) (by omega)
            have ha1M : (a' : Int) < (M : Int) := by omega
            have hg3 : decide (i ≤ i') = false := by simpa using hord
            have hg4 : ¬ i ≤ i' := by omega
            have hg5 : decide (firstOf l1 v < a' + 1) = true := by simp; omega
            have hg6 : firstOf l1 v < a' + 1 := by omega
            have hg7 : (firstOf l1 v : Int) < (a' : Int) + 1 := by omega
            go_wp2_with fail
            go_quiet (fail)
            go_wp2_with fail
            go_roundw
            case rel =>
              exact ⟨a' + 1 + 1, _, by omega, by omega, by go_num, HS.out, (Y7.drewN nq).iset i _, (below_drewN' hb7 nq).setCell (by simp) _⟩
            case measure => simp [intOf]; omega
        · obtain rfl : a = firstOf l1 (v + 1) := by omega
          go_wp2_with fail
          go_roundw
          case rel => exact ⟨v + 1, Y, by omega, by go_num, MY, YB, hb⟩
          case measure => simp [intOf]; omega
    · obtain rfl : v = N1 := by omega
      rw [hMe] at MY
      have Kr := K5.below hb K5.lt
      have KNr := KN5.below hb KN5.lt
      have Cr : CsrAt wr wr.heap.size v l1 gF gH gR gC gA gB := (C5.below hb).more hb.size
      have ar' := a5.on hb
      have Bwr := below_step Bw5 hb
      have hzY := YB.lt
      clear y0 y1 y2 y3
      obtain ⟨y0, y1, y2, y3⟩ := KNr.at4
      obtain ⟨a0, a1, a2, a3, a4', a5', a6, a7, a8⟩ := Kr.at9
      go_wp2_with fail
      refine (forward_good v M S1 T1 gF gH gR gC gA gB l1 n1 _ Cr hE hMe hM hl1 (by omega)).mono ?_
      rintro e w8 ⟨gf, F, rfl, hgf, F8, FW, B8⟩
      have K8 := Kr.below B8 Kr.lt
      have KN8 := KNr.below B8 KNr.lt
      have C8 := Cr.on B8
      have a8' := ar'.on B8
      have Y8 := YB.below B8 YB.lt
      have Bw8 := below_step Bwr B8
      clear y0 y1 y2 y3 a0 a1 a2 a3 a4' a5' a6 a7 a8 Kr KNr Cr ar' YB Bwr
      obtain ⟨y0, y1, y2, y3⟩ := KN8.at4
      have hfl := FW.len
      go_wp2_with fail
      go_loopw [11, 12, 13, 147] (fun _ _ _ i wr => ∃ k : Nat, k ≤ n1 ∧ i = .int .i64 k ∧ Below w8.heap.size w8 wr) (fun _ _ _ i _ => n1 - (intOf i).toNat)
      case atStart => exact ⟨0, Nat.zero_le _, rfl, Below.refl _ _⟩
      case round =>
        obtain ⟨k, hk, rfl, hb9⟩ := hrel
        by_cases hkn : k < n1
        · have K9 := K8.below hb9 K8.lt
          have C9 := C8.on hb9
          obtain ⟨ba, off, x, rfl, hba, hla, d0, d1, d2⟩ := arcs_at (a8'.on hb9) hkn
          have hdone := MY.done hE hMe hla
          have ym := (Y8.below hb9 Y8.lt).iat hdone
          have hlY := (Y8.below hb9 Y8.lt).lt
          have hlF := (F8.below hb9 F8.lt).lt
          have hl9 := C9.lt
          obtain ⟨a0, a1, a2, a3, a4', a5', a6, a7, a8⟩ := K9.at9
          have hz9 := K9.lt
          by_cases hxl : x.frm = x.to
          · have hxl' : (x.frm == x.to) = true := by simpa using hxl
            have hfw := FW.loop k x hkn hla hxl
            have xf := (F8.below hb9 F8.lt).iat hfw
            rw [if_pos hxl] at ym
            clear hla hdone hfw
            go_wp2_with fail
            go_quiet (fail)
            go_wp2_with fail
            go_roundw
            case rel => exact ⟨k + 1, by omega, by go_num, below_drewN' (hb9.alloc hb9.size _) nq⟩
            case measure => simp [intOf]; omega
          · have hxl' : (x.frm == x.to) = false := by simpa using hxl
            have hI := inc_fwd hla hxl
            have hfw := FW.fwd _ _ _ _ hI
            have xf := (F8.below hb9 F8.lt).iat hfw
            rw [if_neg hxl] at ym
            obtain ⟨e1, e2, e3, e4, e5⟩ := C9.ent _ _ _ _ _ hI
            have hp := pos_lt hI hE
            rw [hMe] at hp
            clear hla hdone hfw hI e1 e2 e3
            generalize posOf l1 k x.frm = p at *
            have hg1 : decide ((p : Int) < 0) = false := by simp
            go_wp2_with fail
            go_quiet (fail)
            go_wp2_with fail
            go_roundw
            case rel => exact ⟨k + 1, by omega, by go_num, below_drewN' (hb9.alloc hb9.size _) nq⟩
            case measure => simp [intOf]; omega
        · go_wp2_with fail
          refine (awake2_any _).mono ?_
          rintro e w9 ⟨rfl, B9⟩
          go_wp2_with fail
          go_ret
          exact ⟨rfl, below_step (below_step Bw8 hb9) B9⟩

end Go.Proofs.Ytbmndghgmndgmaa
