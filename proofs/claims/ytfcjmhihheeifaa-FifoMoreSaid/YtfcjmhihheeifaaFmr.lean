/- FifoMore: the walk. (Written by wip/gen_fmr.py.) -/
import Derived.Test.YtfcjmhihheeifaaFcmp
import Derived.Test.YtfcjmhihheeifaaNetd
import Derived.Test.YtfcjmhihheeifaaSomes
import Derived.Deep.DeepCutAuto
import Derived.Deep.CutBlock
import Derived.Deep.RegionHeld3
namespace Go.Proofs.Ytfcjmhihheeifaa
open Go.RowKit
set_option maxRecDepth 100000

/-- One arc of an own row. -/
theorem row_arc {w : World} {base c n i : Nat} {A : Option Addr} {l : List ArcN} (h : w.ownsRow base 64 3 (.slice A n c) n (l.flatMap arcCells)) (hl : l.length = n) (hi : i < n) :
    ∃ g x, A = some ⟨g, 0, none⟩ ∧ l[i]? = some x ∧ base ≤ g ∧ g < w.heap.size ∧ w.cell? ⟨g, i * 3 + 2, none⟩ = some (.int .i64 x.cap) ∧ w.frozen? ⟨g, i * 3 + 2, none⟩ = false := by
  obtain ⟨g, rfl, hg1, hg2⟩ := own_form h (by omega)
  obtain ⟨x, hx, x0, x1, x2, q0, q1, q2⟩ := own_cells3 h hl hi
  exact ⟨g, x, rfl, hx, hg1, hg2, x2, q2⟩

set_option maxHeartbeats 16000000 in
theorem fmore_walk (N S T : Int) (A : Option Addr) (n c : Nat) (l : List ArcN) (xb kb : Nat) (hxb : xb ≤ 255) (hkb : kb < 18446744073709551616) (w : World) (hA : Arcs w w.heap.size A n l) (hf : FitsAll l) (hnc : n ≤ c) :
    Calls Try.prog 6 #[.agg #[.int .i64 N, .int .i64 S, .int .i64 T, .slice A n c], .int .u8 (xb : Int), .int .u64 (kb : Int)] w fun e w' => e = .returned (.bool true) ∧ Below w.heap.size w w' := by
  have hso := fun W hW => some_any N S T A n c 20 50 l W hW hf hnc (by omega) (by omega) (by omega)
  obtain ⟨N1, hN1, hN2, hN3, hck, hln, hmem⟩ := some_net N S T 20 50 l (by omega) (by omega) (by omega)
  rw [hN1] at hso hck hln hmem
  generalize S % (N1 : Int) = S1 at *
  generalize someT (N1 : Int) S T = T1 at *
  generalize someL (N1 : Int) 50 l = l1 at *
  obtain ⟨-, hN, -, -, hs0, hs1, ht0, ht1, hst, hnn, -⟩ := ends_in hck
  obtain ⟨s, rfl⟩ := Int.eq_ofNat_of_zero_le hs0
  obtain ⟨t, rfl⟩ := Int.eq_ofNat_of_zero_le ht0
  have hsmall : ∀ a ∈ l1, a.cap < 1125899906842624 := fun a ha => (hmem a ha).2.2.2.2.2
  have htot : total l1 ≤ 50 * 1125899906842624 := by
    have h1 := total_small hsmall
    have : (l1.length : Int) * 1125899906842624 ≤ 50 * 1125899906842624 := Int.mul_le_mul_of_nonneg_right (by omega) (by omega)
    omega
  have hsol := fun A n c W hA => solve_least N1 s t n c A l1 W hA hck
  have hsol2 := fun A n c W hA => solve_least N1 s t n c A (l1.map twiceArc) W hA (twice_check hck hln hsmall)
  have hsol3 := fun i x k A n c W hA (hx : l1[i]? = some x) (h0 : 0 ≤ k) (h1 : k ≤ 1099511627776) => solve_least N1 s t n c A (l1.set i (moreArc x k)) W hA (more_check hck hln hsmall hx h0 h1)
  have HSO := Lib.hid hso; have HSOL := Lib.hid hsol; have HSOL2 := Lib.hid hsol2; have HSOL3 := Lib.hid hsol3; have HMEM := Lib.hid hmem; have HNN := Lib.hid hnn; have HTOT := Lib.hid htot
  clear hso hsol hsol2 hsol3 hck hN1 hmem hs0 hs1 ht0 ht1 hst hsmall hnn htot
  go_enter Try.func6, Try.ntmps6
  go_wp2_with fail
  refine (HSO.out _ (hA.onAlloc _)).mono ?_
  rintro e w1 ⟨A1, n1, c1, rfl, o1, hl1, B1⟩
  have K1 : Blk w1 w.heap.size 24 #[.int .i64 N, .int .i64 S, .int .i64 T, .slice A n c] := (Blk.new rfl).below B1 (by simp)
  have hz1 := K1.lt
  obtain ⟨r0, r1, r2, r3⟩ := K1.at4
  obtain ⟨f0, f1, f2, f3⟩ := K1.free4
  have ST := some_stored K1 o1 hl1 (below_step (below_alloc _) B1) (.int .i64 (N1 : Int)) (.int .i64 (s : Int)) (.int .i64 (t : Int))
  go_upto_region 2 with fail
  generalize (((w1.setCell ⟨w.heap.size, 0, none⟩ (.int .i64 (N1 : Int))).setCell ⟨w.heap.size, 1, none⟩ (.int .i64 (s : Int))).setCell ⟨w.heap.size, 2, none⟩ (.int .i64 (t : Int))).setCell ⟨w.heap.size, 3, none⟩ (.slice A1 n1 c1) = w0 at *
  obtain ⟨K0, a0, Bw0⟩ := ST
  clear r0 r1 r2 r3 f0 f1 f2 f3 K1 o1 B1 hz1 HSO hA hf
  obtain ⟨r0, r1, r2, r3⟩ := K0.at4
  have hz0 := K0.lt
  go_wp2_with fail
  refine (HSOL.out A1 n1 c1 w0 a0).mono ?_
  rintro e w2 ⟨gf, gs, v, P1, L1, rfl, hv, B2⟩
  have hv0 := hv.nonneg HNN.out
  have hv1 : v ≤ 50 * 1125899906842624 := by
    obtain ⟨K, -, e⟩ := hv.ex
    have := (capX_bound (K := K) HNN.out).2
    have := HTOT.out
    omega
  have HV := Lib.hid hv
  have K2 := K0.below B2 K0.lt; have a2 := a0.on B2; have Bw2 := below_step Bw0 B2
  clear hv K0 a0 Bw0 B2 r0 r1 r2 r3 hz0 HTOT
  go_upto_region 3 with fail
  obtain ⟨w3, hw3⟩ : ∃ w3, ((w2.alloc (.cells #[.slice (some ⟨gf, 0, none⟩) n1 n1, .slice (some ⟨gs, 0, none⟩) N1 N1, .int .i64 v] 29)).alloc (.cells #[.int .i64 (P1 : Int), .int .i64 (L1 : Int)] 31)) = w3 := ⟨_, rfl⟩
  have X2 : Below w2.heap.size w2 w3 := by rw [← hw3]; exact (below_alloc _).alloc (by simp) _
  obtain ⟨ga, hga⟩ : ∃ g, w2.heap.size = g := ⟨_, rfl⟩
  have Q3 : Blk w3 ga 29 #[.slice (some ⟨gf, 0, none⟩) n1 n1, .slice (some ⟨gs, 0, none⟩) N1 N1, .int .i64 v] := by rw [← hw3, ← hga]; exact (Blk.new rfl).alloc _
  have K3 := K2.below X2 K2.lt; have a3 := a2.on X2; have Bw3 := below_step Bw2 X2
  have hga1 : w.heap.size < ga := by rw [← hga]; exact K2.lt
  rw [hw3, hga]
  clear hw3 hga X2 K2 a2 Bw2
  obtain ⟨r0, r1, r2, r3⟩ := K3.at4
  have hz3 := K3.lt
  go_wp2_with fail
  refine (copy_any N1 s t A1 n1 c1 l1 _ a3 (by omega)).mono ?_
  rintro e w4 ⟨A3, n3, c3, rfl, o3, hl3, B4⟩
  obtain rfl : n1 = n3 := hl1.symm.trans hl3
  clear hl3
  have hz34 := B4.size
  obtain ⟨gb, hgb⟩ : ∃ g, w3.heap.size = g := ⟨_, rfl⟩
  have o4 := o3.alloc (.cells #[.int .i64 (N1 : Int), .int .i64 (s : Int), .int .i64 (t : Int), .slice A3 n1 c3] 24)
  have hgab : ga < gb := by rw [← hgb]; exact Q3.lt
  have hgwb : w.heap.size < gb := by rw [← hgb]; exact K3.lt
  have HQ3 := Lib.hid Q3; have HK3 := Lib.hid K3; have HA3 := Lib.hid a3; have HB3 := Lib.hid Bw3; have HGB := Lib.hid hgb
  clear o3 K3 a3 Bw3 Q3 r0 r1 r2 r3 hz3
  go_upto_region 6 with fail
  obtain ⟨gn, hgn⟩ : ∃ g, w4.heap.size = g := ⟨_, rfl⟩
  obtain ⟨w5, hw5⟩ : ∃ w5, w4.alloc (.cells #[.int .i64 (N1 : Int), .int .i64 (s : Int), .int .i64 (t : Int), .slice A3 n1 c3] 24) = w5 := ⟨_, rfl⟩
  have H5 : Blk w5 gn 24 #[.int .i64 (N1 : Int), .int .i64 (s : Int), .int .i64 (t : Int), .slice A3 n1 c3] := by rw [← hw5, ← hgn]; exact Blk.new rfl
  have X5 : Below gb w3 w5 := by rw [← hw5]; rw [hgb] at B4; exact B4.alloc (by omega) _
  rw [hgb, hw5] at o4
  rw [hw5, hgn]
  have HX5 := Lib.hid X5; have HO5 := Lib.hid o4; have HH5 := Lib.hid H5
  have hgn1 : gb ≤ gn := by omega
  have hz5 := H5.lt
  obtain ⟨r0, r1, r2, r3⟩ := H5.at4
  clear B4 X5 o4 H5 hw5 hgn hgb hz34
  go_upto_region 7 with fail
  clear r0 r1 r2 r3
  go_loopw [11, 35] (fun _ i wr => ∃ k : Nat, k ≤ n1 ∧ i = .int .i64 k ∧ Below gb w3 wr ∧ Blk wr gn 24 #[.int .i64 (N1 : Int), .int .i64 (s : Int), .int .i64 (t : Int), .slice A3 n1 c3] ∧
      wr.ownsRow gb 64 3 (.slice A3 n1 c3) n1 ((mapTo twiceArc l1 k).flatMap arcCells)) (fun _ i _ => n1 - (intOf i).toNat)
  case atStart => exact ⟨0, Nat.zero_le _, rfl, HX5.out, HH5.out, by rw [mapTo_zero]; exact HO5.out⟩
  case round =>
    clear HX5 HH5 HO5 hz5
    obtain ⟨k, hk, rfl, hb, HK, ho⟩ := hrel
    have HO := Lib.hid ho; clear ho
    obtain ⟨r0, r1, r2, r3⟩ := HK.at4
    have hzk := HK.lt
    by_cases hlt : k < n1
    · obtain ⟨g, rfl, hg1, hg2⟩ := own_form HO.out (by omega)
      obtain ⟨x, hx, x0, x1, x2, q0, q1, q2⟩ := own_cells3 HO.out ((mapTo_len _ _ _).trans hl1) hlt
      obtain ⟨a, ha⟩ : ∃ a, l1[k]? = some a := ⟨_, List.getElem?_eq_getElem (by omega)⟩
      obtain rfl : x = a := by have := hx.symm.trans (mapTo_at twiceArc ha); injection this
      have hca := HMEM.out x (mem_at ha)
      have HX := Lib.hid hx; have HAA := Lib.hid ha; clear hx ha
      go_wp2_with fail
      go_roundw
      case rel =>
        have hne := own_ne HO.out HK (by decide) g rfl
        refine ⟨k + 1, by omega, by go_num, hb.setCell (by show gb ≤ g; omega) _, HK.far (Ne.symm hne) _, ?_⟩
        rw [← mapTo_set twiceArc HAA.out]
        exact own_setCap HO.out HX.out _
      case measure => simp [intOf]; omega
    · have ho := HO.out
      rw [mapTo_end twiceArc l1 hl1 hlt] at ho
      have ah := arcs_own ho (by rw [List.length_map]; exact hl1)
      have hb0 : Below w3.heap.size w3 wr := by rw [HGB.out]; exact hb
      have HQ6 := Lib.hid (HQ3.out.below hb (by omega)); have HK6 := Lib.hid (HK3.out.below hb (by omega)); have HA6 := Lib.hid (HA3.out.on hb0); have HB6 := Lib.hid (below_step HB3.out hb0)
      clear ho HO hb hb0 HQ3 HK3 HA3 HB3 HGB
      go_wp2_with fail
      refine (HSOL2.out A3 n1 c3 wr ah).mono ?_
      rintro e w6 ⟨gf2, gs2, v2, P2, L2, rfl, hv2, B6⟩
      obtain rfl := HV.out.twice hv2
      have HQ7 := Lib.hid (HQ6.out.below B6 HQ6.out.lt); have HK7 := Lib.hid (HK6.out.below B6 HK6.out.lt); have HA7 := Lib.hid (HA6.out.on B6); have HB7 := Lib.hid (below_step HB6.out B6)
      clear hv2 B6 ah HK r0 r1 r2 r3 hzk HQ6 HK6 HA6 HB6 HSOL2
      go_upto_region 12 with fail
      obtain ⟨w7, hw7⟩ : ∃ w7, ((w6.alloc (.cells #[.slice (some ⟨gf2, 0, none⟩) n1 n1, .slice (some ⟨gs2, 0, none⟩) N1 N1, .int .i64 (2 * v)] 29)).alloc (.cells #[.int .i64 (P2 : Int), .int .i64 (L2 : Int)] 31)) = w7 := ⟨_, rfl⟩
      have X2 : Below w6.heap.size w6 w7 := by rw [← hw7]; exact (below_alloc _).alloc (by simp) _
      obtain ⟨gd, hgd⟩ : ∃ g, w6.heap.size = g := ⟨_, rfl⟩
      have D7 : Blk w7 gd 29 #[.slice (some ⟨gf2, 0, none⟩) n1 n1, .slice (some ⟨gs2, 0, none⟩) N1 N1, .int .i64 (2 * v)] := by rw [← hw7, ← hgd]; exact (Blk.new rfl).alloc _
      rw [hw7, hgd]
      have HQ8 := Lib.hid (HQ7.out.below X2 HQ7.out.lt); have HK8 := Lib.hid (HK7.out.below X2 HK7.out.lt); have HA8 := Lib.hid (HA7.out.on X2); have HB8 := Lib.hid (below_step HB7.out X2)
      clear hw7 hgd X2 HQ7 HK7 HA7 HB7
      obtain ⟨⟨q0, q1, q2⟩, -, hzq⟩ := HQ8.out.full3
      obtain ⟨⟨d0, d1, d2⟩, -, hzd⟩ := D7.full3
      obtain ⟨r0, r1, r2, r3⟩ := HK8.out.at4
      have hzk := HK8.out.lt
      have hw2 : IntKind.i64.wrap (2 * v) = 2 * v := wrap_in (by omega) (by omega)
      have hnlt : ¬ v < 0 := by omega
      by_cases hn0 : n1 = 0
      · subst hn0
        have hv00 : v = 0 := by
          obtain ⟨K, -, e⟩ := HV.out.ex
          have : l1 = [] := List.length_eq_zero_iff.1 hl1
          rw [← e, this]; rfl
        subst hv00
        go_wp2_with fail
        refine (awake8_is w7).mono ?_
        rintro e w8 ⟨rfl, X2⟩
        go_wp2_with fail
        go_ret
        exact ⟨rfl, below_step HB8.out X2⟩
      · have hn0' : ¬ ((n1 : Int) = 0) := by omega
        have hn0b : ((n1 : Int) == 0) = false := by simpa using hn0
        go_upto_region 16 with fail
        clear q0 q1 q2 hzq d0 d1 d2 hzd hw2 D7
        go_wp2_with fail
        refine (copy_any N1 s t A1 n1 c1 l1 _ HA8.out (by omega)).mono ?_
        rintro e w8 ⟨A5, n5, c5, rfl, o5, hl5, B8⟩
        obtain rfl : n1 = n5 := hl1.symm.trans hl5
        clear hl5
        have HQ9 := Lib.hid (HQ8.out.below B8 HQ8.out.lt); have HK9 := Lib.hid (HK8.out.below B8 HK8.out.lt); have HB9 := Lib.hid (below_step HB8.out B8)
        have hwq : w.heap.size < ga := hga1
        have hqb : ga < w7.heap.size := HQ8.out.lt
        have hb8 := B8.size
        have o6 := o5.alloc (.cells #[.int .i64 (N1 : Int), .int .i64 (s : Int), .int .i64 (t : Int), .slice A5 n1 c5] 24)
        clear B8 o5 r0 r1 r2 r3 hzk HQ8 HK8 HA8 HB8
        go_upto_region 17 with fail
        obtain ⟨w9, hw9⟩ : ∃ w9, w8.alloc (.cells #[.int .i64 (N1 : Int), .int .i64 (s : Int), .int .i64 (t : Int), .slice A5 n1 c5] 24) = w9 := ⟨_, rfl⟩
        obtain ⟨gm, hgm⟩ : ∃ g, w8.heap.size = g := ⟨_, rfl⟩
        have H9 : Blk w9 gm 24 #[.int .i64 (N1 : Int), .int .i64 (s : Int), .int .i64 (t : Int), .slice A5 n1 c5] := by rw [← hw9, ← hgm]; exact Blk.new rfl
        have X2 : Below w8.heap.size w8 w9 := by rw [← hw9]; exact below_alloc _
        rw [hw9] at o6
        rw [hw9, hgm]
        have HQ10 := Lib.hid (HQ9.out.below X2 HQ9.out.lt); have HK10 := Lib.hid (HK9.out.below X2 HK9.out.lt); have HB10 := Lib.hid (below_step HB9.out X2); have HH9 := Lib.hid H9; have HO6 := Lib.hid o6
        obtain ⟨r0, r1, r2, r3⟩ := HK10.out.at4
        obtain ⟨s0, s1, s2, s3⟩ := HH9.out.at4
        have hzk := HK10.out.lt; have hzh := HH9.out.lt
        obtain ⟨k, hk⟩ : ∃ k : Nat, kb % 1099511627777 = k := ⟨_, rfl⟩
        have hkm : (kb : Int).tmod 1099511627777 = (k : Int) := by rw [Int.tmod_eq_emod_of_nonneg (by omega), ← hk]; omega
        have hk1 : k ≤ 1099511627776 := by omega
        have hwk : IntKind.i64.wrap (k : Int) = (k : Int) := wrap_in (by omega) (by omega)
        obtain ⟨i, hi⟩ : ∃ i : Nat, xb % n1 = i := ⟨_, rfl⟩
        have him : (xb : Int).tmod (n1 : Int) = (i : Int) := by rw [Int.tmod_eq_emod_of_nonneg (by omega), ← hi]; omega
        have hwxb : IntKind.i64.wrap (xb : Int) = (xb : Int) := wrap_in (by omega) (by omega)
        have hilt : i < n1 := by rw [← hi]; exact Nat.mod_lt _ (by omega)
        obtain ⟨g, x, rfl, hx, hg1, hg2, hcx, hfx⟩ := row_arc HO6.out hl1 hilt
        have hxm := HMEM.out x (mem_at hx)
        have hx0 := hxm.2.2.2.2.1; have hx1 := hxm.2.2.2.2.2
        have hwx : IntKind.i64.wrap (x.cap + (k : Int)) = x.cap + (k : Int) := wrap_in (by omega) (by omega)
        have HXX := Lib.hid hx
        have hgne : g ≠ gm := own_ne HO6.out HH9.out (by decide) g rfl
        have hgq : ga < g := by omega
        clear H9 X2 o6 hw9 hgm hxm hx HQ9 HK9 HB9
        go_upto_region 20 with fail
        clear r0 r1 r2 r3 s0 s1 s2 s3
        obtain ⟨wq, hwq⟩ : ∃ W, w9.drew = W := ⟨_, rfl⟩
        have X2 : Below w9.heap.size w9 wq := by rw [← hwq]; exact (Below.refl _ _).drew
        have oq : wq.ownsRow w7.heap.size 64 3 (.slice (some ⟨g, 0, none⟩) n1 c5) n1 (l1.flatMap arcCells) := by rw [← hwq]; exact HO6.out
        have hfq : wq.frozen? ⟨g, i * 3 + 2, none⟩ = false := by rw [← hwq]; exact hfx
        have hcq : wq.cell? ⟨g, i * 3 + 2, none⟩ = some (.int .i64 x.cap) := by rw [← hwq]; exact hcx
        have oe := own_setCap oq HXX.out (x.cap + (k : Int))
        have ae := arcs_own oe (by rw [List.length_set]; exact hl1)
        have HEE := Lib.hid ((HH9.out.below X2 HH9.out.lt).far (p := ⟨g, i * 3 + 2, none⟩) (Ne.symm hgne) (.int .i64 (x.cap + (k : Int))))
        have HEK := Lib.hid ((HK10.out.below X2 HK10.out.lt).far (p := ⟨g, i * 3 + 2, none⟩) (by show w.heap.size ≠ g; omega) (.int .i64 (x.cap + (k : Int))))
        have HEQ := Lib.hid ((HQ10.out.below X2 HQ10.out.lt).far (p := ⟨g, i * 3 + 2, none⟩) (by show ga ≠ g; omega) (.int .i64 (x.cap + (k : Int))))
        have HEB := Lib.hid ((below_step HB10.out X2).setCell (p := ⟨g, i * 3 + 2, none⟩) (by show w.heap.size ≤ g; omega) (.int .i64 (x.cap + (k : Int))))
        have HEA := Lib.hid ae
        have hzz : g < wq.heap.size := by have := X2.size; omega
        have hS9 : wq.cell? ⟨gm, 3, none⟩ = some (.slice (some ⟨g, 0, none⟩) n1 c5) ∧ wq.cell? ⟨w.heap.size, 3, none⟩ = some (.slice A1 n1 c1) := ⟨(HH9.out.below X2 HH9.out.lt).cell 3, (HK10.out.below X2 HK10.out.lt).cell 3⟩
        refine wp_region_held_drew (S := fun W' => W'.cell? ⟨gm, 3, none⟩ = some (.slice (some ⟨g, 0, none⟩) n1 c5) ∧ W'.cell? ⟨w.heap.size, 3, none⟩ = some (.slice A1 n1 c1)) (by kernel_rfl) (by rw [hwq]; exact hS9) (fun hS0 => ?_)
        rw [hwq] at hS0 ⊢
        clear hwq X2 oq oe ae hcx hfx HH9 HK10 HQ10 HB10 HO6 hS9
        refine tk (v := ?_) 0 91 rfl ?_ ?_
        rotate_left
        · (intro W hSw; obtain ⟨t0, t1⟩ := hSw; go_simp; try with_reducible rfl)
        simp only [Act.put, pa, pz, ps]
        refine tk (v := ?_) 1 92 rfl ?_ ?_
        rotate_left
        · (intro W hSw; obtain ⟨t0, t1⟩ := hSw; go_simp; try with_reducible rfl)
        simp only [Act.put, pa, pz, ps]
        refine tk (v := ?_) 2 93 rfl ?_ ?_
        rotate_left
        · (intro W hSw; obtain ⟨t0, t1⟩ := hSw; go_simp; try with_reducible rfl)
        simp only [Act.put, pa, pz, ps]
        refine tk (v := ?_) 3 94 rfl ?_ ?_
        rotate_left
        · (intro W hSw; obtain ⟨t0, t1⟩ := hSw; go_simp; try with_reducible rfl)
        simp only [Act.put, pa, pz, ps]
        refine tk (v := ?_) 4 95 rfl ?_ ?_
        rotate_left
        · (intro W hSw; obtain ⟨t0, t1⟩ := hSw; go_simp; try with_reducible rfl)
        simp only [Act.put, pa, pz, ps]
        refine tk (v := ?_) 5 96 rfl ?_ ?_
        rotate_left
        · (intro W hSw; obtain ⟨t0, t1⟩ := hSw; go_simp; try with_reducible rfl)
        simp only [Act.put, pa, pz, ps]
        refine tk (v := ?_) 6 97 rfl ?_ ?_
        rotate_left
        · (intro W hSw; obtain ⟨t0, t1⟩ := hSw; go_simp; try with_reducible rfl)
        simp only [Act.put, pa, pz, ps]
        refine tk (v := ?_) 7 98 rfl ?_ ?_
        rotate_left
        · (intro W hSw; obtain ⟨t0, t1⟩ := hSw; go_simp; try with_reducible rfl)
        simp only [Act.put, pa, pz, ps]
        refine tk (v := ?_) 8 99 rfl ?_ ?_
        rotate_left
        · (intro W hSw; obtain ⟨t0, t1⟩ := hSw; go_simp; try with_reducible rfl)
        simp only [Act.put, pa, pz, ps]
        refine tk (v := ?_) 9 100 rfl ?_ ?_
        rotate_left
        · (intro W hSw; obtain ⟨t0, t1⟩ := hSw; go_simp; try with_reducible rfl)
        simp only [Act.put, pa, pz, ps]
        refine tk (v := ?_) 11 102 rfl ?_ ?_
        rotate_left
        · (intro W hSw; obtain ⟨t0, t1⟩ := hSw; go_simp; try with_reducible rfl)
        simp only [Act.put, pa, pz, ps]
        refine wpAnyH_ready (rs := [10]) (by kernel_rfl) (by simp) ?_
        refine AllReadyH.cons rfl (fun K hK => ?_) AllReadyH.nil
        go_simp
        refine hK.out _ _ hS0 (fun hSm => ?_)
        clear hK K hSm
        try simp only [Act.put, pa, pz, ps]
        refine tk (v := ?_) 12 103 rfl ?_ ?_
        rotate_left
        · (intro W hSw; obtain ⟨t0, t1⟩ := hSw; go_simp; try with_reducible rfl)
        simp only [Act.put, pa, pz, ps]
        refine tk (v := ?_) 13 104 rfl ?_ ?_
        rotate_left
        · (intro W hSw; obtain ⟨t0, t1⟩ := hSw; go_simp; try with_reducible rfl)
        simp only [Act.put, pa, pz, ps]
        refine tk (v := ?_) 14 105 rfl ?_ ?_
        rotate_left
        · (intro W hSw; obtain ⟨t0, t1⟩ := hSw; go_simp; try with_reducible rfl)
        simp only [Act.put, pa, pz, ps]
        refine wpAnyH_ready (rs := [15]) (by kernel_rfl) (by simp) ?_
        refine AllReadyH.cons rfl (fun K hK => ?_) AllReadyH.nil
        go_simp
        refine hK.out _ _ ⟨HEE.out.cell 3, HEK.out.cell 3⟩ (fun hSm => ?_)
        clear hK K hSm hS0 hcq
        refine wpAnyH_done (by kernel_rfl) ?_ _
        go_upto_region 21 with fail
        generalize wq.setCell ⟨g, i * 3 + 2, none⟩ (.int .i64 (x.cap + (k : Int))) = we at *
        clear hzz hfq
        obtain ⟨s0, s1, s2, s3⟩ := HEE.out.at4
        have hzs := HEE.out.lt
        go_wp2_with fail
        refine (HSOL3.out i x (k : Int) (some ⟨g, 0, none⟩) n1 c5 we HEA.out HXX.out (by omega) (by omega)).mono ?_
        rintro e wf ⟨gf3, gs3, v3, P3, L3, rfl, hv3, Bf⟩
        obtain ⟨hl3, hu3⟩ := HV.out.more HXX.out (by omega) hv3
        have HFQ := Lib.hid (HEQ.out.below Bf HEQ.out.lt); have HFB := Lib.hid (below_step HEB.out Bf)
        clear hv3 Bf s0 s1 s2 s3 hzs HEE HEK HEQ HEB HEA HSOL3
        go_upto_region 22 with fail
        obtain ⟨wg, hwg⟩ : ∃ wg, ((wf.alloc (.cells #[.slice (some ⟨gf3, 0, none⟩) n1 n1, .slice (some ⟨gs3, 0, none⟩) N1 N1, .int .i64 v3] 29)).alloc (.cells #[.int .i64 (P3 : Int), .int .i64 (L3 : Int)] 31)) = wg := ⟨_, rfl⟩
        have X2 : Below wf.heap.size wf wg := by rw [← hwg]; exact (below_alloc _).alloc (by simp) _
        obtain ⟨ge, hge⟩ : ∃ g, wf.heap.size = g := ⟨_, rfl⟩
        have D8 : Blk wg ge 29 #[.slice (some ⟨gf3, 0, none⟩) n1 n1, .slice (some ⟨gs3, 0, none⟩) N1 N1, .int .i64 v3] := by rw [← hwg, ← hge]; exact (Blk.new rfl).alloc _
        rw [hwg, hge]
        have HGQ := Lib.hid (HFQ.out.below X2 HFQ.out.lt); have HGB := Lib.hid (below_step HFB.out X2)
        clear hwg hge X2 HFQ HFB
        obtain ⟨⟨q0, q1, q2⟩, -, hzq⟩ := HGQ.out.full3
        obtain ⟨⟨d0, d1, d2⟩, -, hzd⟩ := D8.full3
        have hwv : IntKind.i64.wrap (v + (k : Int)) = v + (k : Int) := wrap_in (by omega) (by omega)
        go_wp2_with fail
        refine (awake8_is wg).mono ?_
        rintro e wh ⟨rfl, X2⟩
        go_wp2_with fail
        go_ret
        exact ⟨rfl, below_step HGB.out X2⟩

end Go.Proofs.Ytfcjmhihheeifaa
