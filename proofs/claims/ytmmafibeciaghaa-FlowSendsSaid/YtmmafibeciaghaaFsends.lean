/- FlowSends: the walk. -/
import Derived.Test.YtmmafibeciaghaaAwake3
import Derived.Test.YtmmafibeciaghaaSendp
import Derived.Deep.AppendLies
import Derived.Deep.DeepCutAuto
import Derived.Deep.CutBlock
namespace Go.Proofs.Ytmmafibeciaghaa
open Go.RowKit

set_option maxRecDepth 100000 in
set_option maxHeartbeats 8000000 in
theorem fsends_walk (N S T : Int) (A : Option Addr) (n c : Nat) (l : List ArcN) (AL : Option Addr) (nl cl : Nat) (L : List Int) (fr : Nat) (AU : Option Addr) (nu cu : Nat) (U : List Int) (d : Nat) (w : World) (hA : Arcs w w.heap.size A n l) (hf : FitsAll l) (hnc : n ≤ c) (hL : Ints w w.heap.size AL nl L) (hLR : ∀ x ∈ L, InR x)
    (hfr : fr ≤ 255) (hU : Bytes w w.heap.size AU nu U) (hUR : ∀ x ∈ U, 0 ≤ x ∧ x ≤ 255) (hnu : nu ≤ cu) (hd : d < 18446744073709551616) :
    Calls Try.prog 4 #[.agg #[.int .i64 N, .int .i64 S, .int .i64 T, .slice A n c], .slice AL nl cl, .int .u8 fr, .slice AU nu cu, .int .u64 d] w fun e w' => e = .returned (.bool true) ∧ Below w.heap.size w w' := by
  have hso := fun W hW => some_any N S T A n c 40 80 l W hW hf hnc (by omega) (by omega) (by omega)
  obtain ⟨N1, hN1, hN2, hN3, hck, hln, hmem⟩ := some_net N S T 40 80 l (by omega) (by omega) (by omega)
  rw [hN1] at hso hck hln hmem
  generalize S % (N1 : Int) = S1 at *
  generalize someT (N1 : Int) S T = T1 at *
  generalize someL (N1 : Int) 80 l = l1 at *
  have hE : EndsIn N1 l1 := (ends_in hck).2.2.2.1
  have htot := total_le (c := 1125899906842624) fun a ha => (hmem a ha).2.2.2.2.2
  have HSO := Lib.hid hso; have HCK := Lib.hid hck; have HMEM := Lib.hid hmem; have HE := Lib.hid hE
  clear hso hck hmem hN1 hE
  obtain ⟨q, hq⟩ : ∃ q, min nu 30 = q := ⟨_, rfl⟩
  obtain ⟨v, hv⟩ : ∃ v, fr % N1 = v := ⟨_, rfl⟩
  have hvN : v < N1 := by rw [← hv]; exact Nat.mod_lt _ (by omega)
  have ek2 : (fr : Int).tmod (N1 : Int) = (v : Int) := by rw [Int.tmod_eq_emod_of_nonneg (by omega), ← hv]; omega
  have hNz : ¬ (N1 : Int) = 0 := by omega
  clear hv
  go_enter Try.func4, Try.ntmps4
  go_wp2_with fail
  refine (HSO.out _ (hA.onAlloc _)).mono ?_
  rintro e w1 ⟨A1, n1, c1, rfl, o1, hl1, B1⟩
  have K1 : Blk w1 w.heap.size 24 #[.int .i64 N, .int .i64 S, .int .i64 T, .slice A n c] := (Blk.new rfl).below B1 (by simp)
  have hz1 := K1.lt
  obtain ⟨r0, r1, r2, r3⟩ := K1.at4
  obtain ⟨f0, f1, f2, f3⟩ := K1.free4
  have ST := some_stored K1 o1 hl1 (below_step (below_alloc _) B1) (.int .i64 (N1 : Int)) (.int .i64 S1) (.int .i64 T1)
  have hn1 : n1 ≤ 80 := by omega
  go_wp2_with fail
  generalize (((w1.setCell ⟨w.heap.size, 0, none⟩ (.int .i64 (N1 : Int))).setCell ⟨w.heap.size, 1, none⟩ (.int .i64 S1)).setCell ⟨w.heap.size, 2, none⟩ (.int .i64 T1)).setCell ⟨w.heap.size, 3, none⟩ (.slice A1 n1 c1) = w2 at *
  obtain ⟨K2, a2, Bw2⟩ := ST
  clear r0 r1 r2 r3 f0 f1 f2 f3 K1 o1 B1 hz1 HSO
  have hz2 := K2.lt
  refine (withinL_any N1 S1 T1 A1 n1 c1 l1 AL nl cl L _ a2 (by omega) (fun a ha => by have := HMEM.out a ha; omega) ((hL.below Bw2).more Bw2.size) hLR).mono ?_
  rintro e w3 ⟨gX, X, rfl, hgX, X3, WX, B3⟩
  have hXl : X.length = n1 := WX.len.trans hl1
  have K3 := K2.below B3 K2.lt
  have a3 := a2.on B3
  have Bw3 := below_step Bw2 B3
  have U3 : Bytes w3 w3.heap.size AU nu U := (hU.below Bw3).more Bw3.size
  have hfl := WX.flow hl1
  have HFL := Lib.hid hfl
  clear hfl WX
  clear K2 a2 Bw2 B3
  obtain ⟨r0, r1, r2, r3⟩ := K3.at4
  have hz3 := K3.lt
  go_upto_region 4 with fail
  have HK := Lib.hid K3; have HAA := Lib.hid (fun (W : World) (hb : Below w3.heap.size w3 W) => a3.on hb); have HUU := Lib.hid (fun (W : World) (hb : Below w3.heap.size w3 W) => (U3.short (m := q) (by omega)).on hb)
  have hUR2 : ∀ x ∈ U.take q, 0 ≤ x ∧ x ≤ 255 := fun x hx => hUR x (List.mem_of_mem_take hx)
  have HUR2 := Lib.hid hUR2; clear hUR2
  go_cut [13, 14] (fun s13 s14 wx => ∃ (AH : Option Addr) (p cH : Nat) (H : List HopN) (x : Int), s13 = .slice AH p cH ∧ s14 = .int .i64 x ∧ Hops wx wx.heap.size AH p H ∧ p ≤ 30 ∧ Way l1 (v : Int) H x ∧ Below w3.heap.size w3 wx)
  case first =>
    have h0q : (0 : Int) ≤ (q : Int) := by omega
    have hqc : (q : Int) ≤ (cu : Int) := by omega
    have hsl := bytes_slice AU nu cu q (by omega)
    by_cases hqu : nu ≤ 30
    · obtain rfl : q = nu := by omega
      have h1 : (q : Int) ≤ 30 := by omega
      have h1' : ¬ (30 : Int) < (q : Int) := by omega
      have h1'' : min (q : Int) 30 = (q : Int) := by omega
      go_region_held3 (fun W => Below w3.heap.size w3 W ∧ W.cell? ⟨w.heap.size, 0, none⟩ = some (.int .i64 (N1 : Int)) ∧ W.cell? ⟨w.heap.size, 1, none⟩ = some (.int .i64 S1) ∧ W.cell? ⟨w.heap.size, 2, none⟩ = some (.int .i64 T1) ∧ W.cell? ⟨w.heap.size, 3, none⟩ = some (.slice A1 n1 c1))
        (first
          | exact hops_keep HK.out (Below.refl _ _).drew
          | (go_split_ands
             exact hops_keep HK.out (by refine below_step ?_ (by assumption); assumption)))
        (first
          | (go_at_call 16; go_split_ands; ((with_reducible refine (hops_any _ _ _ A1 n1 c1 l1 (v : Int) AU q _ (U.take q) _ (HAA.out _ (by assumption)) (by omega) (HUU.out _ (by assumption)) (by omega) HUR2.out).mono ?_); rintro e W4 ⟨AH, p, cH, H, x, rfl, oH, hlH, hpH, hwH, B4⟩)))
      go_split_ands
      go_wp2_with fail
      go_meet
      exact ⟨AH, p, cH, H, x, rfl, rfl, hops_own oH hlH, by omega, hwH, by assumption⟩
    · obtain rfl : q = 30 := by omega
      have hsl' : ∀ W, (Instr.sliceAt 35 (.slice AU nu cu) none (some (.int .i64 30)) none).run Try.prog W = .ok (.slice AU 30 cu) W := hsl
      have h1 : ¬ (nu : Int) ≤ 30 := by omega
      have h1' : (30 : Int) < (nu : Int) := by omega
      go_region_held3 (fun W => Below w3.heap.size w3 W ∧ W.cell? ⟨w.heap.size, 0, none⟩ = some (.int .i64 (N1 : Int)) ∧ W.cell? ⟨w.heap.size, 1, none⟩ = some (.int .i64 S1) ∧ W.cell? ⟨w.heap.size, 2, none⟩ = some (.int .i64 T1) ∧ W.cell? ⟨w.heap.size, 3, none⟩ = some (.slice A1 n1 c1))
        (first
          | exact hops_keep HK.out (Below.refl _ _).drew
          | (go_split_ands
             exact hops_keep HK.out (by refine below_step ?_ (by assumption); assumption)))
        (first
          | (go_at_call 16; go_split_ands; ((with_reducible refine (hops_any _ _ _ A1 n1 c1 l1 (v : Int) AU 30 _ (U.take 30) _ (HAA.out _ (by assumption)) (by omega) (HUU.out _ (by assumption)) (by omega) HUR2.out).mono ?_); rintro e W4 ⟨AH, p, cH, H, x, rfl, oH, hlH, hpH, hwH, B4⟩)))
      go_split_ands
      go_wp2_with fail
      go_meet
      exact ⟨AH, p, cH, H, x, rfl, rfl, hops_own oH hlH, by omega, hwH, by assumption⟩
  case rest =>
    obtain ⟨AH, p, cH, H, x, rfl, rfl, H4, hp, hw, B4⟩ := hcut
    have K4 := HK.out.below B4 HK.out.lt
    have a4 := a3.on B4
    have X4 := X3.below B4 X3.lt
    have Bw4 := below_step Bw3 B4
    have hxN := hw.ends HE.out (by omega)
    obtain ⟨y, rfl⟩ := Int.eq_ofNat_of_zero_le hxN.1
    have hyN : y < N1 := by omega
    have HW := Lib.hid hw
    clear K3 a3 X3 Bw3 B4 r0 r1 r2 r3 hz3 HK HAA HUU HUR2 U3 hw hU
    obtain ⟨r0, r1, r2, r3⟩ := K4.at4
    have hz4 := K4.lt
    go_wp2_with fail
    refine (room_good N1 S1 T1 A1 n1 c1 l1 _ n1 _ X AH p cH H _ a4 HCK.out (X4.ints hXl) HFL.out H4 (by omega) (way_is HW.out)).mono ?_
    rintro e w5 ⟨r, rfl, hr, B5⟩
    have K5 := K4.below B5 K4.lt
    have a5 := a4.on B5
    have X5 := X4.below B5 X4.lt
    have H5 := H4.on B5
    have Bw5 := below_step Bw4 B5
    have hrr : 0 ≤ r ∧ r ≤ 4611686018427387904 := ⟨hr.1, hr.2.1⟩
    have HR := Lib.hid hr
    clear r0 r1 r2 r3 hz4 K4 a4 X4 H4 Bw4 B5 hr
    obtain ⟨rn, rfl⟩ := Int.eq_ofNat_of_zero_le hrr.1
    obtain ⟨k, hk⟩ : ∃ k, d % (rn + 1) = k := ⟨_, rfl⟩
    have hkr : k ≤ rn := by have := Nat.mod_lt d (show 0 < rn + 1 by omega); omega
    have ek : (d : Int).tmod ((rn : Int) + 1) = (k : Int) := by rw [Int.tmod_eq_emod_of_nonneg (by omega), ← hk]; simp
    have ek2 : (d : Int) % ((rn : Int) + 1) = (k : Int) := by rw [← hk]; simp
    have er : IntKind.u64.wrap ((rn : Int) + 1) = (rn : Int) + 1 := by simp [IntKind.wrap, IntKind.bits, IntKind.signed]; omega
    have er2 : IntKind.i64.wrap ((rn : Int) + 1) = (rn : Int) + 1 := wrap_id (by omega) (by omega)
    have er3 : IntKind.i64.wrap (k : Int) = (k : Int) := wrap_id (by omega) (by omega)
    have er4 : ¬ ((rn : Int) + 1) = 0 := by omega
    obtain ⟨r0, r1, r2, r3⟩ := K5.at4
    have hz5 := K5.lt
    clear hk
    go_wp2_with fail
    refine (send_good N1 S1 T1 A1 n1 c1 l1 _ n1 _ X AH p cH H (rn : Int) (k : Int) _ a5 HCK.out (X5.ints hXl) HFL.out H5 (by omega) (way_is HW.out) HR.out (by omega) (by omega)).mono ?_
    rintro e w6 ⟨gG, rfl, hgG, G6, hGl, B6⟩
    have K6 := K5.below B6 K5.lt
    have a6 := a5.on B6
    have X6 := X5.below B6 X5.lt
    have H6 := H5.on B6
    have Bw6 := below_step Bw5 B6
    clear r0 r1 r2 r3 hz5 K5 a5 X5 H5 Bw5 B6
    obtain ⟨r0, r1, r2, r3⟩ := K6.at4
    have hz6 := K6.lt
    go_wp2_with fail
    refine (send_arg N1 S1 T1 A1 n1 c1 l1 _ n1 _ X AH p cH H (rn : Int) ((rn : Int) + 1) _ a6 HCK.out (X6.ints hXl) HFL.out H6 (by omega) (way_is HW.out) HR.out (by omega)).mono ?_
    rintro e w7 ⟨rfl, B7⟩
    have K7 := K6.below B7 K6.lt
    have a7 := a6.on B7
    have X7 := X6.below B7 X6.lt
    have H7 := H6.on B7
    have G7 := G6.below B7 G6.lt
    have Bw7 := below_step Bw6 B7
    clear r0 r1 r2 r3 hz6 K6 a6 X6 H6 Bw6 B7 G6
    obtain ⟨r0, r1, r2, r3⟩ := K7.at4
    have hz7 := K7.lt
    go_wp2_with fail
    refine (send_arg N1 S1 T1 A1 n1 c1 l1 _ n1 _ X AH p cH H (rn : Int) (-1) _ a7 HCK.out (X7.ints hXl) HFL.out H7 (by omega) (way_is HW.out) HR.out (by omega)).mono ?_
    rintro e w8 ⟨rfl, B8⟩
    have K8 := K7.below B8 K7.lt
    have a8 := a7.on B8
    have X8 := X7.below B8 X7.lt
    have H8 := H7.on B8
    have G8 := G7.below B8 G7.lt
    have Bw8 := below_step Bw7 B8
    clear r0 r1 r2 r3 hz7 K7 a7 X7 H7 Bw7 B8 G7
    obtain ⟨r0, r1, r2, r3⟩ := K8.at4
    have hz8 := K8.lt
    go_wp2_with fail
    have hgf := HR.out.sent (d := (k : Int)) (by omega) (by omega)
    have HGF := Lib.hid hgf
    clear hgf
    refine (flowIn_any N1 S1 T1 A1 n1 c1 l1 _ n1 _ _ true _ a8 (by omega) HCK.out (G8.ints hGl) (by omega) (by simp; exact HGF.out)).mono ?_
    rintro e w9 ⟨rfl, B9⟩
    have K9 := K8.below B9 K8.lt
    have a9 := a8.on B9
    have X9 := X8.below B9 X8.lt
    have H9 := H8.on B9
    have G9 := G8.below B9 G8.lt
    have Bw9 := below_step Bw8 B9
    clear r0 r1 r2 r3 hz8 K8 a8 X8 H8 Bw8 B9 G8
    obtain ⟨r0, r1, r2, r3⟩ := K9.at4
    have hz9 := K9.lt
    go_wp2_with fail
    refine (excess_good N1 S1 T1 A1 n1 c1 l1 _ n1 _ X _ a9 HCK.out (X9.ints hXl) HFL.out).mono ?_
    rintro e wb ⟨gx, rfl, hgx, P10, -, Bb⟩
    have Kb := K9.below Bb K9.lt
    obtain ⟨r0, r1, r2, r3⟩ := Kb.at4
    have hzb := Kb.lt
    go_wp2_with fail
    refine (excess_good N1 S1 T1 A1 n1 c1 l1 _ n1 _ _ _ (a9.on Bb) HCK.out ((G9.below Bb G9.lt).ints hGl) HGF.out).mono ?_
    rintro e wc2 ⟨gy, rfl, hgy, Q11, -, Bc⟩
    have P11 := P10.below Bc P10.lt
    have hgxy : gx ≠ gy := by have := P10.lt; omega
    have Bbc : Below w9.heap.size w9 wc2 := Bb.trans (Bc.mono Bb.size)
    have Kc := Kb.below Bc Kb.lt
    obtain ⟨r0, r1, r2, r3⟩ := Kc.at4
    have hzc := Kc.lt
    clear hzb Kb Bb Bc P10
    have hgx9 : w9.heap.size ≤ gx := hgx
    have hxb : ∀ u : Int, -90071992547409920 ≤ exOf l1 X u ∧ exOf l1 X u ≤ 90071992547409920 := fun u => by
      have := exOf_bound HFL.out u
      omega
    have p0 := P11.iat (exList_at l1 X hvN)
    have p1 := P11.frozen v
    have bv := hxb (v : Int)
    have by' := hxb (y : Int)
    clear hxb
    have sends := ex_sends (N := N1) (v := v) (x := y) (HFL.out).len HW.out hvN hyN (k : Int)
    have sendsat := ex_sends_at (l := l1) (F := X) (v := v) hyN (k : Int)
    have HSE := Lib.hid sends; have HSA := Lib.hid sendsat; clear sends sendsat
    obtain ⟨ev, hev⟩ : ∃ z, exOf l1 X (v : Int) = z := ⟨_, rfl⟩
    obtain ⟨ey, hey⟩ : ∃ z, exOf l1 X (y : Int) - (if v = y then (k : Int) else 0) = z := ⟨_, rfl⟩
    have bey : -4701758010974797825 ≤ ey ∧ ey ≤ 90071992547409920 := by rw [← hey]; split <;> omega
    rw [hev] at p0 bv HSE HSA
    rw [hey] at HSE HSA
    clear hev hey by'
    go_upto_region 19 with fail
    have P12 := P11.iset v (ev - (k : Int))
    have Q12 := Q11.far (p := ⟨gx, v, none⟩) (Ne.symm hgxy) (.int .i64 (ev - (k : Int)))
    have B12 : Below w9.heap.size w9 (wc2.setCell ⟨gx, v, none⟩ (.int .i64 (ev - (k : Int)))) := Bbc.setCell hgx9 _
    generalize wc2.setCell ⟨gx, v, none⟩ (.int .i64 (ev - (k : Int))) = w12 at *
    clear p0 p1 P11 Q11 Bbc r0 r1 r2 r3 hzc Kc
    have p0 := P12.iat HSA.out
    have p1 := P12.frozen y
    go_wp2_with fail
    have P13 := P12.iset y (ey + (k : Int))
    rw [HSE.out] at P13
    have Q13 := Q12.far (p := ⟨gx, y, none⟩) (Ne.symm hgxy) (.int .i64 (ey + (k : Int)))
    have B13 : Below w9.heap.size w9 (w12.setCell ⟨gx, y, none⟩ (.int .i64 (ey + (k : Int)))) := B12.setCell hgx9 _
    generalize w12.setCell ⟨gx, y, none⟩ (.int .i64 (ey + (k : Int))) = wB at *
    clear p0 p1 P12 Q12 B12
    have KB := K9.below B13 K9.lt
    have aB := a9.on B13
    have XB := X9.below B13 X9.lt
    have GB := G9.below B13 G9.lt
    have HB := H9.on B13
    have BwB := below_step Bw9 B13
    clear K9 a9 X9 G9 H9 Bw9 B13 hz9
    obtain ⟨i0, hi, hz0, hz1, hz2⟩ := info_parts hop_info
    have HI := Lib.hid hi; have HZ0 := Lib.hid hz0; have HZ1 := Lib.hid hz1; have HZ2 := Lib.hid hz2
    clear hi hz0 hz1 hz2
    have hlH := HB.len
    go_loopw [28, 29] (fun s28 s29 wr => ∃ (j nB : Nat) (AB : Option Addr) (cB : Nat) (z : Int), nB + j = p ∧ z + 1 = (j : Int) ∧ s29 = .int .i64 z ∧ s28 = .slice AB nB cB ∧ wr.ownsRow wB.heap.size 43 2 (.slice AB nB cB) nB ((backWay (H.drop j)).flatMap hopCells) ∧ Below wB.heap.size wB wr) (fun _ i _ => (intOf i + 1).toNat)
    case atStart => exact ⟨p, 0, none, 0, (p : Int) - 1, by omega, by omega, rfl, rfl, by rw [← hlH, back_none]; exact World.ownsRow_nil _ _ _ _, Below.refl _ _⟩
    case round =>
      obtain ⟨j, nB, AB, cB, z, hnb, hz, rfl, rfl, ho, hb⟩ := hrel
      have HO := Lib.hid ho; clear ho
      have hzB := hb.size
      by_cases hj : j = 0
      · subst hj
        obtain rfl : z = -1 := by omega
        obtain rfl : nB = p := by omega
        rw [List.drop_zero] at HO
        have bB := hops_own HO.out (by rw [backWay_len]; exact hlH)
        have KC := KB.below hb KB.lt
        have aC := aB.on hb
        have XC := XB.below hb XB.lt
        have GC := GB.below hb GB.lt
        have PC := P13.below hb P13.lt
        have QC := Q13.below hb Q13.lt
        have BwC := below_step BwB hb
        clear KB aB XB GB HB P13 Q13 BwB hb HO hz hnb
        obtain ⟨r0, r1, r2, r3⟩ := KC.at4
        have hzC := KC.lt
        go_wp2_with fail
        refine (send_fit N1 S1 T1 A1 n1 c1 l1 _ n1 _ _ AB nB cB (backWay H) (k : Int) _ aC HCK.out (GC.ints hGl) HGF.out bB (by omega) (way_is HW.out.back) (by omega) (by unfold maxSum; omega) (by rw [sent_back]; exact HFL.out)).mono ?_
        rintro e wD ⟨gs, rfl, hgs, SD, -, BD⟩
        rw [sent_back] at SD
        have XD := XC.below BD XC.lt
        have PD := PC.below BD PC.lt
        have QD := QC.below BD QC.lt
        have BwD := below_step BwC BD
        clear XC PC QC BwC BD KC aC GC r0 r1 r2 r3 hzC
        go_wp2_with fail
        refine (longs_is (n := N1) (m := N1) _ _ (PD.ints (exList_len _ _ _)) (QD.ints (exList_len _ _ _)) (by omega) (by omega) (v := true) (by simp)).mono ?_
        rintro e wE ⟨rfl, BE⟩
        have XE := XD.below BE XD.lt
        have SE := SD.below BE SD.lt
        have BwE := below_step BwD BE
        go_wp2_with fail
        refine (longs_is (n := n1) (m := n1) _ _ (SE.ints hXl) (XE.ints hXl) (by omega) (by omega) (v := true) (by simp)).mono ?_
        rintro e wF ⟨rfl, BF⟩
        have BwF := below_step BwE BF
        go_wp2_with fail
        refine (awake3_any _).mono ?_
        rintro e wG ⟨rfl, BG⟩
        go_wp2_with fail
        go_ret
        exact ⟨rfl, below_step BwF BG⟩
      · obtain ⟨i, rfl⟩ := Int.eq_ofNat_of_zero_le (show 0 ≤ z by omega)
        obtain rfl : j = i + 1 := by omega
        clear hz
        obtain ⟨bh, oh, ⟨har, hbk⟩, rfl, hbh, hh, d0, d1⟩ := hops_at HB (k := i) (by omega)
        have hbw : bh < wr.heap.size := by omega
        have har' := HW.out.arcs _ (mem_at hh)
        simp only at d0 d1 har'
        have hst := back_step hh
        have HST := Lib.hid hst; clear hst hh
        have hip : (i : Int) < (p : Int) := by omega
        have hsrc := hop_src' wr ⟨har, !hbk⟩
        have HSRC := Lib.hid hsrc; clear hsrc
        have HO2 : Hid (((wr.alloc (.cells #[.int .i64 har, .bool (!hbk)] 43)).drew).ownsRow wB.heap.size 43 2 (.slice AB nB cB) nB ((backWay (H.drop (i + 1))).flatMap hopCells)) := Lib.hid (HO.out.alloc _)
        have hbA : Below wB.heap.size wB ((wr.alloc (.cells #[.int .i64 har, .bool (!hbk)] 43)).drew) := (hb.alloc hzB _).drew
        have HD0 := Lib.hid d0; have HD1 := Lib.hid d1
        go_wp2_with fail
        go_region_held3 (fun W => Below wB.heap.size wB W ∧ W.cell? ⟨bh, oh + i * 2, none⟩ = some (.int .i64 har) ∧ W.cell? ⟨bh, oh + i * 2 + 1, none⟩ = some (.bool hbk))
          (first
            | exact hop_keep (x := ⟨har, hbk⟩) hbh HD0.out HD1.out hb.drew
            | exact hop_keep (x := ⟨har, hbk⟩) hbh HD0.out HD1.out hbA
            | exact hop_keep (x := ⟨har, hbk⟩) hbh HD0.out HD1.out (below_grown hbA (by assumption) HO2.out (Nat.le_refl _) (by simp; omega)))
          (first
            | (refine step_append_lies _ rfl (.tmp 161) (.tmp 174) _ rfl wB.heap.size 43 i0 _ 2 16 Try.underlying37 HI.out HZ0.out HZ1.out HZ2.out rfl (by omega) (.slice AB nB cB) nB _ rfl HO2.out ⟨wr.heap.size, 0, none⟩ 1 1 ([(⟨har, !hbk⟩ : HopN)].flatMap hopCells) rfl rfl HSRC.out hop_one (by omega) (by unfold maxLen; omega) (by omega) (by simp; omega) _ rfl ?_; intro g6 c6 w6 ho6 hg6 hat6 hlt6))
        go_split_ands
        have B6 := below_grown hbA hg6 HO2.out (Nat.le_refl _) (by simp; omega)
        have HO6 := Lib.hid ho6; clear ho6
        go_wp2_with fail
        go_roundw
        case rel =>
          refine ⟨i, nB + 1, some ⟨g6, 0, none⟩, c6, (i : Int) - 1, by omega, by omega, by go_num, rfl, ?_, B6⟩
          rw [HST.out, List.flatMap_append]
          exact HO6.out
        case measure => simp [intOf]

end Go.Proofs.Ytmmafibeciaghaa
