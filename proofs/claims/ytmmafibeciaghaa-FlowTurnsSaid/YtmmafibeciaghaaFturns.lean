/- FlowTurns: the walk. -/
import Derived.Test.YtmmafibeciaghaaAwake3
import Derived.Test.YtmmafibeciaghaaTurnf
import Derived.Test.YtmmafibeciaghaaNete
import Derived.Test.YtmmafibeciaghaaOpen4
import Derived.Deep.DeepCutAuto
import Derived.Deep.CutBlock
namespace Go.Proofs.Ytmmafibeciaghaa
open Go.RowKit

theorem lists_slice (A : Option Addr) (n c q : Nat) (hq : q ≤ c) (W : World) : (Instr.sliceAt 46 (.slice A n c) none (some (.int .i64 (q : Int))) none).run Try.prog W = .ok (.slice A q c) W := by
  have ht : Try.prog.underlying 46 = some (.slice (Try.prog.elem 46)) := by kernel_rfl
  have hs : ∃ s, ∀ W, (sizeOf (Try.prog.elem 46)).run Try.prog W = .ok s W := ⟨1, fun W => by kernel_rfl⟩
  obtain ⟨s, hs⟩ := hs
  rw [run_sliceAt_slice _ _ _ _ _ _ ht, run_slice_h _ _ _ _ _ ht _ _ (by omega) (by omega), hs]
  simp [Result.andThen, sliced, addr_zero]

set_option maxRecDepth 100000 in
set_option maxHeartbeats 8000000 in
theorem fturns_walk (N S T : Int) (A : Option Addr) (n c : Nat) (l : List ArcN) (AL : Option Addr) (nl cl : Nat) (L : List Int) (AV : Option Addr) (nv cv : Nat) (w : World) (hA : Arcs w w.heap.size A n l) (hf : FitsAll l) (hnc : n ≤ c) (hL : Ints w w.heap.size AL nl L) (hLR : ∀ x ∈ L, InR x)
    (hV : Lists w w.heap.size AV nv) (hnv : nv ≤ cv) :
    Calls Try.prog 5 #[.agg #[.int .i64 N, .int .i64 S, .int .i64 T, .slice A n c], .slice AL nl cl, .slice AV nv cv] w fun e w' => e = .returned (.bool true) ∧ Below w.heap.size w w' := by
  have hso := fun W hW => some_any N S T A n c 40 80 l W hW hf hnc (by omega) (by omega) (by omega)
  obtain ⟨N1, hN1, hN2, hN3, hck, hln, hmem⟩ := some_net N S T 40 80 l (by omega) (by omega) (by omega)
  rw [hN1] at hso hck hln hmem
  generalize S % (N1 : Int) = S1 at *
  generalize someT (N1 : Int) S T = T1 at *
  generalize someL (N1 : Int) 80 l = l1 at *
  have hend := ends_in hck
  obtain ⟨-, -, -, hE, hS0, hS1, hT0, hT1, hST, hnn, -⟩ := hend
  obtain ⟨s, rfl⟩ := Int.eq_ofNat_of_zero_le hS0
  obtain ⟨t, rfl⟩ := Int.eq_ofNat_of_zero_le hT0
  have htot := total_le (c := 1125899906842624) fun a ha => (hmem a ha).2.2.2.2.2
  have HSO := Lib.hid hso; have HCK := Lib.hid hck; have HMEM := Lib.hid hmem; have HE := Lib.hid hE
  clear hso hck hmem hN1 hE
  go_enter Try.func5, Try.ntmps5
  go_wp2_with fail
  refine (HSO.out _ (hA.onAlloc _)).mono ?_
  rintro e w1 ⟨A1, n1, c1, rfl, o1, hl1, B1⟩
  have K1 : Blk w1 w.heap.size 24 #[.int .i64 N, .int .i64 S, .int .i64 T, .slice A n c] := (Blk.new rfl).below B1 (by simp)
  have hz1 := K1.lt
  obtain ⟨r0, r1, r2, r3⟩ := K1.at4
  obtain ⟨f0, f1, f2, f3⟩ := K1.free4
  have ST := some_stored K1 o1 hl1 (below_step (below_alloc _) B1) (.int .i64 (N1 : Int)) (.int .i64 (s : Int)) (.int .i64 (t : Int))
  have hn1 : n1 ≤ 80 := by omega
  go_wp2_with fail
  generalize (((w1.setCell ⟨w.heap.size, 0, none⟩ (.int .i64 (N1 : Int))).setCell ⟨w.heap.size, 1, none⟩ (.int .i64 (s : Int))).setCell ⟨w.heap.size, 2, none⟩ (.int .i64 (t : Int))).setCell ⟨w.heap.size, 3, none⟩ (.slice A1 n1 c1) = w2 at *
  obtain ⟨K2, a2, Bw2⟩ := ST
  clear r0 r1 r2 r3 f0 f1 f2 f3 K1 o1 B1 hz1 HSO
  have hz2 := K2.lt
  refine (turn_any N1 s t A1 n1 c1 l1 _ a2 (by omega)).mono ?_
  rintro e w3 ⟨A3, n3, c3, rfl, o3, hl3, B3⟩
  obtain rfl : n1 = n3 := by rw [List.length_map] at hl3; omega
  have t3 := arcs_own o3 hl3
  have K3 := K2.below B3 K2.lt
  have a3 := a2.on B3
  have Bw3 := below_step Bw2 B3
  have hz3 := K3.lt
  clear hz2 K2 a2 Bw2 B3 o3
  obtain ⟨r0, r1, r2, r3⟩ := K3.at4
  go_wp2_with fail
  have J3 : Blk (w3.alloc (.cells #[.int .i64 (N1 : Int), .int .i64 (t : Int), .int .i64 (s : Int), .slice A3 n1 c3] 24)) w3.heap.size 24 #[.int .i64 (N1 : Int), .int .i64 (t : Int), .int .i64 (s : Int), .slice A3 n1 c3] := Blk.new rfl
  have L3 : Ints (w3.alloc (.cells #[.int .i64 (N1 : Int), .int .i64 (t : Int), .int .i64 (s : Int), .slice A3 n1 c3] 24)) (w3.alloc (.cells #[.int .i64 (N1 : Int), .int .i64 (t : Int), .int .i64 (s : Int), .slice A3 n1 c3] 24)).heap.size AL nl L := ((hL.below Bw3).more Bw3.size).onAlloc _
  refine (withinL_any N1 s t A1 n1 c1 l1 AL nl cl L _ (a3.onAlloc _) (by omega) (fun a ha => by have := HMEM.out a ha; omega) L3 hLR).mono ?_
  rintro e w4 ⟨gX, X, rfl, hgX, X4, WX, B4⟩
  have hXl : X.length = n1 := WX.len.trans hl1
  have K4 := (K3.alloc _).below B4 (K3.alloc _).lt
  have J4 := J3.below B4 J3.lt
  have a4 := (a3.onAlloc _).on B4
  have t4 := (t3.onAlloc _).on B4
  have Bw4 := below_step (Bw3.alloc Bw3.size _) B4
  have hfl := WX.flow hl1
  have HFL := Lib.hid hfl
  have hxb : ∀ u : Int, -90071992547409920 ≤ exOf l1 X u ∧ exOf l1 X u ≤ 90071992547409920 := fun u => by
    have := exOf_bound hfl u
    omega
  have HXB := Lib.hid hxb
  have hct : checkF N1 t s (l1.map turnArc) = 0 := by rw [check_turn]; exact HCK.out
  have HCT := Lib.hid hct
  clear hfl hxb WX hct
  clear r0 r1 r2 r3 hz3 K3 J3 a3 t3 Bw3 B4 L3 hL
  obtain ⟨r0, r1, r2, r3⟩ := K4.at4
  obtain ⟨s0, s1, s2, s3⟩ := J4.at4
  have hz4 := K4.lt
  have hy4 := J4.lt
  go_wp2_with fail
  refine (excess_good N1 s t A1 n1 c1 l1 _ n1 _ X _ a4 HCK.out (X4.ints hXl) HFL.out).mono ?_
  rintro e w5 ⟨gx, rfl, hgx, P5, -, B5⟩
  have K5 := K4.below B5 K4.lt
  have J5 := J4.below B5 J4.lt
  have a5 := a4.on B5
  have t5 := t4.on B5
  have X5 := X4.below B5 X4.lt
  have Bw5 := below_step Bw4 B5
  clear r0 r1 r2 r3 s0 s1 s2 s3 hz4 hy4 K4 J4 a4 t4 X4 Bw4 B5
  obtain ⟨r0, r1, r2, r3⟩ := K5.at4
  obtain ⟨s0, s1, s2, s3⟩ := J5.at4
  have hz5 := K5.lt
  have hy5 := J5.lt
  go_wp2_with fail
  refine (excess_good N1 t s A3 n1 c3 (l1.map turnArc) _ n1 _ X _ t5 HCT.out (X5.ints hXl) (flow_turn HFL.out)).mono ?_
  rintro e w6 ⟨gy, rfl, hgy, Q6, -, B6⟩
  have K6 := K5.below B6 K5.lt
  have J6 := J5.below B6 J5.lt
  have a6 := a5.on B6
  have t6 := t5.on B6
  have P6 := P5.below B6 P5.lt
  have Bw6 := below_step Bw5 B6
  clear r0 r1 r2 r3 s0 s1 s2 s3 hz5 hy5 K5 J5 a5 t5 X5 P5 Bw5 B6
  go_wp2_with fail
  go_loopw [13, 60] (fun _ i wr => ∃ j nd : Nat, j ≤ N1 ∧ i = .int .i64 j ∧ wr = w6.drewN nd) (fun _ i _ => N1 - (intOf i).toNat)
  case atStart => exact ⟨0, 0, Nat.zero_le _, rfl, rfl⟩
  case round =>
    obtain ⟨j, nd, hj, rfl, rfl⟩ := hrel
    by_cases hlt : j < N1
    · have p0 := P6.iat (exList_at l1 X hlt)
      have q0 := Q6.iat (exList_at (l1.map turnArc) X hlt)
      rw [exOf_turn] at q0
      have b1 := HXB.out (j : Int)
      generalize exOf l1 X (j : Int) = ex at *
      have hjN : (j : Int) < (N1 : Int) := by omega
      have hne : (ex != ex) = false := by simp
      have hnn2 : - -ex = ex := by omega
      have hwr : IntKind.i64.wrap ex = ex := wrap_any (by omega) (by omega)
      go_wp2_with fail
      go_quiet (fail)
      go_wp2_with fail
      go_roundw
      case rel => exact ⟨j + 1, nd + nq, by omega, by go_num, rfl⟩
      case measure => simp [intOf]; omega
    · have Kd : Blk (w6.drewN nd) w.heap.size 24 #[.int .i64 (N1 : Int), .int .i64 (s : Int), .int .i64 (t : Int), .slice A1 n1 c1] := K6.drewN _
      have Jd : Blk (w6.drewN nd) w3.heap.size 24 #[.int .i64 (N1 : Int), .int .i64 (t : Int), .int .i64 (s : Int), .slice A3 n1 c3] := J6.drewN _
      have ad : Arcs (w6.drewN nd) (w6.drewN nd).heap.size A1 n1 l1 := a6.on (below_drewN' (Below.refl _ _) _)
      have td : Arcs (w6.drewN nd) (w6.drewN nd).heap.size A3 n1 (l1.map turnArc) := t6.on (below_drewN' (Below.refl _ _) _)
      have Bd : Below w.heap.size w (w6.drewN nd) := below_drewN' Bw6 _
      clear K6 J6 a6 t6 P6 Q6 Bw6
      generalize w6.drewN nd = w7 at *
      obtain ⟨r0, r1, r2, r3⟩ := Kd.at4
      have hz7 := Kd.lt
      obtain ⟨i1, hi, hz0, hz1, hz2⟩ := info_parts long_info
      have hmk := fun W => run_make_lit (P := Try.prog) 25 2 i1 _ Try.underlying25 hi hz0 n1 (by rw [hz2]; omega) (by omega) W
      rw [hz1, ivs_made] at hmk
      clear hi hz0 hz1 hz2
      have V7 := hV.up Bd Bd.size
      obtain ⟨qv, hqv⟩ : ∃ q, min nv 10 = q := ⟨_, rfl⟩
      have hqv1 : qv ≤ nv ∧ qv ≤ 10 := by omega
      have hsv := lists_slice AV nv cv qv (by omega)
      go_upto_region 15 with fail
      go_cut [82, 83, 84] (fun s82 s83 s84 wx => s82 = .slice AV qv cv ∧ s83 = .int .i64 qv ∧ s84 = .int .i64 0 ∧ wx = w7.alloc (.cells (ivs (List.replicate n1 0)) 2))
      case first =>
        by_cases h10 : nv ≤ 10
        · obtain rfl : qv = nv := by omega
          have h1 : (qv : Int) ≤ 10 := by omega
          have h2 : (qv : Int) ≤ (cv : Int) := by omega
          go_wp2_with fail
          go_meet
          exact ⟨rfl, rfl, rfl, rfl⟩
        · obtain rfl : qv = 10 := by omega
          have h1 : ¬ (nv : Int) ≤ 10 := by omega
          have h2 : (10 : Int) ≤ (cv : Int) := by omega
          have hsv' : ∀ W, (Instr.sliceAt 46 (.slice AV nv cv) none (some (.int .i64 10)) none).run Try.prog W = .ok (.slice AV 10 cv) W := hsv
          go_wp2_with fail
          go_meet
          exact ⟨rfl, rfl, rfl, rfl⟩
      case rest =>
        obtain ⟨rfl, rfl, rfl, rfl⟩ := hcut
        have hzm : ∃ G, G = w7.heap.size := ⟨_, rfl⟩
        have Z0 : Blk (w7.alloc (.cells (ivs (List.replicate n1 0)) 2)) w7.heap.size 2 (ivs (List.replicate n1 0)) := Blk.new rfl
        have hz := flow_zero (l := l1) hl1 (by assumption)
        have hrz := right_zero N1 (s : Int) (t : Int) l1 n1
        have hwz : 0 ≤ exOf l1 (List.replicate n1 0) (t : Int) := by rw [exOf_zero]; omega
        have HZF := Lib.hid hz; have HZR := Lib.hid hrz; have HZW := Lib.hid hwz
        clear hmk hsv hzm hz hrz hwz
        go_wp2_with fail
        go_loopw [8, 15, 16, 17, 18, 19, 20, 21, 84] (fun s8 _ _ _ _ _ _ _ i wr => ∃ (k gf : Nat) (F : List Int), k ≤ qv ∧ i = .int .i64 k ∧ s8 = .slice (some ⟨gf, 0, none⟩) n1 n1 ∧ Blk wr gf 2 (ivs F) ∧ FlowIn l1 F ∧ RightIn N1 s t l1 F ∧ 0 ≤ exOf l1 F (t : Int) ∧ Below w7.heap.size w7 wr) (fun _ _ _ _ _ _ _ _ i _ => qv - (intOf i).toNat)
        case atStart => exact ⟨0, w7.heap.size, _, Nat.zero_le _, rfl, rfl, Z0, HZF.out, HZR.out, HZW.out, below_alloc _⟩
        case round =>
          obtain ⟨k, gf, F, hk, rfl, rfl, FX, hff, hfr, hfw, hb⟩ := hrel
          have HFF := Lib.hid hff; have HFR := Lib.hid hfr; have HFW := Lib.hid hfw; clear hff hfr hfw Z0
          have hFl : F.length = n1 := HFF.out.len.trans hl1
          have Kr := Kd.below hb Kd.lt
          have ar := ad.on hb
          have hzr := Kr.lt
          by_cases hlt2 : k < qv
          · obtain ⟨b, off, AU, nu, cu, U, rfl, hbl, hc, hU, hUR, hnu⟩ := (V7.on hb) k (by omega)
            obtain ⟨q, hq⟩ : ∃ q, min nu 20 = q := ⟨_, rfl⟩
            obtain ⟨r0, r1, r2, r3⟩ := Kr.at4
            have hkq : (k : Int) < (qv : Int) := by omega
            go_upto_region 18 with fail
            have HK := Lib.hid Kr; have HAA := Lib.hid (fun (W : World) (hb : Below wr.heap.size wr W) => ar.on hb); have HUU := Lib.hid (fun (W : World) (hb : Below wr.heap.size wr W) => (hU.short (m := q) (by omega)).on hb)
            have hUR2 : ∀ x ∈ U.take q, 0 ≤ x ∧ x ≤ 255 := fun x hx => hUR x (List.mem_of_mem_take hx)
            have HUR2 := Lib.hid hUR2; clear hUR2 hUR hU hc
            go_cut [16, 17] (fun s16 s17 wx => ∃ (AH : Option Addr) (p cH : Nat) (H : List HopN) (x : Int), s16 = .slice AH p cH ∧ s17 = .int .i64 x ∧ Hops wx wx.heap.size AH p H ∧ p ≤ 30 ∧ Way l1 (s : Int) H x ∧ Below wr.heap.size wr wx)
            case first =>
              have h0q : (0 : Int) ≤ (q : Int) := by omega
              have hqc : (q : Int) ≤ (cu : Int) := by omega
              have hsl := bytes_slice AU nu cu q (by omega)
              by_cases hqu : nu ≤ 20
              · obtain rfl : q = nu := by omega
                have h1 : (q : Int) ≤ 20 := by omega
                have h1' : ¬ (20 : Int) < (q : Int) := by omega
                have h1'' : min (q : Int) 20 = (q : Int) := by omega
                go_region_held3 (fun W => Below wr.heap.size wr W ∧ W.cell? ⟨w.heap.size, 0, none⟩ = some (.int .i64 (N1 : Int)) ∧ W.cell? ⟨w.heap.size, 1, none⟩ = some (.int .i64 (s : Int)) ∧ W.cell? ⟨w.heap.size, 2, none⟩ = some (.int .i64 (t : Int)) ∧ W.cell? ⟨w.heap.size, 3, none⟩ = some (.slice A1 n1 c1))
                  (first
                    | exact hops_keep HK.out (Below.refl _ _).drew
                    | (go_split_ands
                       exact hops_keep HK.out (by refine below_step ?_ (by assumption); assumption)))
                  (first
                    | (go_at_call 16; go_split_ands; ((with_reducible refine (hops_any _ _ _ A1 n1 c1 l1 (s : Int) AU q _ (U.take q) _ (HAA.out _ (by assumption)) (by omega) (HUU.out _ (by assumption)) (by omega) HUR2.out).mono ?_); rintro e W4 ⟨AH, p, cH, H, x, rfl, oH, hlH, hpH, hwH, B4⟩)))
                go_split_ands
                go_wp2_with fail
                go_meet
                exact ⟨AH, p, cH, H, x, rfl, rfl, hops_own oH hlH, by omega, hwH, by assumption⟩
              · obtain rfl : q = 20 := by omega
                have hsl' : ∀ W, (Instr.sliceAt 35 (.slice AU nu cu) none (some (.int .i64 20)) none).run Try.prog W = .ok (.slice AU 20 cu) W := hsl
                have h1 : ¬ (nu : Int) ≤ 20 := by omega
                have h1' : (20 : Int) < (nu : Int) := by omega
                go_region_held3 (fun W => Below wr.heap.size wr W ∧ W.cell? ⟨w.heap.size, 0, none⟩ = some (.int .i64 (N1 : Int)) ∧ W.cell? ⟨w.heap.size, 1, none⟩ = some (.int .i64 (s : Int)) ∧ W.cell? ⟨w.heap.size, 2, none⟩ = some (.int .i64 (t : Int)) ∧ W.cell? ⟨w.heap.size, 3, none⟩ = some (.slice A1 n1 c1))
                  (first
                    | exact hops_keep HK.out (Below.refl _ _).drew
                    | (go_split_ands
                       exact hops_keep HK.out (by refine below_step ?_ (by assumption); assumption)))
                  (first
                    | (go_at_call 16; go_split_ands; ((with_reducible refine (hops_any _ _ _ A1 n1 c1 l1 (s : Int) AU 20 _ (U.take 20) _ (HAA.out _ (by assumption)) (by omega) (HUU.out _ (by assumption)) (by omega) HUR2.out).mono ?_); rintro e W4 ⟨AH, p, cH, H, x, rfl, oH, hlH, hpH, hwH, B4⟩)))
                go_split_ands
                go_wp2_with fail
                go_meet
                exact ⟨AH, p, cH, H, x, rfl, rfl, hops_own oH hlH, by omega, hwH, by assumption⟩
            case rest =>
              obtain ⟨AH, p, cH, H, x, rfl, rfl, H4, hp, hw, B4⟩ := hcut
              have K4 := HK.out.below B4 HK.out.lt
              have a4 := ar.on B4
              have F4 := FX.below B4 FX.lt
              have hb4 := hb.trans (B4.mono hb.size)
              have HW := Lib.hid hw
              clear Kr ar FX B4 hb HK HAA HUU HUR2 hw r0 r1 r2 r3 hzr hbl
              obtain ⟨r0, r1, r2, r3⟩ := K4.at4
              have hz4 := K4.lt
              cases hxt : (x == (t : Int))
              · have hxt' : (x != (t : Int)) = true := by simpa using hxt
                go_wp2_with fail
                go_roundw
                case rel => exact ⟨k + 1, gf, F, by omega, by go_num, rfl, F4, HFF.out, HFR.out, HFW.out, hb4⟩
                case measure => simp [intOf]; omega
              · have hxe : x = (t : Int) := by simpa using hxt
                subst hxe
                have hxt' : ((t : Int) != (t : Int)) = false := by simp
                clear hxt
                go_wp2_with fail
                refine (room_good N1 s t A1 n1 c1 l1 _ n1 _ F AH p cH H _ a4 HCK.out (F4.ints hFl) HFF.out H4 (by omega) (way_is HW.out)).mono ?_
                rintro e w5 ⟨r, rfl, hr, B5⟩
                have K5 := K4.below B5 K4.lt
                have a5 := a4.on B5
                have F5 := F4.below B5 F4.lt
                have H5 := H4.on B5
                have hb5 := hb4.trans (B5.mono hb4.size)
                have hrr : 0 ≤ r ∧ r ≤ 4611686018427387904 := ⟨hr.1, hr.2.1⟩
                have HR := Lib.hid hr
                clear r0 r1 r2 r3 hz4 K4 a4 F4 H4 hb4 B5 hr
                obtain ⟨r0, r1, r2, r3⟩ := K5.at4
                have hz5 := K5.lt
                by_cases hrm : r ≤ 1125899906842624
                · have hrm' : ¬ (1125899906842624 : Int) < r := by omega
                  go_wp2_with fail
                  refine (send_good N1 s t A1 n1 c1 l1 _ n1 _ F AH p cH H r r _ a5 HCK.out (F5.ints hFl) HFF.out H5 (by omega) (way_is HW.out) HR.out (by omega) (by omega)).mono ?_
                  rintro e w6 ⟨g6, rfl, hg6, F6, -, B6⟩
                  go_wp2_with fail
                  go_roundw
                  case rel => exact ⟨k + 1, g6, _, by omega, by go_num, rfl, F6, HR.out.sent (by omega) (by omega), right_sent HFF.out.len HFR.out HW.out _, worth_sent HFF.out.len hST HW.out (by omega) HFW.out, hb5.trans (B6.mono hb5.size)⟩
                  case measure => simp [intOf]; omega
                · have hrm' : (1125899906842624 : Int) < r := by omega
                  go_wp2_with fail
                  refine (send_good N1 s t A1 n1 c1 l1 _ n1 _ F AH p cH H r 1125899906842624 _ a5 HCK.out (F5.ints hFl) HFF.out H5 (by omega) (way_is HW.out) HR.out (by omega) (by omega)).mono ?_
                  rintro e w6 ⟨g6, rfl, hg6, F6, -, B6⟩
                  go_wp2_with fail
                  go_roundw
                  case rel => exact ⟨k + 1, g6, _, by omega, by go_num, rfl, F6, HR.out.sent (by omega) (by omega), right_sent HFF.out.len HFR.out HW.out _, worth_sent HFF.out.len hST HW.out (by omega) HFW.out, hb5.trans (B6.mono hb5.size)⟩
                  case measure => simp [intOf]; omega
          · have Jr := Jd.below hb Jd.lt
            have tr := td.on hb
            have Br := below_step Bd hb
            have hvs := right_value HCK.out HFR.out
            obtain ⟨r0, r1, r2, r3⟩ := Kr.at4
            have HVS := Lib.hid hvs; clear hvs hb V7
            go_wp2_with fail
            refine (value_good N1 s t A1 n1 c1 l1 _ n1 _ F _ ar HCK.out (FX.ints hFl) (by omega) HFF.out HFR.out).mono ?_
            rintro e w8 ⟨rfl, B8⟩
            have J8 := Jr.below B8 Jr.lt
            have t8 := tr.on B8
            have F8 := FX.below B8 FX.lt
            have Bw8 := below_step Br B8
            clear r0 r1 r2 r3 Jr tr FX Br B8 Kr ar hzr
            obtain ⟨r0, r1, r2, r3⟩ := J8.at4
            have hz8 := J8.lt
            have hfw := HFW.out
            obtain ⟨z, hz⟩ : ∃ z, exOf l1 F (t : Int) = z := ⟨_, rfl⟩
            rw [hz] at hfw ⊢
            have HZ := Lib.hid hz; clear hz
            have hz1 : decide (0 ≤ z) = true := by simpa using hfw
            go_wp2_with fail
            refine (value_good N1 t s A3 n1 c3 (l1.map turnArc) _ n1 _ F _ t8 HCT.out (F8.ints hFl) (by omega) (flow_turn HFF.out) (right_turn HFR.out)).mono ?_
            rintro e w9 ⟨rfl, B9⟩
            rw [exOf_turn, HVS.out, HZ.out, Int.neg_neg]
            have Bw9 := below_step Bw8 B9
            go_wp2_with fail
            refine (awake3_any _).mono ?_
            rintro e wA ⟨rfl, BA⟩
            go_wp2_with fail
            go_ret
            exact ⟨rfl, below_step Bw9 BA⟩

end Go.Proofs.Ytmmafibeciaghaa
