/- FlowSums: the walk. -/
import Derived.Test.YtmmafibeciaghaaAwake3
import Derived.Test.YtmmafibeciaghaaLawp
import Derived.Deep.DeepCutAuto
import Derived.Deep.CutBlock
namespace Go.Proofs.Ytmmafibeciaghaa
open Go.RowKit

set_option maxRecDepth 100000 in
set_option maxHeartbeats 8000000 in
theorem fsums_walk (N S T : Int) (A : Option Addr) (n c : Nat) (l : List ArcN) (AL : Option Addr) (nl cl : Nat) (L : List Int) (w : World) (hA : Arcs w w.heap.size A n l) (hf : FitsAll l) (hnc : n ≤ c) (hL : Ints w w.heap.size AL nl L) (hLR : ∀ x ∈ L, InR x) :
    Calls Try.prog 3 #[.agg #[.int .i64 N, .int .i64 S, .int .i64 T, .slice A n c], .slice AL nl cl] w fun e w' => e = .returned (.bool true) ∧ Below w.heap.size w w' := by
  have hso := fun W hW => some_any N S T A n c 40 80 l W hW hf hnc (by omega) (by omega) (by omega)
  obtain ⟨N1, hN1, hN2, hN3, hck, hln, hmem⟩ := some_net N S T 40 80 l (by omega) (by omega) (by omega)
  have hN4 := someN_le N hN1
  rw [hN1] at hso hck hln hmem
  generalize S % (N1 : Int) = S1 at *
  generalize someT (N1 : Int) S T = T1 at *
  generalize someL (N1 : Int) 80 l = l1 at *
  have hend := ends_in hck
  obtain ⟨-, -, -, hE, hS0, hS1, hT0, hT1, hST, hnn, -⟩ := hend
  obtain ⟨s, rfl⟩ := Int.eq_ofNat_of_zero_le hS0
  obtain ⟨t, rfl⟩ := Int.eq_ofNat_of_zero_le hT0
  have htot := total_le (c := 1125899906842624) fun a ha => (hmem a ha).2.2.2.2.2
  have HSO := Lib.hid hso; have HCK := Lib.hid hck; have HMEM := Lib.hid hmem; have HE := Lib.hid hE
  clear hso hck hmem hN1 hE
  go_enter Try.func3, Try.ntmps3
  go_wp2_with fail
  refine (HSO.out _ (hA.onAlloc _)).mono ?_
  rintro e w1 ⟨A1, n1, c1, rfl, o1, hl1, B1⟩
  have K1 : Blk w1 w.heap.size 24 #[.int .i64 N, .int .i64 S, .int .i64 T, .slice A n c] := (Blk.new rfl).below B1 (by simp)
  have hz1 := K1.lt
  obtain ⟨r0, r1, r2, r3⟩ := K1.at4
  obtain ⟨f0, f1, f2, f3⟩ := K1.free4
  have ST := some_stored K1 o1 hl1 (below_step (below_alloc _) B1) (.int .i64 (N1 : Int)) (.int .i64 (s : Int)) (.int .i64 (t : Int))
  have hn1 : n1 ≤ 80 := by omega
  go_wp2_with fail
  generalize (((w1.setCell ⟨w.heap.size, 0, none⟩ (.int .i64 (N1 : Int))).setCell ⟨w.heap.size, 1, none⟩ (.int .i64 (s : Int))).setCell ⟨w.heap.size, 2, none⟩ (.int .i64 (t : Int))).setCell ⟨w.heap.size, 3, none⟩ (.slice A1 n1 c1) = w2 at *
  obtain ⟨K2, a2, Bw2⟩ := ST
  clear r0 r1 r2 r3 f0 f1 f2 f3 K1 o1 B1 hz1 HSO
  have hz2 := K2.lt
  refine (withinL_any N1 s t A1 n1 c1 l1 AL nl cl L _ a2 (by omega) (fun a ha => by have := HMEM.out a ha; omega) ((hL.below Bw2).more Bw2.size) hLR).mono ?_
  rintro e w3 ⟨gX, X, rfl, hgX, X3, WX, B3⟩
  have hXl : X.length = n1 := WX.len.trans hl1
  have K3 := K2.below B3 K2.lt
  have a3 := a2.on B3
  have Bw3 := below_step Bw2 B3
  have hfl := WX.flow hl1
  have HFL := Lib.hid hfl
  have hxb : ∀ u : Int, -90071992547409920 ≤ exOf l1 X u ∧ exOf l1 X u ≤ 90071992547409920 := fun u => by
    have := exOf_bound hfl u
    omega
  have HXB := Lib.hid hxb
  clear hfl hxb
  clear K2 a2 Bw2 B3
  obtain ⟨r0, r1, r2, r3⟩ := K3.at4
  go_wp2_with fail
  refine (excess_good N1 s t A1 n1 c1 l1 _ n1 _ X _ a3 HCK.out (X3.ints hXl) HFL.out).mono ?_
  rintro e w4 ⟨gx, rfl, hgx, Y4, -, B4⟩
  have K4 := K3.below B4 K3.lt
  have a4 := a3.on B4
  have X4 := X3.below B4 X3.lt
  have Bw4 := below_step Bw3 B4
  clear r0 r1 r2 r3 K3 a3 X3 Bw3 B4
  obtain ⟨r0, r1, r2, r3⟩ := K4.at4
  have hz4 := K4.lt
  go_wp2_with fail
  refine (flowIn_any N1 s t A1 n1 c1 l1 _ n1 _ X true _ a4 (by omega) HCK.out (X4.ints hXl) (by omega) (by simp; exact HFL.out)).mono ?_
  rintro e w5 ⟨rfl, B5⟩
  have K5 := K4.below B5 K4.lt
  have a5 := a4.on B5
  have X5 := X4.below B5 X4.lt
  have Y5 := Y4.below B5 Y4.lt
  have Bw5 := below_step Bw4 B5
  clear r0 r1 r2 r3 hz4 K4 a4 X4 Y4 Bw4 B5
  obtain ⟨r0, r1, r2, r3⟩ := K5.at4
  have hz5 := K5.lt
  go_wp2_with fail
  go_loopw [8, 9, 10, 11, 12, 43] (fun s8 s9 s10 _ _ i wr => ∃ k : Nat, k ≤ N1 ∧ i = .int .i64 k ∧ s8 = .int .i64 (sumN (fun u => exOf l1 X (u : Int)) k) ∧ s9 = .bool (preD s l1 X k) ∧ s10 = .bool (rightD s t l1 X k) ∧ wr = w5) (fun _ _ _ _ _ i _ => N1 - (intOf i).toNat)
  case atStart => exact ⟨0, Nat.zero_le _, rfl, rfl, by rw [preD_zero], by rw [rightD_zero], rfl⟩
  case round =>
    obtain ⟨k, hk, rfl, rfl, rfl, rfl, rfl⟩ := hrel
    by_cases hlt : k < N1
    · have y0 := Y5.iat (exList_at l1 X hlt)
      have b1 := sumN_small (f := fun u => exOf l1 X (u : Int)) (n := k) (N := N1) (by omega) hN4 fun u _ => HXB.out _
      have b2 := HXB.out (k : Int)
      obtain ⟨z, hz⟩ : ∃ z, sumN (fun u => exOf l1 X (u : Int)) k = z := ⟨_, rfl⟩
      have hzs : sumN (fun u => exOf l1 X (u : Int)) (k + 1) = z + exOf l1 X (k : Int) := by rw [← hz]; rfl
      rw [hz] at b1 ⊢
      have HZS := Lib.hid hzs; clear hz hzs
      have hps := preD_succ (S := (s : Int)) (l := l1) (F := X) (k := k)
      have hrs := rightD_succ (S := (s : Int)) (T := (t : Int)) (l := l1) (F := X) (k := k)
      have HPS := Lib.hid hps; have HRS := Lib.hid hrs; clear hps hrs
      generalize exOf l1 X (k : Int) = v at *
      generalize preD (s : Int) l1 X k = pk at *
      generalize rightD (s : Int) (t : Int) l1 X k = rk at *
      go_upto_region 12 with fail
      go_cut [9] (fun s9 wx => s9 = .bool (preD s l1 X (k + 1)) ∧ wx = wr)
      case first =>
        cases pk
        · go_wp2_with fail
          go_meet
          exact ⟨by rw [HPS.out]; rfl, rfl⟩
        · cases h0 : decide (0 ≤ v)
          · cases h1 : ((k : Int) == (s : Int))
            all_goals
              have H1 := Lib.hid h1
              go_wp2_with fail
              go_meet
              exact ⟨by rw [HPS.out, h0]; simpa using H1.out.symm, rfl⟩
          · have h0' : 0 ≤ v := by simpa using h0
            go_wp2_with fail
            go_meet
            exact ⟨by rw [HPS.out, h0]; rfl, rfl⟩
      case rest =>
        obtain ⟨rfl, rfl⟩ := hcut
        cases rk
        · go_wp2_with fail
          go_roundw
          case rel => exact ⟨k + 1, by omega, by go_num, by rw [HZS.out], rfl, by rw [HRS.out]; rfl, trivial⟩
          case measure => simp [intOf]; omega
        · cases h0 : (v == 0)
          · have H0 := Lib.hid h0
            cases h1 : ((k : Int) == (s : Int))
            · have H1 := Lib.hid h1
              cases h2 : ((k : Int) == (t : Int))
              all_goals
                have H2 := Lib.hid h2
                go_wp2_with fail
                go_roundw
                case rel => exact ⟨k + 1, by omega, by go_num, by rw [HZS.out], rfl, by rw [HRS.out]; change _ = Value.bool (true && ((v == 0) || (((k : Int) == (s : Int)) || ((k : Int) == (t : Int))))); rw [H0.out, H1.out, H2.out]; rfl, trivial⟩
                case measure => simp [intOf]; omega
            · have H1 := Lib.hid h1
              go_wp2_with fail
              go_roundw
              case rel => exact ⟨k + 1, by omega, by go_num, by rw [HZS.out], rfl, by rw [HRS.out]; change _ = Value.bool (true && ((v == 0) || (((k : Int) == (s : Int)) || ((k : Int) == (t : Int))))); rw [H0.out, H1.out]; rfl, trivial⟩
              case measure => simp [intOf]; omega
          · have H0 := Lib.hid h0
            go_wp2_with fail
            go_roundw
            case rel => exact ⟨k + 1, by omega, by go_num, by rw [HZS.out], rfl, by rw [HRS.out]; change _ = Value.bool (true && ((v == 0) || (((k : Int) == (s : Int)) || ((k : Int) == (t : Int))))); rw [H0.out]; rfl, trivial⟩
            case measure => simp [intOf]; omega
    · obtain rfl : N1 = k := by omega
      have hpi := preD_iff (S := (s : Int)) (l := l1) (F := X) (N := N1)
      have hri := rightD_iff (S := (s : Int)) (T := (t : Int)) (l := l1) (F := X) (N := N1)
      have hrp := right_pre (F := X) HCK.out
      have hrv := right_value (F := X) HCK.out
      rw [sum_ex X HE.out]
      have ys := Y5.iat (exList_at l1 X (u := s) (by omega))
      have yt := Y5.iat (exList_at l1 X (u := t) (by omega))
      have bt := HXB.out (t : Int)
      generalize preD (s : Int) l1 X N1 = pb at *
      cases hrd : rightD (s : Int) (t : Int) l1 X N1
      · rw [hrd] at hri
        have hnr : ¬ RightIn N1 s t l1 X := fun h => by have := hri.2 h; cases this
        have HPI := Lib.hid hpi; have HNR := Lib.hid hnr; clear hpi hri hrp hrv hnr hrd ys yt bt
        go_wp2_with fail
        refine (value_bad N1 s t A1 n1 c1 l1 _ n1 _ X _ a5 HCK.out (X5.ints hXl) (by omega) (fun h => HNR.out h.2)).mono ?_
        rintro e w6 ⟨rfl, B6⟩
        have K6 := K5.below B6 K5.lt
        have a6 := a5.on B6
        have X6 := X5.below B6 X5.lt
        have Y6 := Y5.below B6 Y5.lt
        have Bw6 := below_step Bw5 B6
        clear r0 r1 r2 r3 K5 a5 X5 Y5 Bw5 B6
        obtain ⟨r0, r1, r2, r3⟩ := K6.at4
        have hz6 := K6.lt
        go_wp2_with fail
        refine (pre_any N1 s t A1 n1 c1 l1 _ n1 _ X pb _ a6 HCK.out (X6.ints hXl) (by omega) (by rw [HPI.out]; simp [HFL.out])).mono ?_
        rintro e w7 ⟨rfl, B7⟩
        have K7 := K6.below B7 K6.lt
        have a7 := a6.on B7
        have X7 := X6.below B7 X6.lt
        have Y7 := Y6.below B7 Y6.lt
        have Bw7 := below_step Bw6 B7
        clear r0 r1 r2 r3 K6 a6 X6 Y6 Bw6 B7
        obtain ⟨r0, r1, r2, r3⟩ := K7.at4
        have hz7 := K7.lt
        go_wp2_with fail
        refine (right_any N1 s t A1 n1 c1 l1 _ n1 _ X false _ a7 HCK.out (X7.ints hXl) (by omega) (by simp only [Bool.false_eq_true, false_iff]; exact fun h => HNR.out h.2)).mono ?_
        rintro e w8 ⟨rfl, B8⟩
        have K8 := K7.below B8 K7.lt
        have a8 := a7.on B8
        have X8 := X7.below B8 X7.lt
        have Y8 := Y7.below B8 Y7.lt
        have Bw8 := below_step Bw7 B8
        clear r0 r1 r2 r3 K7 a7 X7 Y7 Bw7 B8
        obtain ⟨r0, r1, r2, r3⟩ := K8.at4
        have hz8 := K8.lt
        go_wp2_with fail
        refine (awake3_any _).mono ?_
        rintro e w9 ⟨rfl, B9⟩
        go_wp2_with fail
        go_ret
        exact ⟨rfl, below_step Bw8 B9⟩
      · rw [hrd] at hri
        have hr := hri.1 rfl
        have hpb := hrp hr
        have hxs := hrv hr
        rw [hxs] at ys
        have HPI := Lib.hid hpi; have HR := Lib.hid hr; have HPB := Lib.hid hpb; clear hpi hri hrp hrv hrd hr hpb hxs
        go_wp2_with fail
        refine (value_good N1 s t A1 n1 c1 l1 _ n1 _ X _ a5 HCK.out (X5.ints hXl) (by omega) HFL.out HR.out).mono ?_
        rintro e w6 ⟨rfl, B6⟩
        obtain ⟨v, hv⟩ : ∃ v, exOf l1 X (t : Int) = v := ⟨_, rfl⟩
        rw [hv] at yt ys bt HPB ⊢
        have HV := Lib.hid hv; clear hv yt ys
        have K6 := K5.below B6 K5.lt
        have a6 := a5.on B6
        have X6 := X5.below B6 X5.lt
        have Y6 := Y5.below B6 Y5.lt
        have Bw6 := below_step Bw5 B6
        clear r0 r1 r2 r3 K5 a5 X5 Y5 Bw5 B6
        obtain ⟨r0, r1, r2, r3⟩ := K6.at4
        have hz6 := K6.lt
        go_wp2_with fail
        refine (pre_any N1 s t A1 n1 c1 l1 _ n1 _ X pb _ a6 HCK.out (X6.ints hXl) (by omega) (by rw [HPI.out]; simp [HFL.out])).mono ?_
        rintro e w7 ⟨rfl, B7⟩
        have K7 := K6.below B7 K6.lt
        have a7 := a6.on B7
        have X7 := X6.below B7 X6.lt
        have Y7 := Y6.below B7 Y6.lt
        have Bw7 := below_step Bw6 B7
        clear r0 r1 r2 r3 K6 a6 X6 Y6 Bw6 B7
        obtain ⟨r0, r1, r2, r3⟩ := K7.at4
        have hz7 := K7.lt
        go_wp2_with fail
        refine (right_any N1 s t A1 n1 c1 l1 _ n1 _ X true _ a7 HCK.out (X7.ints hXl) (by omega) (by simp only [true_iff]; exact ⟨HFL.out, HR.out⟩)).mono ?_
        rintro e w8 ⟨rfl, B8⟩
        have ys : w8.cell? ⟨gx, s, none⟩ = some (.int .i64 (-v)) := by
          have := (Y7.below B8 Y7.lt).iat (exList_at l1 X (u := s) (by omega))
          rwa [right_value HCK.out HR.out, HV.out] at this
        have yt : w8.cell? ⟨gx, t, none⟩ = some (.int .i64 v) := by
          have := (Y7.below B8 Y7.lt).iat (exList_at l1 X (u := t) (by omega))
          rwa [HV.out] at this
        cases h0 : decide (0 ≤ v)
        all_goals
          have hpb : pb = _ := HPB.out
          rw [h0] at hpb
          subst hpb
          have K8 := K7.below B8 K7.lt
          have a8 := a7.on B8
          have X8 := X7.below B8 X7.lt
          have Y8 := Y7.below B8 Y7.lt
          have Bw8 := below_step Bw7 B8
          clear r0 r1 r2 r3 K7 a7 X7 Y7 Bw7 B8
          obtain ⟨r0, r1, r2, r3⟩ := K8.at4
          have hz8 := K8.lt
          go_wp2_with fail
          refine (awake3_any _).mono ?_
          rintro e w9 ⟨rfl, B9⟩
          go_wp2_with fail
          go_ret
          exact ⟨rfl, below_step Bw8 B9⟩

end Go.Proofs.Ytmmafibeciaghaa
