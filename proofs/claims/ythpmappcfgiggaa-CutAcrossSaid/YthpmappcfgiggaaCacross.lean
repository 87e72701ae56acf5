/- CutAcross: the walk. -/
import Derived.Test.YthpmappcfgiggaaCutlaw
import Derived.Test.YthpmappcfgiggaaSomes
import Derived.Test.YthpmappcfgiggaaFlows
import Derived.Deep.DeepCutAuto
import Derived.Deep.CutBlock
namespace Go.Proofs.Ythpmappcfgiggaa
open Go.RowKit
set_option maxRecDepth 100000

theorem beyond_succ (K : List Bool) (l : List ArcN) (F : List Int) (k : Nat) : sumN (beyond K l F) (k + 1) = sumN (beyond K l F) k + (if inS K (k : Int) then 0 else exOf l F k) := rfl
theorem value_any (N : Nat) (S T : Int) (A : Option Addr) (n c : Nat) (l : List ArcN) (AF : Option Addr) (m cF : Nat) (F : List Int) (w : World) (hA : Arcs w w.heap.size A n l) (hck : checkF N S T l = 0)
    (hF : Ints w w.heap.size AF m F) (hm : m ≤ 1000000000000) (hfl : FlowIn l F) :
    Calls Try.prog 16 #[.agg #[.int .i64 N, .int .i64 S, .int .i64 T, .slice A n c], .slice AF m cF] w fun e w' => ((e = .returned (.tuple #[.int .i64 (exOf l F T), .int .i64 0]) ∧ RightIn N S T l F) ∨ e = .returned (.tuple #[.int .i64 0, .int .i64 20])) ∧ Below w.heap.size w w' := by
  by_cases h : RightIn N S T l F
  · exact (value_good N S T A n c l AF m cF F w hA hck hF hm hfl h).mono fun e w' ⟨h1, h2⟩ => ⟨.inl ⟨h1, h⟩, h2⟩
  · exact (value_bad N S T A n c l AF m cF F w hA hck hF hm (fun h' => h h'.2)).mono fun e w' ⟨h1, h2⟩ => ⟨.inr h1, h2⟩

set_option maxHeartbeats 8000000 in
theorem cacross_walk (N S T : Int) (A : Option Addr) (n c : Nat) (l : List ArcN) (AL : Option Addr) (nl cl : Nat) (L : List Int) (AK : Option Addr) (nk ck : Nat) (KK : List Bool) (w : World) (hA : Arcs w w.heap.size A n l) (hf : FitsAll l) (hnc : n ≤ c) (hL : Ints w w.heap.size AL nl L) (hLR : ∀ x ∈ L, InR x)
    (hKK : Bools w w.heap.size AK nk KK) :
    Calls Try.prog 3 #[.agg #[.int .i64 N, .int .i64 S, .int .i64 T, .slice A n c], .slice AL nl cl, .slice AK nk ck] w fun e w' => e = .returned (.bool true) ∧ Below w.heap.size w w' := by
  have hso := fun W hW => some_any N S T A n c 30 60 l W hW hf hnc (by omega) (by omega) (by omega)
  obtain ⟨N1, hN1, hN2, hN3, hck, hln, hmem⟩ := some_net N S T 30 60 l (by omega) (by omega) (by omega)
  have hN4 : N1 ≤ 30 := by
    have := Int.emod_lt_of_pos N (show (0 : Int) < ((30 : Nat) : Int) - 1 by omega)
    unfold someN at hN1
    omega
  rw [hN1] at hso hck hln hmem
  generalize S % (N1 : Int) = S1 at *
  generalize someT (N1 : Int) S T = T1 at *
  generalize someL (N1 : Int) 60 l = l1 at *
  have hend := ends_in hck
  obtain ⟨-, -, -, hE, hS0, hS1, hT0, hT1, hST, hnn, -⟩ := hend
  obtain ⟨s, rfl⟩ := Int.eq_ofNat_of_zero_le hS0
  obtain ⟨t, rfl⟩ := Int.eq_ofNat_of_zero_le hT0
  have htot := total_le (c := 1125899906842624) fun a ha => (hmem a ha).2.2.2.2.2
  have HSO := Lib.hid hso; have HCK := Lib.hid hck; have HMEM := Lib.hid hmem; have HE := Lib.hid hE
  clear hso hck hmem hN1 hE
  go_enter Try.func3, Try.ntmps3
  go_wp2_with fail
  refine (HSO.out _ (hA.onAlloc _)).mono ?_
  rintro e w1 ⟨A1, n1, c1, rfl, o1, hl1, B1⟩
  have K1 : Blk w1 w.heap.size 24 #[.int .i64 N, .int .i64 S, .int .i64 T, .slice A n c] := (Blk.new rfl).below B1 (by simp)
  have hz1 := K1.lt
  obtain ⟨r0, r1, r2, r3⟩ := K1.at4
  obtain ⟨f0, f1, f2, f3⟩ := K1.free4
  have ST := some_stored K1 o1 hl1 (below_step (below_alloc _) B1) (.int .i64 (N1 : Int)) (.int .i64 (s : Int)) (.int .i64 (t : Int))
  have hn1 : n1 ≤ 60 := by omega
  go_wp2_with fail
  generalize (((w1.setCell ⟨w.heap.size, 0, none⟩ (.int .i64 (N1 : Int))).setCell ⟨w.heap.size, 1, none⟩ (.int .i64 (s : Int))).setCell ⟨w.heap.size, 2, none⟩ (.int .i64 (t : Int))).setCell ⟨w.heap.size, 3, none⟩ (.slice A1 n1 c1) = w2 at *
  obtain ⟨K2, a2, Bw2⟩ := ST
  clear r0 r1 r2 r3 f0 f1 f2 f3 K1 o1 B1 hz1 HSO
  have hz2 := K2.lt
  obtain ⟨r0, r1, r2, r3⟩ := K2.at4
  have HAA : Hid (∀ W, Below w2.heap.size w2 W → Arcs W W.heap.size A1 n1 l1) := Lib.hid fun W hB => a2.on hB
  have HLL : Hid (∀ W, Below w2.heap.size w2 W → Ints W W.heap.size AL nl L) := Lib.hid fun W hB => (hL.below (below_step Bw2 hB)).more (below_step Bw2 hB).size
  have HKK : Hid (∀ W, Below w2.heap.size w2 W → Bools W W.heap.size AK nk KK) := Lib.hid fun W hB => (hKK.below (below_step Bw2 hB)).more (below_step Bw2 hB).size
  have HK := Lib.hid K2
  clear K2
  go_region_held3 (fun W => Below w2.heap.size w2 W ∧ W.cell? ⟨w.heap.size, 0, none⟩ = some (.int .i64 (N1 : Int)) ∧ W.cell? ⟨w.heap.size, 1, none⟩ = some (.int .i64 (s : Int)) ∧ W.cell? ⟨w.heap.size, 2, none⟩ = some (.int .i64 (t : Int)) ∧ W.cell? ⟨w.heap.size, 3, none⟩ = some (.slice A1 n1 c1))
    (first
      | exact room_keep HK.out (Below.refl _ _).drew
      | (go_split_ands
         exact room_keep HK.out (by refine below_step ?_ (by assumption); assumption)))
    (first
      | (go_at_call 9; go_split_ands; ((with_reducible refine (withinL_any N1 s t A1 n1 c1 l1 AL nl cl L _ (HAA.out _ (by assumption)) (by omega) (fun a ha => by have := HMEM.out a ha; omega) (HLL.out _ (by assumption)) hLR).mono ?_); rintro e W4 ⟨gX, X, rfl, hgX, X4, WX, B4⟩))
      | (go_at_call 10; go_split_ands; ((with_reducible refine (side_is N1 s t A1 n1 c1 l1 AK nk ck KK _ HCK.out (HKK.out _ (by assumption))).mono ?_); rintro e W5 ⟨gK, K, rfl, hgK, Q5, hlK, hcut, B5⟩)))
  go_split_ands
  have Bh : Below w2.heap.size w2 W5 := by assumption
  have hXl : X.length = n1 := WX.len.trans hl1
  have hfl := WX.flow hl1
  have HFL := Lib.hid hfl
  have hxb : ∀ u : Int, -90071992547409920 ≤ exOf l1 X u ∧ exOf l1 X u ≤ 90071992547409920 := fun u => by
    have := exOf_bound hfl u
    omega
  have hacc := acc_sum (K := K) X HE.out
  have hcmp := acc_cap (K := K) hfl
  have hval := fun h => acc_value (F := X) HCK.out hcut h
  have HXB := Lib.hid hxb; have HACC := Lib.hid hacc; have HCMP := Lib.hid hcmp.2; have HVAL := Lib.hid hval; have HCUT := Lib.hid hcut; have HLE := Lib.hid hcmp.1
  clear hfl hxb WX hacc hcmp hval hcut
  have K5 := HK.out.below Bh HK.out.lt
  have a5 := HAA.out _ Bh
  have X5 := X4.below B5 X4.lt
  have Bw5 := below_step Bw2 Bh
  clear HK HAA HLL HKK B4 X4 Bh B5 a2 Bw2
  clear r0 r1 r2 r3 hz2
  obtain ⟨r0, r1, r2, r3⟩ := K5.at4
  have hz5 := K5.lt
  go_wp2_with fail
  refine (across_good N1 s t A1 n1 c1 l1 _ n1 _ X _ N1 _ K _ a5 HCK.out (X5.ints hXl) HFL.out (Q5.bools hlK) HCUT.out).mono ?_
  rintro e w6 ⟨rfl, B6⟩
  have K6 := K5.below B6 K5.lt
  have a6 := a5.on B6
  have X6 := X5.below B6 X5.lt
  have Q6 := Q5.below B6 Q5.lt
  have Bw6 := below_step Bw5 B6
  clear r0 r1 r2 r3 hz5 K5 a5 X5 Q5 Bw5 B6
  obtain ⟨r0, r1, r2, r3⟩ := K6.at4
  have hz6 := K6.lt
  go_wp2_with fail
  refine (cap_good N1 s t A1 n1 c1 l1 _ N1 _ K _ a6 HCK.out (Q6.bools hlK) HCUT.out).mono ?_
  rintro e w7 ⟨rfl, B7⟩
  have K7 := K6.below B7 K6.lt
  have a7 := a6.on B7
  have X7 := X6.below B7 X6.lt
  have Q7 := Q6.below B7 Q6.lt
  have Bw7 := below_step Bw6 B7
  clear r0 r1 r2 r3 hz6 K6 a6 X6 Q6 Bw6 B7
  obtain ⟨r0, r1, r2, r3⟩ := K7.at4
  have hz7 := K7.lt
  go_wp2_with fail
  refine (excess_good N1 s t A1 n1 c1 l1 _ n1 _ X _ a7 HCK.out (X7.ints hXl) HFL.out).mono ?_
  rintro e w8 ⟨gY, rfl, hgY, Y8, -, B8⟩
  have K8 := K7.below B8 K7.lt
  have a8 := a7.on B8
  have X8 := X7.below B8 X7.lt
  have Q8 := Q7.below B8 Q7.lt
  have Bw8 := below_step Bw7 B8
  clear r0 r1 r2 r3 hz7 K7 a7 X7 Q7 Bw7 B8
  obtain ⟨r0, r1, r2, r3⟩ := K8.at4
  have hz8 := K8.lt
  go_wp2_with fail
  refine (right_is N1 s t A1 n1 c1 l1 _ N1 _ K true _ a8 HCK.out (Q8.bools hlK) (by simp; exact HCUT.out)).mono ?_
  rintro e w9 ⟨rfl, B9⟩
  have K9 := K8.below B9 K8.lt
  have a9 := a8.on B9
  have X9 := X8.below B9 X8.lt
  have Q9 := Q8.below B9 Q8.lt
  have Y9 := Y8.below B9 Y8.lt
  have Bw9 := below_step Bw8 B9
  clear r0 r1 r2 r3 hz8 K8 a8 X8 Q8 Y8 Bw8 B9
  obtain ⟨r0, r1, r2, r3⟩ := K9.at4
  have hz9 := K9.lt
  go_wp2_with fail
  go_loopw [15, 72] (fun s15 i wr => ∃ k : Nat, k ≤ N1 ∧ i = .int .i64 k ∧ s15 = .int .i64 (sumN (beyond K l1 X) k) ∧ wr = w9) (fun _ i _ => N1 - (intOf i).toNat)
  case atStart => exact ⟨0, Nat.zero_le _, rfl, rfl, rfl⟩
  case round =>
    obtain ⟨k, hk, rfl, rfl, rfl⟩ := hrel
    by_cases hlt : k < N1
    · have y0 := Y9.iat (exList_at l1 X hlt)
      have q0 := Q9.bat (at_inS (K := K) (v := k) (by omega))
      have b1 := sumN_small (f := beyond K l1 X) (n := k) (N := N1) (by omega) (by omega) fun u _ => by
        unfold beyond
        have := HXB.out (u : Int)
        split <;> omega
      have b2 := HXB.out (k : Int)
      have hzs := beyond_succ K l1 X k
      obtain ⟨z, hz⟩ : ∃ z, sumN (beyond K l1 X) k = z := ⟨_, rfl⟩
      rw [hz] at b1 hzs ⊢
      clear hz
      obtain ⟨v, hv⟩ : ∃ v, inS K (k : Int) = v := ⟨_, rfl⟩
      rw [hv] at q0 hzs
      have HZS := Lib.hid hzs; clear hzs hv
      generalize exOf l1 X (k : Int) = y at *
      cases v
      · go_wp2_with fail
        go_roundw
        case rel => exact ⟨k + 1, by omega, by go_num, by rw [HZS.out]; rfl, trivial⟩
        case measure => simp [intOf]; omega
      · go_wp2_with fail
        go_roundw
        case rel => exact ⟨k + 1, by omega, by go_num, by rw [HZS.out]; simp, trivial⟩
        case measure => simp [intOf]; omega
    · obtain rfl : N1 = k := by omega
      rw [← HACC.out]
      have hle := HLE.out
      have hcm := HCMP.out
      have hvl := HVAL.out
      clear HACC HCMP HVAL HLE
      generalize accX K l1 X = x at *
      generalize capX K l1 = y at *
      have HCM := Lib.hid hcm; have HVL := Lib.hid hvl; clear hcm hvl
      have hxy : ¬ y < x := by omega
      cases hq : decide (x = y)
      all_goals
        have HQ := Lib.hid hq
        clear hq
      · have hne : (x == y) = false := by simpa using HQ.out
        go_wp2_with fail
        refine (tight_is N1 s t A1 n1 c1 l1 _ n1 _ X _ N1 _ K false _ a9 HCK.out (X9.ints hXl) HFL.out (Q9.bools hlK) HCUT.out ⟨fun h => (by cases h), fun h => absurd (HCM.out.2 h) (of_decide_eq_false HQ.out)⟩).mono ?_
        rintro e w10 ⟨rfl, B10⟩
        have K10 := K9.below B10 K9.lt
        have a10 := a9.on B10
        have X10 := X9.below B10 X9.lt
        have Bw10 := below_step Bw9 B10
        clear r0 r1 r2 r3 hz9 K9 a9 X9 Q9 Y9 Bw9 B10
        obtain ⟨r0, r1, r2, r3⟩ := K10.at4
        have hz10 := K10.lt
        go_wp2_with fail
        refine (value_any N1 s t A1 n1 c1 l1 _ n1 _ X _ a10 HCK.out (X10.ints hXl) (by omega) HFL.out).mono ?_
        rintro e w11 ⟨hev, B11⟩
        have Bw11 := below_step Bw10 B11
        rcases hev with ⟨rfl, hR⟩ | rfl
        · rw [← HVL.out hR]
          go_wp2_with fail
          refine (awake4_any _).mono ?_
          rintro e w12 ⟨rfl, B12⟩
          go_wp2_with fail
          go_ret
          exact ⟨rfl, below_step Bw11 B12⟩
        · go_wp2_with fail
          refine (awake4_any _).mono ?_
          rintro e w12 ⟨rfl, B12⟩
          go_wp2_with fail
          go_ret
          exact ⟨rfl, below_step Bw11 B12⟩
      · have heq : (x == y) = true := by simpa using HQ.out
        go_wp2_with fail
        refine (tight_is N1 s t A1 n1 c1 l1 _ n1 _ X _ N1 _ K true _ a9 HCK.out (X9.ints hXl) HFL.out (Q9.bools hlK) HCUT.out ⟨fun _ => HCM.out.1 (of_decide_eq_true HQ.out), fun _ => rfl⟩).mono ?_
        rintro e w10 ⟨rfl, B10⟩
        have K10 := K9.below B10 K9.lt
        have a10 := a9.on B10
        have X10 := X9.below B10 X9.lt
        have Bw10 := below_step Bw9 B10
        clear r0 r1 r2 r3 hz9 K9 a9 X9 Q9 Y9 Bw9 B10
        obtain ⟨r0, r1, r2, r3⟩ := K10.at4
        have hz10 := K10.lt
        go_wp2_with fail
        refine (value_any N1 s t A1 n1 c1 l1 _ n1 _ X _ a10 HCK.out (X10.ints hXl) (by omega) HFL.out).mono ?_
        rintro e w11 ⟨hev, B11⟩
        have Bw11 := below_step Bw10 B11
        rcases hev with ⟨rfl, hR⟩ | rfl
        · rw [← HVL.out hR]
          go_wp2_with fail
          refine (awake4_any _).mono ?_
          rintro e w12 ⟨rfl, B12⟩
          go_wp2_with fail
          go_ret
          exact ⟨rfl, below_step Bw11 B12⟩
        · go_wp2_with fail
          refine (awake4_any _).mono ?_
          rintro e w12 ⟨rfl, B12⟩
          go_wp2_with fail
          go_ret
          exact ⟨rfl, below_step Bw11 B12⟩

end Go.Proofs.Ythpmappcfgiggaa
