/- CutPairs: the walk. -/
import Derived.Test.YthpmappcfgiggaaCutlaw
import Derived.Test.YthpmappcfgiggaaSomes
import Derived.Test.YthpmappcfgiggaaFlows
import Derived.Deep.DeepCutAuto
import Derived.Deep.CutBlock
namespace Go.Proofs.Ythpmappcfgiggaa
open Go.RowKit
set_option maxRecDepth 100000

theorem and_two (A1 : Option Addr) (n c1 : Nat) (K : List Bool) (A2 : Option Addr) (c2 : Nat) (L : List Bool) (w : World) (hK : Bools w w.heap.size A1 n K) (hL : Bools w w.heap.size A2 n L) (hn : n ≤ 1000000) :
    Calls Try.prog 21 #[.slice A1 n c1, .slice A2 n c2] w (RetSide n (fun M => M = sideOf (· && ·) K L) w) := by
  have h := and_is A1 n c1 K A2 n c2 L w hK hL hn hn
  rwa [Nat.max_self] at h
theorem or_two (A1 : Option Addr) (n c1 : Nat) (K : List Bool) (A2 : Option Addr) (c2 : Nat) (L : List Bool) (w : World) (hK : Bools w w.heap.size A1 n K) (hL : Bools w w.heap.size A2 n L) (hn : n ≤ 1000000) :
    Calls Try.prog 22 #[.slice A1 n c1, .slice A2 n c2] w (RetSide n (fun M => M = sideOf (· || ·) K L) w) := by
  have h := or_is A1 n c1 K A2 n c2 L w hK hL hn hn
  rwa [Nat.max_self] at h

set_option maxHeartbeats 8000000 in
theorem cpairs_walk (N S T : Int) (A : Option Addr) (n c : Nat) (l : List ArcN) (AJ : Option Addr) (nj cj : Nat) (JJ : List Bool) (AK : Option Addr) (nk ck : Nat) (KK : List Bool) (w : World) (hA : Arcs w w.heap.size A n l) (hf : FitsAll l) (hnc : n ≤ c)
    (hJJ : Bools w w.heap.size AJ nj JJ) (hKK : Bools w w.heap.size AK nk KK) :
    Calls Try.prog 6 #[.agg #[.int .i64 N, .int .i64 S, .int .i64 T, .slice A n c], .slice AJ nj cj, .slice AK nk ck] w fun e w' => e = .returned (.bool true) ∧ Below w.heap.size w w' := by
  have hso := fun W hW => some_any N S T A n c 30 60 l W hW hf hnc (by omega) (by omega) (by omega)
  obtain ⟨N1, hN1, hN2, hN3, hck, hln, hmem⟩ := some_net N S T 30 60 l (by omega) (by omega) (by omega)
  have hN4 : N1 ≤ 30 := by
    have := Int.emod_lt_of_pos N (show (0 : Int) < ((30 : Nat) : Int) - 1 by omega)
    unfold someN at hN1
    omega
  rw [hN1] at hso hck hln hmem
  generalize S % (N1 : Int) = S1 at *
  generalize someT (N1 : Int) S T = T1 at *
  generalize someL (N1 : Int) 60 l = l1 at *
  have hend := ends_in hck
  obtain ⟨-, -, -, -, hS0, hS1, hT0, hT1, hST, hnn, -⟩ := hend
  obtain ⟨s, rfl⟩ := Int.eq_ofNat_of_zero_le hS0
  obtain ⟨t, rfl⟩ := Int.eq_ofNat_of_zero_le hT0
  have htot := total_le (c := 1125899906842624) fun a ha => (hmem a ha).2.2.2.2.2
  have HSO := Lib.hid hso; have HCK := Lib.hid hck; have HNN := Lib.hid hnn
  clear hso hck hmem hN1 hnn
  go_enter Try.func6, Try.ntmps6
  go_wp2_with fail
  refine (HSO.out _ (hA.onAlloc _)).mono ?_
  rintro e w1 ⟨A1, n1, c1, rfl, o1, hl1, B1⟩
  have K1 : Blk w1 w.heap.size 24 #[.int .i64 N, .int .i64 S, .int .i64 T, .slice A n c] := (Blk.new rfl).below B1 (by simp)
  have hz1 := K1.lt
  obtain ⟨r0, r1, r2, r3⟩ := K1.at4
  obtain ⟨f0, f1, f2, f3⟩ := K1.free4
  have ST := some_stored K1 o1 hl1 (below_step (below_alloc _) B1) (.int .i64 (N1 : Int)) (.int .i64 (s : Int)) (.int .i64 (t : Int))
  have hn1 : n1 ≤ 60 := by omega
  go_wp2_with fail
  generalize (((w1.setCell ⟨w.heap.size, 0, none⟩ (.int .i64 (N1 : Int))).setCell ⟨w.heap.size, 1, none⟩ (.int .i64 (s : Int))).setCell ⟨w.heap.size, 2, none⟩ (.int .i64 (t : Int))).setCell ⟨w.heap.size, 3, none⟩ (.slice A1 n1 c1) = w2 at *
  obtain ⟨K2, a2, Bw2⟩ := ST
  clear r0 r1 r2 r3 f0 f1 f2 f3 K1 o1 B1 hz1 HSO
  have hz2 := K2.lt
  obtain ⟨r0, r1, r2, r3⟩ := K2.at4
  have HAA : Hid (∀ W, Below w2.heap.size w2 W → Arcs W W.heap.size A1 n1 l1) := Lib.hid fun W hB => a2.on hB
  have HJJ : Hid (∀ W, Below w2.heap.size w2 W → Bools W W.heap.size AJ nj JJ) := Lib.hid fun W hB => (hJJ.below (below_step Bw2 hB)).more (below_step Bw2 hB).size
  have HKK : Hid (∀ W, Below w2.heap.size w2 W → Bools W W.heap.size AK nk KK) := Lib.hid fun W hB => (hKK.below (below_step Bw2 hB)).more (below_step Bw2 hB).size
  have HK := Lib.hid K2
  clear K2
  go_region_held3 (fun W => Below w2.heap.size w2 W ∧ W.cell? ⟨w.heap.size, 0, none⟩ = some (.int .i64 (N1 : Int)) ∧ W.cell? ⟨w.heap.size, 1, none⟩ = some (.int .i64 (s : Int)) ∧ W.cell? ⟨w.heap.size, 2, none⟩ = some (.int .i64 (t : Int)) ∧ W.cell? ⟨w.heap.size, 3, none⟩ = some (.slice A1 n1 c1))
    (first
      | exact room_keep HK.out (Below.refl _ _).drew
      | (go_split_ands
         exact room_keep HK.out (by refine below_step ?_ (by assumption); assumption)))
    (first
      | (go_at_call 10; go_split_ands; ((with_reducible refine (side_is N1 s t A1 n1 c1 l1 AJ nj cj JJ _ HCK.out (HJJ.out _ (by assumption))).mono ?_); rintro e W4 ⟨gJ, J, rfl, hgJ, P4, hlJ, hcutJ, B4⟩))
      | (go_at_call 10; go_split_ands; ((with_reducible refine (side_is N1 s t A1 n1 c1 l1 AK nk ck KK _ HCK.out (HKK.out _ (by assumption))).mono ?_); rintro e W5 ⟨gK, K, rfl, hgK, Q5, hlK, hcutK, B5⟩)))
  go_split_ands
  have Bh : Below w2.heap.size w2 W5 := by assumption
  have hand := pair_and hcutJ hcutK
  have hor := pair_or hcutJ hcutK
  have hpc := pair_cap HNN.out J K
  have hb1 := (capX_bound (K := sideOf (· && ·) J K) HNN.out)
  have hb2 := (capX_bound (K := sideOf (· || ·) J K) HNN.out)
  have hb3 := (capX_bound (K := J) HNN.out)
  have hb4 := (capX_bound (K := K) HNN.out)
  have HCJ := Lib.hid hcutJ; have HCK' := Lib.hid hcutK; have HAND := Lib.hid hand; have HOR := Lib.hid hor
  clear hcutJ hcutK hand hor
  have K5 := HK.out.below Bh HK.out.lt
  have a5 := HAA.out _ Bh
  have P5 := P4.below B5 P4.lt
  have Bw5 := below_step Bw2 Bh
  clear HK HAA HJJ HKK B4 P4 Bh B5 a2 Bw2
  clear r0 r1 r2 r3 hz2
  obtain ⟨r0, r1, r2, r3⟩ := K5.at4
  have hz5 := K5.lt
  go_wp2_with fail
  refine (cap_good N1 s t A1 n1 c1 l1 _ N1 _ J _ a5 HCK.out (P5.bools hlJ) HCJ.out).mono ?_
  rintro e w6 ⟨rfl, B6⟩
  have K6 := K5.below B6 K5.lt
  have a6 := a5.on B6
  have P6 := P5.below B6 P5.lt
  have Q6 := Q5.below B6 Q5.lt
  have Bw6 := below_step Bw5 B6
  clear r0 r1 r2 r3 hz5 K5 a5 P5 Q5 Bw5 B6
  obtain ⟨r0, r1, r2, r3⟩ := K6.at4
  have hz6 := K6.lt
  go_wp2_with fail
  refine (cap_good N1 s t A1 n1 c1 l1 _ N1 _ K _ a6 HCK.out (Q6.bools hlK) HCK'.out).mono ?_
  rintro e w7 ⟨rfl, B7⟩
  have K7 := K6.below B7 K6.lt
  have a7 := a6.on B7
  have P7 := P6.below B7 P6.lt
  have Q7 := Q6.below B7 Q6.lt
  have Bw7 := below_step Bw6 B7
  clear r0 r1 r2 r3 hz6 K6 a6 P6 Q6 Bw6 B7
  obtain ⟨r0, r1, r2, r3⟩ := K7.at4
  have hz7 := K7.lt
  go_upto_region 5 with fail
  have HA7 : Hid (∀ W, Below w7.heap.size w7 W → Arcs W W.heap.size A1 n1 l1) := Lib.hid fun W hB => a7.on hB
  have HP7 : Hid (∀ W, Below w7.heap.size w7 W → Bools W W.heap.size (some ⟨gJ, 0, none⟩) N1 J) := Lib.hid fun W hB => (P7.below hB P7.lt).bools hlJ
  have HQ7 : Hid (∀ W, Below w7.heap.size w7 W → Bools W W.heap.size (some ⟨gK, 0, none⟩) N1 K) := Lib.hid fun W hB => (Q7.below hB Q7.lt).bools hlK
  have HK := Lib.hid K7
  clear K7
  go_region_held3 (fun W => Below w7.heap.size w7 W ∧ W.cell? ⟨w.heap.size, 0, none⟩ = some (.int .i64 (N1 : Int)) ∧ W.cell? ⟨w.heap.size, 1, none⟩ = some (.int .i64 (s : Int)) ∧ W.cell? ⟨w.heap.size, 2, none⟩ = some (.int .i64 (t : Int)) ∧ W.cell? ⟨w.heap.size, 3, none⟩ = some (.slice A1 n1 c1))
    (first
      | exact room_keep HK.out (Below.refl _ _).drew
      | (go_split_ands
         exact room_keep HK.out (by refine below_step ?_ (by assumption); assumption)))
    (first
      | (go_at_call 21; go_split_ands; ((with_reducible refine (and_two (some ⟨gJ, 0, none⟩) N1 _ J (some ⟨gK, 0, none⟩) _ K _ (HP7.out _ (by assumption)) (HQ7.out _ (by assumption)) (by omega)).mono ?_); rintro e W8 ⟨gM, M, rfl, hgM, M8, hlM, hM, B8⟩))
      | (go_at_call 12; go_split_ands; ((with_reducible refine (cap_good N1 s t A1 n1 c1 l1 (some ⟨gM, 0, none⟩) _ _ M _ (HA7.out _ (by assumption)) HCK.out (M8.bools hlM) (hM ▸ HAND.out)).mono ?_); rintro e W9 ⟨rfl, B9⟩)))
  go_split_ands
  clear hM hlM M8 hgM B8 B9
  have B7' : Below w7.heap.size w7 W9 := by assumption
  have K9 := HK.out.below B7' HK.out.lt
  have a9 := HA7.out _ B7'
  have P9 := P7.below B7' P7.lt
  have Q9 := Q7.below B7' Q7.lt
  have Bw9 := below_step Bw7 B7'
  clear r0 r1 r2 r3 hz7 a7 P7 Q7 Bw7 B7' HA7 HP7 HQ7 HK
  obtain ⟨r0, r1, r2, r3⟩ := K9.at4
  have hz9 := K9.lt
  go_upto_region 6 with fail
  have HA9 : Hid (∀ W, Below W9.heap.size W9 W → Arcs W W.heap.size A1 n1 l1) := Lib.hid fun W hB => a9.on hB
  have HP9 : Hid (∀ W, Below W9.heap.size W9 W → Bools W W.heap.size (some ⟨gJ, 0, none⟩) N1 J) := Lib.hid fun W hB => (P9.below hB P9.lt).bools hlJ
  have HQ9 : Hid (∀ W, Below W9.heap.size W9 W → Bools W W.heap.size (some ⟨gK, 0, none⟩) N1 K) := Lib.hid fun W hB => (Q9.below hB Q9.lt).bools hlK
  have HK := Lib.hid K9
  clear K9
  go_region_held3 (fun W => Below W9.heap.size W9 W ∧ W.cell? ⟨w.heap.size, 0, none⟩ = some (.int .i64 (N1 : Int)) ∧ W.cell? ⟨w.heap.size, 1, none⟩ = some (.int .i64 (s : Int)) ∧ W.cell? ⟨w.heap.size, 2, none⟩ = some (.int .i64 (t : Int)) ∧ W.cell? ⟨w.heap.size, 3, none⟩ = some (.slice A1 n1 c1))
    (first
      | exact room_keep HK.out (Below.refl _ _).drew
      | (go_split_ands
         exact room_keep HK.out (by refine below_step ?_ (by assumption); assumption)))
    (first
      | (go_at_call 22; go_split_ands; ((with_reducible refine (or_two (some ⟨gJ, 0, none⟩) N1 _ J (some ⟨gK, 0, none⟩) _ K _ (HP9.out _ (by assumption)) (HQ9.out _ (by assumption)) (by omega)).mono ?_); rintro e W10 ⟨gM, M, rfl, hgM, M10, hlM, hM, B10⟩))
      | (go_at_call 12; go_split_ands; ((with_reducible refine (cap_good N1 s t A1 n1 c1 l1 (some ⟨gM, 0, none⟩) _ _ M _ (HA9.out _ (by assumption)) HCK.out (M10.bools hlM) (hM ▸ HOR.out)).mono ?_); rintro e W11 ⟨rfl, B11⟩)))
  go_split_ands
  subst hM
  clear hlM M10 hgM B10 B11
  have B9' : Below W9.heap.size W9 W11 := by assumption
  have K11 := HK.out.below B9' HK.out.lt
  have P11 := P9.below B9' P9.lt
  have Q11 := Q9.below B9' Q9.lt
  have Bw11 := below_step Bw9 B9'
  clear r0 r1 r2 r3 hz9 a9 P9 Q9 Bw9 B9' HA9 HP9 HQ9 HK
  generalize capX (sideOf (fun x1 x2 => x1 && x2) J K) l1 = p at *
  generalize capX (sideOf (fun x1 x2 => x1 || x2) J K) l1 = q at *
  generalize capX J l1 = x at *
  generalize capX K l1 = y at *
  have hpx : ¬ x + y < p + q := by omega
  have hp0 : ¬ p < 0 := by omega
  have hq0 : ¬ q < 0 := by omega
  have e1 : IntKind.i64.wrap (p + q) = p + q := wrap_id (by omega) (by omega)
  have e2 : IntKind.i64.wrap (x + y) = x + y := wrap_id (by omega) (by omega)
  go_wp2_with fail
  refine (and_two (some ⟨gJ, 0, none⟩) N1 _ J (some ⟨gJ, 0, none⟩) _ J _ (P11.bools hlJ) (P11.bools hlJ) (by omega)).mono ?_
  rintro e w12 ⟨gM, M, rfl, hgM, M12, hlM, hM, B12⟩
  rw [and_same] at hM
  subst hM
  have P12 := P11.below B12 P11.lt
  have Q12 := Q11.below B12 Q11.lt
  have Bw12 := below_step Bw11 B12
  clear P11 Q11 Bw11 B12
  go_wp2_with fail
  refine (bools_is (n := N1) (m := N1) _ _ (M12.bools hlM) (P12.bools hlJ) (by omega) (v := true) (by simp)).mono ?_
  rintro e w13 ⟨rfl, B13⟩
  have P13 := P12.below B13 P12.lt
  have Q13 := Q12.below B13 Q12.lt
  have Bw13 := below_step Bw12 B13
  clear P12 Q12 Bw12 B13
  go_wp2_with fail
  refine (or_two (some ⟨gJ, 0, none⟩) N1 _ _ (some ⟨gK, 0, none⟩) _ K _ (P13.bools hlJ) (Q13.bools hlK) (by omega)).mono ?_
  rintro e w14 ⟨gM2, M2, rfl, hgM2, M14, hlM2, hM2, B14⟩
  have P14 := P13.below B14 P13.lt
  have Q14 := Q13.below B14 Q13.lt
  have Bw14 := below_step Bw13 B14
  clear P13 Q13 Bw13 B14
  go_wp2_with fail
  refine (or_two (some ⟨gK, 0, none⟩) N1 _ K (some ⟨gJ, 0, none⟩) _ _ _ (Q14.bools hlK) (P14.bools hlJ) (by omega)).mono ?_
  rintro e w15 ⟨gM3, M3, rfl, hgM3, M15, hlM3, hM3, B15⟩
  have M15' := M14.below B15 M14.lt
  have Bw15 := below_step Bw14 B15
  clear Bw14 B15
  go_wp2_with fail
  refine (bools_is (n := N1) (m := N1) _ _ (M15'.bools hlM2) (M15.bools hlM3) (by omega) (v := true) (by simp only [true_iff]; rw [hM2, hM3]; exact or_turn _ _)).mono ?_
  rintro e w16 ⟨rfl, B16⟩
  have Bw16 := below_step Bw15 B16
  go_wp2_with fail
  refine (awake4_any _).mono ?_
  rintro e w17 ⟨rfl, B17⟩
  go_wp2_with fail
  go_ret
  exact ⟨rfl, below_step Bw16 B17⟩

end Go.Proofs.Ythpmappcfgiggaa
