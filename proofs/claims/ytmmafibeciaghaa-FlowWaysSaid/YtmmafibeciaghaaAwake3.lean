/- Layer 3: the chapter's examples ('awake'). -/
import Derived.Test.YtmmafibeciaghaaWayf
import Derived.Test.YtmmafibeciaghaaFlowc
import Derived.Test.YtmmafibeciaghaaFourc
import Derived.Test.YtmmafibeciaghaaLongc
namespace Go.Proofs.Ytmmafibeciaghaa
open Go.RowKit Go.Maps

theorem four_flow {x0 x1 x2 x3 x4 : Int} : FlowIn fourArcs [x0, x1, x2, x3, x4] ↔ (0 ≤ x0 ∧ x0 ≤ 5) ∧ (0 ≤ x1 ∧ x1 ≤ 4) ∧ (0 ≤ x2 ∧ x2 ≤ 3) ∧ (0 ≤ x3 ∧ x3 ≤ 6) ∧ (0 ≤ x4 ∧ x4 ≤ 2) := by
  constructor
  · intro h
    exact ⟨h.ent 0 _ _ rfl rfl, h.ent 1 _ _ rfl rfl, h.ent 2 _ _ rfl rfl, h.ent 3 _ _ rfl rfl, h.ent 4 _ _ rfl rfl⟩
  · rintro ⟨h0, h1, h2, h3, h4⟩
    refine ⟨rfl, fun i a x ha hx => ?_⟩
    match i, ha, hx with
    | 0, ha, hx => simp [fourArcs] at ha hx; subst ha; subst hx; exact h0
    | 1, ha, hx => simp [fourArcs] at ha hx; subst ha; subst hx; exact h1
    | 2, ha, hx => simp [fourArcs] at ha hx; subst ha; subst hx; exact h2
    | 3, ha, hx => simp [fourArcs] at ha hx; subst ha; subst hx; exact h3
    | 4, ha, hx => simp [fourArcs] at ha hx; subst ha; subst hx; exact h4
    | i + 5, ha, hx => simp at hx
theorem four_check' : checkF (4 : Nat) 0 3 fourArcs = 0 := by decide +kernel
def hops1 : List HopN := [⟨0, false⟩, ⟨4, false⟩, ⟨3, false⟩]
def hops2 : List HopN := [⟨0, true⟩, ⟨1, false⟩]
theorem sent1 (d : Int) : sent [3, 4, 3, 4, 0] hops1 d = [3 + d, 4, 3, 4 + d, d] := by
  simp [sent, hops1, surp, sgn, List.mapIdx_cons]
theorem sent2 (d : Int) : sent [3, 4, 3, 4, 0] hops2 d = [3 - d, 4 + d, 3, 4, 0] := by
  simp [sent, hops2, surp, sgn, List.mapIdx_cons]
  omega
theorem room1 : IsRoom fourArcs [3, 4, 3, 4, 0] hops1 2 := by
  refine ⟨by omega, by unfold maxSum; omega, fun d h0 h1 => ?_⟩
  rw [sent1, four_flow]
  omega
theorem room2 : IsRoom fourArcs [3, 4, 3, 4, 0] hops2 0 := by
  refine ⟨by omega, by unfold maxSum; omega, fun d h0 h1 => ?_⟩
  rw [sent2, four_flow]
  omega
theorem way1 : IsWay fourArcs hops1 := .inr ⟨0, 3, 1, ⟨by decide, _, rfl, rfl, rfl⟩, 2, ⟨by decide, _, rfl, rfl, rfl⟩, 3, ⟨by decide, _, rfl, rfl, rfl⟩, rfl⟩
theorem way2 : IsWay fourArcs hops2 := .inr ⟨1, 2, 0, ⟨by decide, _, rfl, rfl, rfl⟩, 2, ⟨by decide, _, rfl, rfl, rfl⟩, rfl⟩
theorem four_right : RightIn (4 : Nat) 0 3 fourArcs [3, 4, 3, 4, 0] ∧ RightIn (4 : Nat) 0 3 fourArcs [5, 4, 3, 6, 2] ∧ PreIn (4 : Nat) 0 fourArcs [5, 4, 3, 4, 0] ∧ ¬ RightIn (4 : Nat) 0 3 fourArcs [5, 4, 3, 4, 0] := by
  unfold RightIn PreIn
  decide +kernel
theorem four_worth : exOf fourArcs [3, 4, 3, 4, 0] 3 = 7 ∧ exOf fourArcs [5, 4, 3, 6, 2] 3 = 9 ∧ exList 4 fourArcs [5, 4, 3, 4, 0] = [-9, 2, 0, 7] := by decide +kernel

set_option maxRecDepth 100000 in
set_option maxHeartbeats 4000000 in
theorem awake3_any (w : World) : Calls Try.prog 15 #[] w fun e w' => e = .returned (.bool true) ∧ Below w.heap.size w w' := by
  go_enter Try.func15, Try.ntmps15
  go_wp2_with fail
  refine (four_any _).mono ?_
  rintro e w1 ⟨A1, n1, c1, rfl, o1, l1, B1⟩
  obtain rfl : n1 = 5 := l1.symm
  have a1 := arcs_own o1 l1
  clear o1 l1
  go_wp2_with fail
  have K1 : Blk (w1.alloc (.cells #[.int .i64 4, .int .i64 0, .int .i64 3, .slice A1 5 c1] 24)) w1.heap.size 24 _ := Blk.new rfl
  have K1' := K1.alloc (.cells #[.int .i64 3, .int .i64 4, .int .i64 3, .int .i64 4, .int .i64 0] 2)
  have N1 : Blk ((w1.alloc (.cells #[.int .i64 4, .int .i64 0, .int .i64 3, .slice A1 5 c1] 24)).alloc (.cells #[.int .i64 3, .int .i64 4, .int .i64 3, .int .i64 4, .int .i64 0] 2)) (w1.heap.size + 1) 2 (ivs [3, 4, 3, 4, 0]) := Blk.new (by simp)
  have a1' := (a1.onAlloc (.cells #[.int .i64 4, .int .i64 0, .int .i64 3, .slice A1 5 c1] 24)).onAlloc (.cells #[.int .i64 3, .int .i64 4, .int .i64 3, .int .i64 4, .int .i64 0] 2)
  have Bw1 := (B1.alloc B1.size (.cells #[.int .i64 4, .int .i64 0, .int .i64 3, .slice A1 5 c1] 24)).alloc (by have := B1.size; simp; omega) (.cells #[.int .i64 3, .int .i64 4, .int .i64 3, .int .i64 4, .int .i64 0] 2)
  refine (value_good 4 0 3 A1 5 c1 fourArcs _ 5 _ [3, 4, 3, 4, 0] _ a1' four_check' (N1.ints rfl) (by omega) (four_flow.2 (by omega)) four_right.1).mono ?_
  rintro e w2 ⟨rfl, B2⟩
  rw [four_worth.1]
  have K2 := K1'.below B2 K1'.lt
  have N2 := N1.below B2 N1.lt
  have a2 := a1'.on B2
  have Bw2 := below_step Bw1 B2
  obtain ⟨x0, x1, x2, x3⟩ := K2.at4
  have hz2 := K2.lt
  clear K1 K1' N1 a1 a1' B1 Bw1 B2
  go_wp2_with fail
  have M2 : Blk (w2.alloc (.cells #[.int .i64 5, .int .i64 4, .int .i64 3, .int .i64 4, .int .i64 0] 2)) w2.heap.size 2 (ivs [5, 4, 3, 4, 0]) := Blk.new rfl
  refine (excess_good 4 0 3 A1 5 c1 fourArcs _ 5 _ [5, 4, 3, 4, 0] _ (a2.onAlloc _) four_check' (M2.ints rfl) (four_flow.2 (by omega))).mono ?_
  rintro e w3 ⟨gx, rfl, hgx, X3, -, B3⟩
  rw [four_worth.2.2] at X3
  have K3 := (K2.alloc _).below B3 (K2.alloc _).lt
  have N3 := (N2.alloc _).below B3 (N2.alloc _).lt
  have a3 := (a2.onAlloc _).on B3
  have Bw3 := below_step (Bw2.alloc Bw2.size _) B3
  clear x0 x1 x2 x3 hz2 K2 N2 a2 Bw2 B3 M2
  obtain ⟨x0, x1, x2, x3⟩ := K3.at4
  have hz3 := K3.lt
  go_wp2_with fail
  have H3 : Hops (w3.alloc (.cells #[.int .i64 0, .bool false, .int .i64 4, .bool false, .int .i64 3, .bool false] 43)) (w3.alloc (.cells #[.int .i64 0, .bool false, .int .i64 4, .bool false, .int .i64 3, .bool false] 43)).heap.size (some ⟨w3.heap.size, 0, none⟩) 3 hops1 := hops_new rfl rfl (by decide)
  refine (room_good 4 0 3 A1 5 c1 fourArcs _ 5 _ [3, 4, 3, 4, 0] _ 3 _ hops1 _ (a3.onAlloc _) four_check' ((N3.alloc _).ints rfl) (four_flow.2 (by omega)) H3 (by omega) way1).mono ?_
  rintro e w4 ⟨r4, rfl, hr4, B4⟩
  obtain rfl := hr4.eq room1
  have K4 := (K3.alloc _).below B4 (K3.alloc _).lt
  have N4 := (N3.alloc _).below B4 (N3.alloc _).lt
  have X4 := (X3.alloc _).below B4 (X3.alloc _).lt
  have a4 := (a3.onAlloc _).on B4
  have Bw4 := below_step (Bw3.alloc Bw3.size _) B4
  clear x0 x1 x2 x3 hz3 K3 N3 a3 Bw3 B4 X3 H3 hr4
  obtain ⟨x0, x1, x2, x3⟩ := K4.at4
  have hz4 := K4.lt
  go_wp2_with fail
  have H4 : Hops (w4.alloc (.cells #[.int .i64 0, .bool false, .int .i64 4, .bool false, .int .i64 3, .bool false] 43)) (w4.alloc (.cells #[.int .i64 0, .bool false, .int .i64 4, .bool false, .int .i64 3, .bool false] 43)).heap.size (some ⟨w4.heap.size, 0, none⟩) 3 hops1 := hops_new rfl rfl (by decide)
  refine (send_good 4 0 3 A1 5 c1 fourArcs _ 5 _ [3, 4, 3, 4, 0] _ 3 _ hops1 2 2 _ (a4.onAlloc _) four_check' ((N4.alloc _).ints rfl) (four_flow.2 (by omega)) H4 (by omega) way1 room1 (by omega) (by omega)).mono ?_
  rintro e w5 ⟨gs, rfl, hgs, S5, -, B5⟩
  rw [show sent [3, 4, 3, 4, 0] hops1 2 = [5, 4, 3, 6, 2] by decide +kernel] at S5
  have K5 := (K4.alloc _).below B5 (K4.alloc _).lt
  have N5 := (N4.alloc _).below B5 (N4.alloc _).lt
  have X5 := (X4.alloc _).below B5 (X4.alloc _).lt
  have a5 := (a4.onAlloc _).on B5
  have Bw5 := below_step (Bw4.alloc Bw4.size _) B5
  clear x0 x1 x2 x3 hz4 K4 N4 a4 Bw4 B5 X4 H4
  obtain ⟨x0, x1, x2, x3⟩ := K5.at4
  have hz5 := K5.lt
  go_wp2_with fail
  refine (value_good 4 0 3 A1 5 c1 fourArcs _ 5 _ [5, 4, 3, 6, 2] _ a5 four_check' (S5.ints rfl) (by omega) (four_flow.2 (by omega)) four_right.2.1).mono ?_
  rintro e w6 ⟨rfl, B6⟩
  rw [four_worth.2.1]
  have K6 := K5.below B6 K5.lt
  have N6 := N5.below B6 N5.lt
  have X6 := X5.below B6 X5.lt
  have S6 := S5.below B6 S5.lt
  have a6 := a5.on B6
  have Bw6 := below_step Bw5 B6
  clear x0 x1 x2 x3 hz5 K5 N5 a5 Bw5 B6 X5 S5
  obtain ⟨x0, x1, x2, x3⟩ := K6.at4
  have hz6 := K6.lt
  go_wp2_with fail
  have H6 : Hops (w6.alloc (.cells #[.int .i64 0, .bool true, .int .i64 1, .bool false] 43)) (w6.alloc (.cells #[.int .i64 0, .bool true, .int .i64 1, .bool false] 43)).heap.size (some ⟨w6.heap.size, 0, none⟩) 2 hops2 := hops_new rfl rfl (by decide)
  refine (room_good 4 0 3 A1 5 c1 fourArcs _ 5 _ [3, 4, 3, 4, 0] _ 2 _ hops2 _ (a6.onAlloc _) four_check' ((N6.alloc _).ints rfl) (four_flow.2 (by omega)) H6 (by omega) way2).mono ?_
  rintro e w7 ⟨r7, rfl, hr7, B7⟩
  obtain rfl := hr7.eq room2
  have K7 := (K6.alloc _).below B7 (K6.alloc _).lt
  have X7 := (X6.alloc _).below B7 (X6.alloc _).lt
  have S7 := (S6.alloc _).below B7 (S6.alloc _).lt
  have a7 := (a6.onAlloc _).on B7
  have Bw7 := below_step (Bw6.alloc Bw6.size _) B7
  clear x0 x1 x2 x3 hz6 K6 N6 a6 Bw6 B7 X6 S6 H6 hr7
  obtain ⟨x0, x1, x2, x3⟩ := K7.at4
  have hz7 := K7.lt
  go_wp2_with fail
  have N7 : Blk (w7.alloc (.cells #[.int .i64 (-9), .int .i64 2, .int .i64 0, .int .i64 7] 2)) w7.heap.size 2 (ivs [-9, 2, 0, 7]) := Blk.new rfl
  refine (longs_is (n := 4) (m := 4) _ _ ((X7.alloc _).ints rfl) (N7.ints rfl) (by omega) (by omega) (v := true) (by decide)).mono ?_
  rintro e w8 ⟨rfl, B8⟩
  have K8 := (K7.alloc _).below B8 (K7.alloc _).lt
  have S8 := (S7.alloc _).below B8 (S7.alloc _).lt
  have a8 := (a7.onAlloc _).on B8
  have Bw8 := below_step (Bw7.alloc Bw7.size _) B8
  clear x0 x1 x2 x3 hz7 K7 a7 Bw7 B8 X7 S7 N7
  obtain ⟨x0, x1, x2, x3⟩ := K8.at4
  have hz8 := K8.lt
  go_wp2_with fail
  have N8 : Blk (w8.alloc (.cells #[.int .i64 5, .int .i64 4, .int .i64 3, .int .i64 6, .int .i64 2] 2)) w8.heap.size 2 (ivs [5, 4, 3, 6, 2]) := Blk.new rfl
  refine (longs_is (n := 5) (m := 5) _ _ ((S8.alloc _).ints rfl) (N8.ints rfl) (by omega) (by omega) (v := true) (by decide)).mono ?_
  rintro e w9 ⟨rfl, B9⟩
  have K9 := (K8.alloc _).below B9 (K8.alloc _).lt
  have a9 := (a8.onAlloc _).on B9
  have Bw9 := below_step (Bw8.alloc Bw8.size _) B9
  clear x0 x1 x2 x3 hz8 K8 a8 Bw8 B9 S8 N8
  obtain ⟨x0, x1, x2, x3⟩ := K9.at4
  have hz9 := K9.lt
  go_wp2_with fail
  have N9 : Blk (w9.alloc (.cells #[.int .i64 5, .int .i64 4, .int .i64 3, .int .i64 4, .int .i64 0] 2)) w9.heap.size 2 (ivs [5, 4, 3, 4, 0]) := Blk.new rfl
  refine (pre_any 4 0 3 A1 5 c1 fourArcs _ 5 _ [5, 4, 3, 4, 0] true _ (a9.onAlloc _) four_check' (N9.ints rfl) (by omega) (by simp only [true_iff]; exact ⟨four_flow.2 (by omega), four_right.2.2.1⟩)).mono ?_
  rintro e w10 ⟨rfl, B10⟩
  have K10 := (K9.alloc _).below B10 (K9.alloc _).lt
  have a10 := (a9.onAlloc _).on B10
  have Bw10 := below_step (Bw9.alloc Bw9.size _) B10
  clear x0 x1 x2 x3 hz9 K9 a9 Bw9 B10 N9
  obtain ⟨x0, x1, x2, x3⟩ := K10.at4
  have hz10 := K10.lt
  go_wp2_with fail
  have N10 : Blk (w10.alloc (.cells #[.int .i64 5, .int .i64 4, .int .i64 3, .int .i64 4, .int .i64 0] 2)) w10.heap.size 2 (ivs [5, 4, 3, 4, 0]) := Blk.new rfl
  refine (right_any 4 0 3 A1 5 c1 fourArcs _ 5 _ [5, 4, 3, 4, 0] false _ (a10.onAlloc _) four_check' (N10.ints rfl) (by omega) (by simp only [Bool.false_eq_true, false_iff]; exact fun h => four_right.2.2.2 h.2)).mono ?_
  rintro e w11 ⟨rfl, B11⟩
  go_wp2_with fail
  go_ret
  exact ⟨rfl, below_step (Bw10.alloc Bw10.size _) B11⟩

end Go.Proofs.Ytmmafibeciaghaa
