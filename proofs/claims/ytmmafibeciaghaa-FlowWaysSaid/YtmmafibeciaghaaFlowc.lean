/- Layer 3: everyExcess, Pre, Right, Value. -/
import Derived.Test.YtmmafibeciaghaaFlowb
namespace Go.Proofs.Ytmmafibeciaghaa
open Go.RowKit

def preB (S : Int) (v : Nat) (x : Int) : Bool := decide ((v : Int) = S ∨ 0 ≤ x)
def rightB (S T : Int) (v : Nat) (x : Int) : Bool := decide ((v : Int) = S ∨ (v : Int) = T ∨ x = 0)

set_option maxHeartbeats 1000000 in
theorem pre1_any (N S T : Int) (A : Option Addr) (n c g v : Nat) (x : Int) (w : World) (hK : Blk w g 24 #[.int .i64 N, .int .i64 S, .int .i64 T, .slice A n c]) :
    Calls Try.prog 25 #[.int .i64 v, .int .i64 x, .pointer (some ⟨g, 0, none⟩)] w fun e w' => e = .returned (.bool (preB S v x)) ∧ Below w.heap.size w w' := by
  obtain ⟨x0, x1, x2, x3⟩ := hK.at4
  by_cases h : (v : Int) = S
  · go_enter Try.func25, Try.ntmps25
    go_wp2
    all_goals go_ret
    all_goals refine ⟨retb ?_, Below.refl _ _⟩
    all_goals simp [preB, h]
  · go_enter Try.func25, Try.ntmps25
    go_wp2
    all_goals go_ret
    all_goals refine ⟨retb ?_, Below.refl _ _⟩
    all_goals simp [preB, h]

set_option maxHeartbeats 1000000 in
theorem right1_any (N S T : Int) (A : Option Addr) (n c g v : Nat) (x : Int) (w : World) (hK : Blk w g 24 #[.int .i64 N, .int .i64 S, .int .i64 T, .slice A n c]) :
    Calls Try.prog 26 #[.int .i64 v, .int .i64 x, .pointer (some ⟨g, 0, none⟩)] w fun e w' => e = .returned (.bool (rightB S T v x)) ∧ Below w.heap.size w w' := by
  obtain ⟨x0, x1, x2, x3⟩ := hK.at4
  by_cases h : (v : Int) = S
  · go_enter Try.func26, Try.ntmps26
    go_wp2
    all_goals go_ret
    all_goals refine ⟨retb ?_, Below.refl _ _⟩
    all_goals simp [rightB, h]
  · by_cases h2 : (v : Int) = T
    all_goals
      go_enter Try.func26, Try.ntmps26
      go_wp2
      all_goals go_ret
      all_goals refine ⟨retb ?_, Below.refl _ _⟩
      all_goals (try simp [rightB, h, h2]; done)
      all_goals (rw [Bool.eq_iff_iff]; simp [rightB, h, h2])

set_option maxHeartbeats 2000000 in
theorem every_good (fn : Nat) (p : Nat → Int → Bool) (N : Nat) (S T : Int) (A : Option Addr) (n c : Nat) (l : List ArcN) (AF : Option Addr) (m cF : Nat) (F : List Int) (g : Nat) (r : Bool) (w : World) (hA : Arcs w w.heap.size A n l) (hck : checkF N S T l = 0)
    (hF : Ints w w.heap.size AF m F) (hfl : FlowIn l F) (hK : Blk w g 24 #[.int .i64 N, .int .i64 S, .int .i64 T, .slice A n c])
    (hcl : ∀ (v : Nat) (x : Int) (W : World), Blk W g 24 #[.int .i64 N, .int .i64 S, .int .i64 T, .slice A n c] → Calls Try.prog fn #[.int .i64 v, .int .i64 x, .pointer (some ⟨g, 0, none⟩)] W fun e w' => e = .returned (.bool (p v x)) ∧ Below W.heap.size W w')
    (hcf : ∀ (xs : Array Value) (W : World), (callFunc fn xs).run Try.prog W = .ok (.enter fn xs) W) (hr : r = true ↔ ∀ u, u < N → p u (exOf l F u) = true) :
    Calls Try.prog 24 #[.agg #[.int .i64 N, .int .i64 S, .int .i64 T, .slice A n c], .slice AF m cF, .func (.func fn) #[] #[.pointer (some ⟨g, 0, none⟩)]] w fun e w' => e = .returned (.bool r) ∧ Below w.heap.size w w' := by
  have hfalse : (¬ ∀ u, u < N → p u (exOf l F u) = true) → false = r := fun h => by
    cases r with
    | false => rfl
    | true => exact absurd (hr.1 rfl) h
  have HF := Lib.hid hfalse; clear hfalse
  have HT := Lib.hid hr.2; clear hr
  have HCL := Lib.hid hcl; clear hcl
  have hN := (ends_in hck).2.1
  go_enter Try.func24, Try.ntmps24
  go_wp2_with fail
  refine (excess_good N S T A n c l AF m cF F _ (hA.onAlloc _) hck (hF.onAlloc _) hfl).mono ?_
  rintro e w1 ⟨gx, rfl, hgx, KX, hXl, B1⟩
  have K1 := (hK.alloc (.cells #[.int .i64 (N : Int), .int .i64 S, .int .i64 T, .slice A n c] 24)).below B1 (hK.alloc _).lt
  have Bw := below_step (below_alloc _) B1
  have HC := Lib.hid hck; clear hck
  clear B1
  go_wp2_with fail
  go_loopw [9, 10, 21] (fun _ _ i wr => ∃ k : Nat, k ≤ N ∧ i = .int .i64 k ∧ (∀ u : Nat, u < k → p u (exOf l F u) = true) ∧ Below w1.heap.size w1 wr) (fun _ _ i _ => N - (intOf i).toNat)
  case atStart => exact ⟨0, Nat.zero_le _, rfl, fun u h => absurd h (by omega), Below.refl _ _⟩
  case round =>
    obtain ⟨k, hk, rfl, hp, hb⟩ := hrel
    have HP := Lib.hid hp; clear hp
    by_cases hlt : k < N
    · have KXr := KX.below hb KX.lt
      have Kr := K1.below hb K1.lt
      have m0 := KXr.iat (exList_at l F hlt)
      cases hpk : p k (exOf l F k)
      · have HK := Lib.hid hpk
        go_wp2_with fail
        refine (HCL.out _ _ _ Kr).mono ?_
        rintro e w2 ⟨rfl, B2⟩
        rw [hpk]
        clear hpk
        go_wp2_with fail
        go_ret
        exact ⟨retb (HF.out fun h => by have := h k hlt; rw [HK.out] at this; cases this), Bw.trans ((hb.trans (B2.mono hb.size)).mono Bw.size)⟩
      · have HK := Lib.hid hpk
        go_wp2_with fail
        refine (HCL.out _ _ _ Kr).mono ?_
        rintro e w2 ⟨rfl, B2⟩
        rw [hpk]
        clear hpk
        go_wp2_with fail
        go_roundw
        case rel =>
          refine ⟨k + 1, by omega, by go_num, fun u hu => ?_, hb.trans (B2.mono hb.size)⟩
          by_cases e : u = k
          · subst e; exact HK.out
          · exact HP.out u (by omega)
        case measure => simp [intOf]; omega
    · go_wp2_with fail
      go_ret
      exact ⟨retb (HT.out fun u hu => HP.out u (by omega)).symm, Bw.trans (hb.mono Bw.size)⟩

set_option maxHeartbeats 1000000 in
theorem every_bad (cl : Value) (N : Nat) (S T : Int) (A : Option Addr) (n c : Nat) (l : List ArcN) (AF : Option Addr) (m cF : Nat) (F : List Int) (w : World) (hA : Arcs w w.heap.size A n l) (hck : checkF N S T l = 0)
    (hF : Ints w w.heap.size AF m F) (hm : m ≤ 1000000000000) (hfl : ¬ FlowIn l F) :
    Calls Try.prog 24 #[.agg #[.int .i64 N, .int .i64 S, .int .i64 T, .slice A n c], .slice AF m cF, cl] w fun e w' => e = .returned (.bool false) ∧ Below w.heap.size w w' := by
  go_enter Try.func24, Try.ntmps24
  go_wp2_with fail
  refine (excess_bad N S T A n c l AF m cF F _ (hA.onAlloc _) hck (hF.onAlloc _) hm hfl).mono ?_
  rintro e w1 ⟨rfl, B1⟩
  go_wp2_with fail
  go_ret
  exact ⟨rfl, below_step (below_alloc _) B1⟩

set_option maxHeartbeats 1000000 in
theorem pre_any (N : Nat) (S T : Int) (A : Option Addr) (n c : Nat) (l : List ArcN) (AF : Option Addr) (m cF : Nat) (F : List Int) (r : Bool) (w : World) (hA : Arcs w w.heap.size A n l) (hck : checkF N S T l = 0)
    (hF : Ints w w.heap.size AF m F) (hm : m ≤ 1000000000000) (hr : r = true ↔ FlowIn l F ∧ PreIn N S l F) :
    Calls Try.prog 13 #[.agg #[.int .i64 N, .int .i64 S, .int .i64 T, .slice A n c], .slice AF m cF] w fun e w' => e = .returned (.bool r) ∧ Below w.heap.size w w' := by
  by_cases hfl : FlowIn l F
  · have hr' : r = true ↔ ∀ u, u < N → preB S u (exOf l F u) = true := by
      rw [hr]
      simp only [hfl, true_and, PreIn, preB, decide_eq_true_eq]
    go_enter Try.func13, Try.ntmps13
    go_wp2_with fail
    refine (every_good 25 (preB S) N S T A n c l AF m cF F w.heap.size r _ (hA.onAlloc _) hck (hF.onAlloc _) hfl (Blk.new rfl) (fun v x W hW => pre1_any _ _ _ _ _ _ _ _ _ _ hW) (fun _ _ => by kernel_rfl) hr').mono ?_
    rintro e w1 ⟨rfl, B1⟩
    go_wp2_with fail
    go_ret
    exact ⟨rfl, below_step (below_alloc _) B1⟩
  · obtain rfl : r = false := by
      cases r with
      | false => rfl
      | true => exact absurd (hr.1 rfl).1 hfl
    go_enter Try.func13, Try.ntmps13
    go_wp2_with fail
    refine (every_bad _ N S T A n c l AF m cF F _ (hA.onAlloc _) hck (hF.onAlloc _) hm hfl).mono ?_
    rintro e w1 ⟨rfl, B1⟩
    go_wp2_with fail
    go_ret
    exact ⟨rfl, below_step (below_alloc _) B1⟩

set_option maxHeartbeats 1000000 in
theorem right_any (N : Nat) (S T : Int) (A : Option Addr) (n c : Nat) (l : List ArcN) (AF : Option Addr) (m cF : Nat) (F : List Int) (r : Bool) (w : World) (hA : Arcs w w.heap.size A n l) (hck : checkF N S T l = 0)
    (hF : Ints w w.heap.size AF m F) (hm : m ≤ 1000000000000) (hr : r = true ↔ FlowIn l F ∧ RightIn N S T l F) :
    Calls Try.prog 14 #[.agg #[.int .i64 N, .int .i64 S, .int .i64 T, .slice A n c], .slice AF m cF] w fun e w' => e = .returned (.bool r) ∧ Below w.heap.size w w' := by
  by_cases hfl : FlowIn l F
  · have hr' : r = true ↔ ∀ u, u < N → rightB S T u (exOf l F u) = true := by
      rw [hr]
      simp only [hfl, true_and, RightIn, rightB, decide_eq_true_eq]
    go_enter Try.func14, Try.ntmps14
    go_wp2_with fail
    refine (every_good 26 (rightB S T) N S T A n c l AF m cF F w.heap.size r _ (hA.onAlloc _) hck (hF.onAlloc _) hfl (Blk.new rfl) (fun v x W hW => right1_any _ _ _ _ _ _ _ _ _ _ hW) (fun _ _ => by kernel_rfl) hr').mono ?_
    rintro e w1 ⟨rfl, B1⟩
    go_wp2_with fail
    go_ret
    exact ⟨rfl, below_step (below_alloc _) B1⟩
  · obtain rfl : r = false := by
      cases r with
      | false => rfl
      | true => exact absurd (hr.1 rfl).1 hfl
    go_enter Try.func14, Try.ntmps14
    go_wp2_with fail
    refine (every_bad _ N S T A n c l AF m cF F _ (hA.onAlloc _) hck (hF.onAlloc _) hm hfl).mono ?_
    rintro e w1 ⟨rfl, B1⟩
    go_wp2_with fail
    go_ret
    exact ⟨rfl, below_step (below_alloc _) B1⟩

set_option maxHeartbeats 1000000 in
theorem value_good (N : Nat) (S T : Int) (A : Option Addr) (n c : Nat) (l : List ArcN) (AF : Option Addr) (m cF : Nat) (F : List Int) (w : World) (hA : Arcs w w.heap.size A n l) (hck : checkF N S T l = 0)
    (hF : Ints w w.heap.size AF m F) (hm : m ≤ 1000000000000) (hfl : FlowIn l F) (hR : RightIn N S T l F) :
    Calls Try.prog 12 #[.agg #[.int .i64 N, .int .i64 S, .int .i64 T, .slice A n c], .slice AF m cF] w fun e w' => e = .returned (.tuple #[.int .i64 (exOf l F T), .int .i64 0]) ∧ Below w.heap.size w w' := by
  have hend := ends_in hck
  obtain ⟨-, -, -, -, -, -, hT0, hT1, -, -, -⟩ := hend
  obtain ⟨t, rfl⟩ := Int.eq_ofNat_of_zero_le hT0
  have htN : t < N := by omega
  go_enter Try.func12, Try.ntmps12
  go_wp2_with fail
  refine (right_any N S t A n c l AF m cF F true _ (hA.onAlloc _) hck (hF.onAlloc _) hm (by simp; exact ⟨hfl, hR⟩)).mono ?_
  rintro e w1 ⟨rfl, B1⟩
  have K1 : Blk w1 w.heap.size 24 #[.int .i64 N, .int .i64 S, .int .i64 t, .slice A n c] := (Blk.new rfl).below B1 (by simp)
  have a1 := (hA.onAlloc (.cells #[.int .i64 N, .int .i64 S, .int .i64 t, .slice A n c] 24)).on B1
  have F1 := (hF.onAlloc (.cells #[.int .i64 N, .int .i64 S, .int .i64 t, .slice A n c] 24)).on B1
  have Bw := below_step (below_alloc _) B1
  clear B1
  obtain ⟨x0, x1, x2, x3⟩ := K1.at4
  have hz1 := K1.lt
  go_wp2_with fail
  refine (excess_good N S t A n c l AF m cF F _ a1 hck F1 hfl).mono ?_
  rintro e w2 ⟨gx, rfl, hgx, KX, hXl, B2⟩
  have K2 := K1.below B2 K1.lt
  obtain ⟨y0, y1, y2, y3⟩ := K2.at4
  clear x0 x1 x2 x3 K1
  have m0 := KX.iat (exList_at l F htN)
  go_wp2_with fail
  first
    | go_ret2
    | (go_quiet (fail); go_wp2_with fail; go_ret2)
  exact ⟨rfl, below_step Bw B2⟩

set_option maxHeartbeats 1000000 in
theorem value_bad (N : Nat) (S T : Int) (A : Option Addr) (n c : Nat) (l : List ArcN) (AF : Option Addr) (m cF : Nat) (F : List Int) (w : World) (hA : Arcs w w.heap.size A n l) (hck : checkF N S T l = 0)
    (hF : Ints w w.heap.size AF m F) (hm : m ≤ 1000000000000) (hfl : ¬ (FlowIn l F ∧ RightIn N S T l F)) :
    Calls Try.prog 12 #[.agg #[.int .i64 N, .int .i64 S, .int .i64 T, .slice A n c], .slice AF m cF] w fun e w' => e = .returned (.tuple #[.int .i64 0, .int .i64 20]) ∧ Below w.heap.size w w' := by
  go_enter Try.func12, Try.ntmps12
  go_wp2_with fail
  refine (right_any N S T A n c l AF m cF F false _ (hA.onAlloc _) hck (hF.onAlloc _) hm (by simp only [Bool.false_eq_true, false_iff]; exact hfl)).mono ?_
  rintro e w1 ⟨rfl, B1⟩
  go_wp2_with fail
  go_ret2
  exact ⟨rfl, below_step (below_alloc _) B1⟩

end Go.Proofs.Ytmmafibeciaghaa
