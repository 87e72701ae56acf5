/- Layer 10: layouts: Plan, and where a worker's things are. -/
import Derived.Test.YtpmhajpjjihndaaRows
import Derived.Test.YtpmhajpjjihndaaGround
import Derived.WalkKit
namespace Go.Proofs.Ytpmhajpjjihndaa
open Go.RowKit
set_option maxRecDepth 100000

/-- r is the least power of two that is at least n. -/
def IsPow (r n : Nat) : Prop := ∃ k, r = 2 ^ k ∧ n ≤ r ∧ ∀ j, n ≤ 2 ^ j → k ≤ j
theorem IsPow.unique {r r' n : Nat} (h : IsPow r n) (h' : IsPow r' n) : r = r' := by
  obtain ⟨k, rfl, h1, h2⟩ := h
  obtain ⟨k', rfl, h1', h2'⟩ := h'
  have := h2 k' h1'
  have := h2' k h1
  rw [show k = k' by omega]
theorem IsPow.pos {r n : Nat} (h : IsPow r n) : 1 ≤ r := by
  obtain ⟨k, rfl, _⟩ := h
  exact Nat.one_le_two_pow
theorem IsPow.ge {r n : Nat} (h : IsPow r n) : n ≤ r := by obtain ⟨k, rfl, h, _⟩ := h; exact h
theorem IsPow.max {r n : Nat} (h : IsPow r n) (hn : n ≤ 4096) : r ≤ 4096 := by
  obtain ⟨k, rfl, _, h⟩ := h
  have : k ≤ 12 := h 12 (by omega)
  exact Nat.pow_le_pow_right (n := 2) (by omega) this
/-- The loop that doubles. -/
def Dbl (n r : Nat) : Prop := ∃ k, r = 2 ^ k ∧ ∀ j, n ≤ 2 ^ j → k ≤ j
theorem Dbl.one (n : Nat) : Dbl n 1 := ⟨0, rfl, fun _ _ => Nat.zero_le _⟩
theorem Dbl.next {n r : Nat} (h : Dbl n r) (hlt : r < n) : Dbl n (2 * r) := by
  obtain ⟨k, rfl, h⟩ := h
  refine ⟨k + 1, by rw [Nat.pow_succ]; omega, fun j hj => ?_⟩
  rcases Nat.lt_or_ge k j with hk | hk
  · exact hk
  · have := Nat.pow_le_pow_right (n := 2) (by omega) hk
    omega
theorem Dbl.stop {n r : Nat} (h : Dbl n r) (hge : ¬ r < n) : IsPow r n := by
  obtain ⟨k, rfl, h⟩ := h
  exact ⟨k, rfl, by omega, h⟩
theorem Dbl.pos {n r : Nat} (h : Dbl n r) : 1 ≤ r := by
  obtain ⟨k, rfl, _⟩ := h
  exact Nat.one_le_two_pow

theorem within_is (n lo hi : Int) (w : World) :
    Calls Try.prog 35 #[.int .i64 n, .int .i64 lo, .int .i64 hi] w fun e w' => e = .returned (.bool (decide (lo ≤ n ∧ n ≤ hi))) ∧ w' = w := by
  by_cases h0 : lo ≤ n
  · by_cases h1 : n ≤ hi
    · rw [decide_eq_true (p := _ ∧ _) ⟨h0, h1⟩]
      go_enter Try.func35, Try.ntmps35
      go_wp2
      go_ret
      simp
    · rw [decide_eq_false (p := _ ∧ _) (fun c => h1 c.2)]
      go_enter Try.func35, Try.ntmps35
      go_wp2
      go_ret
      simp
  · rw [decide_eq_false (p := _ ∧ _) (fun c => h0 c.1)]
    go_enter Try.func35, Try.ntmps35
    go_wp2
    go_ret
    simp

theorem room_is {n : Nat} (hn : n ≤ 4096) (w : World) :
    Calls Try.prog 36 #[.int .i64 (n : Int)] w fun e w' => ∃ r : Nat, e = .returned (.int .i64 (r : Int)) ∧ IsPow r n ∧ w' = w := by
  go_enter Try.func36, Try.ntmps36
  go_wp2
  go_loopw [3] (fun i wr => ∃ r : Nat, i = .int .i64 (r : Int) ∧ r ≤ 8192 ∧ Dbl n r ∧ wr = w) (fun i _ => n - (intOf i).toNat)
  case atStart => exact ⟨1, rfl, by omega, Dbl.one n, rfl⟩
  case round =>
    obtain ⟨r, rfl, hr, hd, rfl⟩ := hrel
    by_cases hlt : r < n
    · go_wp2
      go_roundw
      case rel => exact ⟨2 * r, by go_num, by omega, hd.next hlt, by first | rfl | trivial⟩
      case measure => have := hd.pos; simp [intOf]; omega
    · go_wp2
      go_ret
      exact ⟨_, rfl, hd.stop hlt, rfl⟩

/-- The cells of a layout, by its numbers. -/
def layL (v a k r : Nat) : List Int := [(v : Int), a, k, r, 0, a, a + v, a + v + v, a + v + v + v, a + v + v + v + 1, a + v + v + v + 1 + 1, a + v + v + v + 1 + 1 + 1, a + v + v + v + 1 + 1 + 1 + 1, a + v + v + v + 1 + 1 + 1 + 1 + k * (2 + r)]
def layW (v a k r : Nat) : Value := .agg (ivs (layL v a k r))
def layZ : Value := .agg (ivs [0, 0, 0, 0, 0, 0, 0, 0, 0, 0, 0, 0, 0, 0])

theorem plan_bad {v a k : Int} (h : ¬ ((0 ≤ v ∧ v ≤ 4096) ∧ (0 ≤ a ∧ a ≤ 32768) ∧ (1 ≤ k ∧ k ≤ 64))) (w : World) :
    Calls Try.prog 20 #[.int .i64 v, .int .i64 a, .int .i64 k] w fun e w' => e = .returned (.tuple #[layZ, .int .i64 2]) ∧ Below w.heap.size w w' := by
  by_cases h0 : 0 ≤ v ∧ v ≤ 4096
  · by_cases h1 : 0 ≤ a ∧ a ≤ 32768
    · have h2 : ¬ (1 ≤ k ∧ k ≤ 64) := fun c => h ⟨h0, h1, c⟩
      go_enter Try.func20, Try.ntmps20
      go_wp2_with (go_at_call 35; refine (within_is _ _ _ _).mono ?_; rintro e w' ⟨rfl, hw'⟩; rw [hw']; clear hw' w'; first | rw [decide_eq_true h0] | rw [decide_eq_true h1] | rw [decide_eq_false h2])
      refine bodyPost_ret (v := .tuple #[layZ, .int .i64 2]) (by simp [results, Try.results20, go_sem, layZ, ivs]) rfl ?_
      exact ⟨rfl, (Below.refl _ w).alloc (Nat.le_refl _) _⟩
    · go_enter Try.func20, Try.ntmps20
      go_wp2_with (go_at_call 35; refine (within_is _ _ _ _).mono ?_; rintro e w' ⟨rfl, hw'⟩; rw [hw']; clear hw' w'; first | rw [decide_eq_true h0] | rw [decide_eq_false h1])
      refine bodyPost_ret (v := .tuple #[layZ, .int .i64 2]) (by simp [results, Try.results20, go_sem, layZ, ivs]) rfl ?_
      exact ⟨rfl, (Below.refl _ w).alloc (Nat.le_refl _) _⟩
  · go_enter Try.func20, Try.ntmps20
    go_wp2_with (go_at_call 35; refine (within_is _ _ _ _).mono ?_; rintro e w' ⟨rfl, hw'⟩; rw [hw']; clear hw' w'; rw [decide_eq_false h0])
    refine bodyPost_ret (v := .tuple #[layZ, .int .i64 2]) (by simp [results, Try.results20, go_sem, layZ, ivs]) rfl ?_
    exact ⟨rfl, (Below.refl _ w).alloc (Nat.le_refl _) _⟩

set_option maxHeartbeats 4000000 in
theorem plan_good {v a k : Nat} (hv : v ≤ 4096) (ha : a ≤ 32768) (h1 : 1 ≤ k) (h2 : k ≤ 64) (w : World) :
    Calls Try.prog 20 #[.int .i64 (v : Int), .int .i64 (a : Int), .int .i64 (k : Int)] w fun e w' => ∃ r : Nat, e = .returned (.tuple #[layW v a k r, .int .i64 0]) ∧ IsPow r v ∧ Below w.heap.size w w' := by
  have hmf : ∀ (fn : Fn) (first cap : Array Value) (w : World), (Instr.makeFunc fn first cap).run Try.prog w = .ok (.func fn first cap) w := fun _ _ _ _ => rfl
  have b0 : (0 : Int) ≤ (v : Int) ∧ (v : Int) ≤ 4096 := by omega
  have b1 : (0 : Int) ≤ (a : Int) ∧ (a : Int) ≤ 32768 := by omega
  have b2 : (1 : Int) ≤ (k : Int) ∧ (k : Int) ≤ 64 := by omega
  go_enter Try.func20, Try.ntmps20
  go_wp2_with (first | (go_at_call 35; refine (within_is _ _ _ _).mono ?_; rintro e w' ⟨rfl, hw'⟩; rw [hw']; clear hw' w'; first | rw [decide_eq_true b0] | rw [decide_eq_true b1] | rw [decide_eq_true b2]) | (go_at_call 36; refine (room_is hv _).mono ?_; rintro e w' ⟨r, rfl, hr, hw'⟩; rw [hw']; clear hw' w'))
  have hrm := hr.max hv
  have hm : (0 : Int) ≤ (k : Int) * (2 + (r : Int)) ∧ (k : Int) * (2 + (r : Int)) ≤ 262272 := by
    constructor
    · exact Int.mul_nonneg (by omega) (by omega)
    · exact Int.le_trans (Int.mul_le_mul (c := (k : Int)) (d := 4098) (Int.le_refl _) (by omega) (by omega) (by omega)) (by omega)
  go_wp2
  refine bodyPost_ret (v := .tuple #[layW v a k r, .int .i64 0]) (by simp [results, Try.results20, go_sem, layW, layL, ivs]) rfl ?_
  exact ⟨_, rfl, hr, ((Below.refl _ w).alloc (Nat.le_refl _) _).alloc (by simp) _⟩

/-- The first cell of a worker's deque. -/
def deqV (v a r x : Nat) : Int := (a : Int) + v + v + v + 1 + 1 + 1 + 1 + x * (2 + r)
abbrev layA (v a k r : Nat) : Array Value := #[.int .i64 (v : Int), .int .i64 (a : Int), .int .i64 (k : Int), .int .i64 (r : Int), .int .i64 0, .int .i64 (a : Int), .int .i64 ((a : Int) + v), .int .i64 ((a : Int) + v + v), .int .i64 ((a : Int) + v + v + v), .int .i64 ((a : Int) + v + v + v + 1), .int .i64 ((a : Int) + v + v + v + 1 + 1), .int .i64 ((a : Int) + v + v + v + 1 + 1 + 1), .int .i64 ((a : Int) + v + v + v + 1 + 1 + 1 + 1), .int .i64 ((a : Int) + v + v + v + 1 + 1 + 1 + 1 + k * (2 + r))]
theorem layW_eq (v a k r : Nat) : layW v a k r = .agg (layA v a k r) := rfl
theorem deq_max {r x : Nat} (hr : r ≤ 4096) (hx : x ≤ 64) : (0 : Int) ≤ (x : Int) * (2 + (r : Int)) ∧ (x : Int) * (2 + (r : Int)) ≤ 262272 :=
  ⟨Int.mul_nonneg (by omega) (by omega), Int.le_trans (Int.mul_le_mul (c := (64 : Int)) (d := 4098) (by omega) (by omega) (by omega) (by omega)) (by omega)⟩
/-- The world with a layout more in a box. -/
abbrev boxed (w : World) (v a k r : Nat) : World := w.alloc (.cells (layA v a k r) 43)
theorem boxed_below {B : Nat} {w u : World} (h : Below B u w) (hB : B ≤ w.heap.size) (v a k r : Nat) : Below B u (boxed w v a k r) := h.alloc hB _

end Go.Proofs.Ytpmhajpjjihndaa
