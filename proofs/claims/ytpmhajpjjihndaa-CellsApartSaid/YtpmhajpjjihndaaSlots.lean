/- Layer 10: where a worker's things are: Top, Bottom, Slot. -/
import Derived.Test.YtpmhajpjjihndaaPlan
import Derived.Deep.RegionHeld3
namespace Go.Proofs.Ytpmhajpjjihndaa
open Go.RowKit
set_option maxRecDepth 100000

theorem hasw_is (v a k r : Nat) (x : Int) (w : World) :
    Calls Try.prog 38 #[layW v a k r, .int .i64 x] w fun e w' => e = .returned (.bool (decide (0 ≤ x ∧ x < (k : Int)))) ∧ w' = boxed w v a k r := by
  rw [layW_eq]
  by_cases h0 : 0 ≤ x
  · by_cases h1 : x < (k : Int)
    · rw [decide_eq_true (p := _ ∧ _) ⟨h0, h1⟩]
      go_enter Try.func38, Try.ntmps38
      go_wp2
      go_ret
      simp
    · rw [decide_eq_false (p := _ ∧ _) (fun c => h1 c.2)]
      go_enter Try.func38, Try.ntmps38
      go_wp2
      go_ret
      simp
  · rw [decide_eq_false (p := _ ∧ _) (fun c => h0 c.1)]
    go_enter Try.func38, Try.ntmps38
    go_wp2
    go_ret
    simp

theorem deque_is {v a r x : Nat} (k : Nat) (hv : v ≤ 4096) (ha : a ≤ 32768) (hr : r ≤ 4096) (hx : x ≤ 64) (w : World) :
    Calls Try.prog 39 #[layW v a k r, .int .i64 (x : Int)] w fun e w' => e = .returned (.int .i64 (deqV v a r x)) ∧ w' = boxed w v a k r := by
  rw [layW_eq]
  have hm := deq_max hr hx
  go_enter Try.func39, Try.ntmps39
  go_wp2
  go_ret
  exact ⟨rfl, rfl⟩

theorem top_is {v a k r x : Nat} (hv : v ≤ 4096) (ha : a ≤ 32768) (hr : r ≤ 4096) (hk : k ≤ 64) (hx : x < k) (w : World) :
    Calls Try.prog 23 #[layW v a k r, .int .i64 (x : Int)] w fun e w' => e = .returned (.int .i64 (deqV v a r x)) ∧ Below w.heap.size w w' := by
  have hd : (0 : Int) ≤ (x : Int) ∧ (x : Int) < (k : Int) := by omega
  rw [layW_eq]
  go_enter Try.func23, Try.ntmps23
  go_wp2_with (first | (go_at_call 38; refine (hasw_is v a k r _ _).mono ?_; rintro e w' ⟨rfl, hw'⟩; rw [hw', decide_eq_true hd]; clear hw' w') | (go_at_call 39; refine (deque_is k hv ha hr (by omega) _).mono ?_; rintro e w' ⟨rfl, hw'⟩; rw [hw']; clear hw' w'))
  go_ret
  exact ⟨rfl, boxed_below (boxed_below (boxed_below (Below.refl _ w) (Nat.le_refl _) v a k r) (by simp) v a k r) (by simp; omega) v a k r⟩
theorem bottom_is {v a k r x : Nat} (hv : v ≤ 4096) (ha : a ≤ 32768) (hr : r ≤ 4096) (hk : k ≤ 64) (hx : x < k) (w : World) :
    Calls Try.prog 25 #[layW v a k r, .int .i64 (x : Int)] w fun e w' => e = .returned (.int .i64 (deqV v a r x + 1)) ∧ Below w.heap.size w w' := by
  have hd : (0 : Int) ≤ (x : Int) ∧ (x : Int) < (k : Int) := by omega
  have hm := deq_max (x := x) hr (by omega)
  have hq : 0 ≤ deqV v a r x ∧ deqV v a r x ≤ 307400 := by unfold deqV; omega
  rw [layW_eq]
  go_enter Try.func25, Try.ntmps25
  go_wp2_with (first | (go_at_call 38; refine (hasw_is v a k r _ _).mono ?_; rintro e w' ⟨rfl, hw'⟩; rw [hw', decide_eq_true hd]; clear hw' w') | (go_at_call 39; refine (deque_is k hv ha hr (by omega) _).mono ?_; rintro e w' ⟨rfl, hw'⟩; rw [hw']; clear hw' w'))
  go_ret
  exact ⟨rfl, boxed_below (boxed_below (boxed_below (Below.refl _ w) (Nat.le_refl _) v a k r) (by simp) v a k r) (by simp; omega) v a k r⟩

theorem wrap_small {x : Int} (h0 : 0 ≤ x) (h1 : x ≤ 9000000000) : IntKind.i64.wrap x = x := by
  rw [IntWalk.i64_left]
  exact IntWalk.wrap64_in x (by omega)
theorem box_keep {w1 W : World} {g v a k r : Nat} (h : Blk w1 g 43 (layA v a k r)) (hb : Below w1.heap.size w1 W) : Below w1.heap.size w1 W ∧ W.cell? ⟨g, 0, none⟩ = some (.int .i64 (v : Int)) ∧ W.cell? ⟨g, 1, none⟩ = some (.int .i64 (a : Int)) ∧ W.cell? ⟨g, 2, none⟩ = some (.int .i64 (k : Int)) ∧ W.cell? ⟨g, 3, none⟩ = some (.int .i64 (r : Int)) ∧ W.cell? ⟨g, 4, none⟩ = some (.int .i64 0) ∧ W.cell? ⟨g, 5, none⟩ = some (.int .i64 (a : Int)) ∧ W.cell? ⟨g, 6, none⟩ = some (.int .i64 ((a : Int) + v)) ∧ W.cell? ⟨g, 7, none⟩ = some (.int .i64 ((a : Int) + v + v)) ∧ W.cell? ⟨g, 8, none⟩ = some (.int .i64 ((a : Int) + v + v + v)) ∧ W.cell? ⟨g, 9, none⟩ = some (.int .i64 ((a : Int) + v + v + v + 1)) ∧ W.cell? ⟨g, 10, none⟩ = some (.int .i64 ((a : Int) + v + v + v + 1 + 1)) ∧ W.cell? ⟨g, 11, none⟩ = some (.int .i64 ((a : Int) + v + v + v + 1 + 1 + 1)) ∧ W.cell? ⟨g, 12, none⟩ = some (.int .i64 ((a : Int) + v + v + v + 1 + 1 + 1 + 1)) ∧ W.cell? ⟨g, 13, none⟩ = some (.int .i64 ((a : Int) + v + v + v + 1 + 1 + 1 + 1 + k * (2 + r))) := by
  have hW := h.below hb h.lt
  exact ⟨hb, (hW.cell 0).trans rfl, (hW.cell 1).trans rfl, (hW.cell 2).trans rfl, (hW.cell 3).trans rfl, (hW.cell 4).trans rfl, (hW.cell 5).trans rfl, (hW.cell 6).trans rfl, (hW.cell 7).trans rfl, (hW.cell 8).trans rfl, (hW.cell 9).trans rfl, (hW.cell 10).trans rfl, (hW.cell 11).trans rfl, (hW.cell 12).trans rfl, (hW.cell 13).trans rfl⟩
theorem slot_is {v a k r x t : Nat} (hv : v ≤ 4096) (ha : a ≤ 32768) (hr : r ≤ 4096) (hr1 : 1 ≤ r) (hk : k ≤ 64) (hx : x < k) (ht : t < 4294967296) (w : World) :
    Calls Try.prog 27 #[layW v a k r, .int .i64 (x : Int), .int .i64 (t : Int)] w fun e w' => e = .returned (.int .i64 (deqV v a r x + 2 + ((t % r : Nat) : Int))) ∧ Below w.heap.size w w' := by
  have hd : (0 : Int) ≤ (x : Int) ∧ (x : Int) < (k : Int) := by omega
  have hm := deq_max (x := x) hr (by omega)
  have hq : 0 ≤ deqV v a r x ∧ deqV v a r x ≤ 307400 := by unfold deqV; omega
  have hn1 : ¬ (r : Int) < 1 := by omega
  have hn2 : ¬ (t : Int) < 0 := by omega
  rw [layW_eq]
  go_enter Try.func27, Try.ntmps27
  go_wp2_with (go_at_call 38; refine (hasw_is v a k r _ _).mono ?_; rintro e w' ⟨rfl, hw'⟩; rw [hw', decide_eq_true hd]; clear hw' w')
  obtain ⟨w1, hw1⟩ : ∃ w1, boxed (w.alloc (.cells (layA v a k r) 43)) v a k r = w1 := ⟨_, rfl⟩
  have K1 : Blk w1 w.heap.size 43 (layA v a k r) := by rw [← hw1]; exact (Blk.new rfl).alloc _
  have B1 : Below w.heap.size w w1 := by rw [← hw1]; exact boxed_below ((Below.refl _ w).alloc (Nat.le_refl _) _) (by simp) v a k r
  simp only [hw1]
  clear hw1
  have HK := Lib.hid K1
  have hr0 : ¬ (r : Int) = 0 := by omega
  have hr9 : ¬ r = 0 := by omega
  have htm : Int.tmod (t : Int) (r : Int) = ((t % r : Nat) : Int) := by rw [Int.ofNat_tmod]
  have hlt : t % r < r := Nat.mod_lt _ (by omega)
  have hte : ((t % r : Nat) : Int) = (t : Int) % (r : Int) := Int.natCast_emod t r
  have hq1 : IntKind.i64.wrap (deqV v a r x + 2) = deqV v a r x + 2 := wrap_small (by omega) (by omega)
  have hq2 : IntKind.i64.wrap (deqV v a r x + 2 + (t : Int) % (r : Int)) = deqV v a r x + 2 + (t : Int) % (r : Int) := wrap_small (by omega) (by omega)
  go_region_held3 (fun W => Below w1.heap.size w1 W ∧ W.cell? ⟨w.heap.size, 0, none⟩ = some (.int .i64 (v : Int)) ∧ W.cell? ⟨w.heap.size, 1, none⟩ = some (.int .i64 (a : Int)) ∧ W.cell? ⟨w.heap.size, 2, none⟩ = some (.int .i64 (k : Int)) ∧ W.cell? ⟨w.heap.size, 3, none⟩ = some (.int .i64 (r : Int)) ∧ W.cell? ⟨w.heap.size, 4, none⟩ = some (.int .i64 0) ∧ W.cell? ⟨w.heap.size, 5, none⟩ = some (.int .i64 (a : Int)) ∧ W.cell? ⟨w.heap.size, 6, none⟩ = some (.int .i64 ((a : Int) + v)) ∧ W.cell? ⟨w.heap.size, 7, none⟩ = some (.int .i64 ((a : Int) + v + v)) ∧ W.cell? ⟨w.heap.size, 8, none⟩ = some (.int .i64 ((a : Int) + v + v + v)) ∧ W.cell? ⟨w.heap.size, 9, none⟩ = some (.int .i64 ((a : Int) + v + v + v + 1)) ∧ W.cell? ⟨w.heap.size, 10, none⟩ = some (.int .i64 ((a : Int) + v + v + v + 1 + 1)) ∧ W.cell? ⟨w.heap.size, 11, none⟩ = some (.int .i64 ((a : Int) + v + v + v + 1 + 1 + 1)) ∧ W.cell? ⟨w.heap.size, 12, none⟩ = some (.int .i64 ((a : Int) + v + v + v + 1 + 1 + 1 + 1)) ∧ W.cell? ⟨w.heap.size, 13, none⟩ = some (.int .i64 ((a : Int) + v + v + v + 1 + 1 + 1 + 1 + k * (2 + r))))
    (first
      | exact box_keep HK.out (Below.refl _ _).drew
      | exact box_keep HK.out ((Below.refl w1.heap.size w1).alloc (Nat.le_refl _) _).drew
      | exact box_keep HK.out (((Below.refl w1.heap.size w1).drew).alloc (by simp) _))
    (first
      | (go_at_call 39; refine (deque_is k hv ha hr (by omega) _).mono ?_; rintro e w' ⟨rfl, hw'⟩; rw [hw']; clear hw' w'))
  go_wp2
  go_ret
  exact ⟨by rw [hte]; rfl, B1.trans ((((Below.refl w1.heap.size w1).alloc (Nat.le_refl _) _).drew).mono B1.size)⟩
end Go.Proofs.Ytpmhajpjjihndaa
