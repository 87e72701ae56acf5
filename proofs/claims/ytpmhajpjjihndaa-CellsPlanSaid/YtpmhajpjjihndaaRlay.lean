/- Layer 10: the document's own layout: May, Plan, Top, Bottom, Slot. -/
import Derived.Test.YtpmhajpjjihndaaSlots
namespace Go.Proofs.Ytpmhajpjjihndaa
open Go.RowKit
set_option maxRecDepth 100000

theorem may_yes {v a k : Int} (h0 : 0 ≤ v) (h1 : v ≤ 4096) (h2 : 0 ≤ a) (h3 : a ≤ 32768) (h4 : 1 ≤ k) (h5 : k ≤ 64) (w : World) :
    Calls Try.prog 21 #[.int .i64 v, .int .i64 a, .int .i64 k] w fun e w' => e = .returned (.bool true) ∧ w' = w := by
  go_enter Try.func21, Try.ntmps21
  go_wp2
  go_ret
  simp
theorem may_no {v a k : Int} (h : ¬ ((0 ≤ v ∧ v ≤ 4096) ∧ (0 ≤ a ∧ a ≤ 32768) ∧ (1 ≤ k ∧ k ≤ 64))) (w : World) :
    Calls Try.prog 21 #[.int .i64 v, .int .i64 a, .int .i64 k] w fun e w' => e = .returned (.bool false) ∧ w' = w := by
  by_cases h0 : 0 ≤ v
  · by_cases h1 : v ≤ 4096
    · by_cases h2 : 0 ≤ a
      · by_cases h3 : a ≤ 32768
        · by_cases h4 : 1 ≤ k
          · have h5 : ¬ k ≤ 64 := fun c => h ⟨⟨h0, h1⟩, ⟨h2, h3⟩, h4, c⟩
            clear h
            go_enter Try.func21, Try.ntmps21
            go_wp2
            go_ret
            simp
          · clear h
            go_enter Try.func21, Try.ntmps21
            go_wp2
            go_ret
            simp
        · clear h
          go_enter Try.func21, Try.ntmps21
          go_wp2
          go_ret
          simp
      · clear h
        go_enter Try.func21, Try.ntmps21
        go_wp2
        go_ret
        simp
    · clear h
      go_enter Try.func21, Try.ntmps21
      go_wp2
      go_ret
      simp
  · clear h
    go_enter Try.func21, Try.ntmps21
    go_wp2
    go_ret
    simp

theorem ref_eq (v a k r : Nat) : (#[.int .i64 (v : Int), .int .i64 (a : Int), .int .i64 (k : Int), .int .i64 (r : Int), .int .i64 0, .int .i64 (a : Int), .int .i64 ((a : Int) + v), .int .i64 ((a : Int) + 2 * v), .int .i64 ((a : Int) + 3 * v), .int .i64 ((a : Int) + 3 * v + 1), .int .i64 ((a : Int) + 3 * v + 2), .int .i64 ((a : Int) + 3 * v + 3), .int .i64 ((a : Int) + 3 * v + 4), .int .i64 ((a : Int) + 3 * v + 4 + k * (r + 2))] : Array Value) = layA v a k r := by
  have e1 : (a : Int) + 2 * v = a + v + v := by omega
  have e2 : (a : Int) + 3 * v = a + v + v + v := by omega
  have e3 : (a : Int) + 3 * v + 1 = a + v + v + v + 1 := by omega
  have e4 : (a : Int) + 3 * v + 2 = a + v + v + v + 1 + 1 := by omega
  have e5 : (a : Int) + 3 * v + 3 = a + v + v + v + 1 + 1 + 1 := by omega
  have e6 : (a : Int) + 3 * v + 4 = a + v + v + v + 1 + 1 + 1 + 1 := by omega
  rw [e1, e3, e4, e5, e6, e2, Int.add_comm (r : Int) 2]

set_option maxHeartbeats 4000000 in
theorem refplan_is {v a k : Nat} (hv : v ≤ 4096) (ha : a ≤ 32768) (hk : k ≤ 64) (w : World) :
    Calls Try.prog 22 #[.int .i64 (v : Int), .int .i64 (a : Int), .int .i64 (k : Int)] w fun e w' => ∃ r : Nat, e = .returned (layW v a k r) ∧ IsPow r v ∧ Below w.heap.size w w' := by
  go_enter Try.func22, Try.ntmps22
  go_wp2
  go_loopw [7] (fun i wr => ∃ r : Nat, i = .int .i64 (r : Int) ∧ r ≤ 8192 ∧ Dbl v r ∧ wr = w.alloc (.cells #[.int .i64 0, .int .i64 0, .int .i64 0, .int .i64 0, .int .i64 0, .int .i64 0, .int .i64 0, .int .i64 0, .int .i64 0, .int .i64 0, .int .i64 0, .int .i64 0, .int .i64 0, .int .i64 0] 43)) (fun i _ => v - (intOf i).toNat)
  case atStart => exact ⟨1, rfl, by omega, Dbl.one v, rfl⟩
  case round =>
    obtain ⟨r, rfl, hr, hd, rfl⟩ := hrel
    by_cases hlt : r < v
    · go_wp2
      go_roundw
      case rel => exact ⟨2 * r, by go_num, by omega, hd.next hlt, by first | rfl | trivial⟩
      case measure => have := hd.pos; simp [intOf]; omega
    · have hp := hd.stop hlt
      have hrm := hp.max hv
      have hm : (0 : Int) ≤ (k : Int) * ((r : Int) + 2) ∧ (k : Int) * ((r : Int) + 2) ≤ 262272 := by
        have := deq_max (x := k) hrm hk
        rwa [Int.add_comm 2 (r : Int)] at this
      have HP := Lib.hid hp
      clear hp hd
      go_wp2
      refine bodyPost_ret (v := layW v a k r) (by rw [layW_eq, ← ref_eq]; simp [results, Try.results22, go_sem]) rfl ?_
      exact ⟨r, rfl, HP.out, ((Below.refl _ w).alloc (Nat.le_refl _) _).alloc (by simp) _⟩

theorem reftop_is {v a r x : Nat} (k : Nat) (hv : v ≤ 4096) (ha : a ≤ 32768) (hr : r ≤ 4096) (hx : x ≤ 64) (w : World) :
    Calls Try.prog 24 #[layW v a k r, .int .i64 (x : Int)] w fun e w' => e = .returned (.int .i64 (deqV v a r x)) ∧ w' = boxed w v a k r := by
  rw [layW_eq]
  have hm : (0 : Int) ≤ (x : Int) * ((r : Int) + 2) ∧ (x : Int) * ((r : Int) + 2) ≤ 262272 := by
    have := deq_max (x := x) hr hx
    rwa [Int.add_comm 2 (r : Int)] at this
  go_enter Try.func24, Try.ntmps24
  go_wp2
  go_ret
  exact ⟨by unfold deqV; rw [Int.add_comm 2 (r : Int)]; rfl, rfl⟩
theorem refbottom_is {v a r x : Nat} (k : Nat) (hv : v ≤ 4096) (ha : a ≤ 32768) (hr : r ≤ 4096) (hx : x ≤ 64) (w : World) :
    Calls Try.prog 26 #[layW v a k r, .int .i64 (x : Int)] w fun e w' => e = .returned (.int .i64 (deqV v a r x + 1)) ∧ Below w.heap.size w w' := by
  have hm := deq_max (x := x) hr hx
  have hq : 0 ≤ deqV v a r x ∧ deqV v a r x ≤ 307400 := by unfold deqV; omega
  rw [layW_eq]
  go_enter Try.func26, Try.ntmps26
  go_wp2_with (go_at_call 24; refine (reftop_is k hv ha hr (by omega) _).mono ?_; rintro e w' ⟨rfl, hw'⟩; rw [hw']; clear hw' w')
  go_ret
  exact ⟨rfl, boxed_below (boxed_below (Below.refl _ w) (Nat.le_refl _) v a k r) (by simp) v a k r⟩
theorem refslot_is {v a k r x t : Nat} (hv : v ≤ 4096) (ha : a ≤ 32768) (hr : r ≤ 4096) (hr1 : 1 ≤ r) (hk : k ≤ 64) (hx : x < k) (ht : t < 4294967296) (w : World) :
    Calls Try.prog 28 #[layW v a k r, .int .i64 (x : Int), .int .i64 (t : Int)] w fun e w' => e = .returned (.int .i64 (deqV v a r x + 2 + ((t % r : Nat) : Int))) ∧ Below w.heap.size w w' := by
  have hm := deq_max (x := x) hr (by omega)
  have hq : 0 ≤ deqV v a r x ∧ deqV v a r x ≤ 307400 := by unfold deqV; omega
  have hn1 : ¬ (r : Int) < 1 := by omega
  have hn2 : ¬ (t : Int) < 0 := by omega
  rw [layW_eq]
  go_enter Try.func28, Try.ntmps28
  go_wp2_with fail
  obtain ⟨w1, hw1⟩ : ∃ w1, w.alloc (.cells (layA v a k r) 43) = w1 := ⟨_, rfl⟩
  have K1 : Blk w1 w.heap.size 43 (layA v a k r) := by rw [← hw1]; exact Blk.new rfl
  have B1 : Below w.heap.size w w1 := by rw [← hw1]; exact (Below.refl _ w).alloc (Nat.le_refl _) _
  simp only [hw1]
  clear hw1
  have HK := Lib.hid K1
  have hr0 : ¬ (r : Int) = 0 := by omega
  have hr9 : ¬ r = 0 := by omega
  have htm : Int.tmod (t : Int) (r : Int) = ((t % r : Nat) : Int) := by rw [Int.ofNat_tmod]
  have hlt : t % r < r := Nat.mod_lt _ (by omega)
  have hte : ((t % r : Nat) : Int) = (t : Int) % (r : Int) := Int.natCast_emod t r
  have hq1 : IntKind.i64.wrap (deqV v a r x + 2) = deqV v a r x + 2 := wrap_small (by omega) (by omega)
  have hq2 : IntKind.i64.wrap (deqV v a r x + 2 + (t : Int) % (r : Int)) = deqV v a r x + 2 + (t : Int) % (r : Int) := wrap_small (by omega) (by omega)
  go_region_held3 (fun W => Below w1.heap.size w1 W ∧ W.cell? ⟨w.heap.size, 0, none⟩ = some (.int .i64 (v : Int)) ∧ W.cell? ⟨w.heap.size, 1, none⟩ = some (.int .i64 (a : Int)) ∧ W.cell? ⟨w.heap.size, 2, none⟩ = some (.int .i64 (k : Int)) ∧ W.cell? ⟨w.heap.size, 3, none⟩ = some (.int .i64 (r : Int)) ∧ W.cell? ⟨w.heap.size, 4, none⟩ = some (.int .i64 0) ∧ W.cell? ⟨w.heap.size, 5, none⟩ = some (.int .i64 (a : Int)) ∧ W.cell? ⟨w.heap.size, 6, none⟩ = some (.int .i64 ((a : Int) + v)) ∧ W.cell? ⟨w.heap.size, 7, none⟩ = some (.int .i64 ((a : Int) + v + v)) ∧ W.cell? ⟨w.heap.size, 8, none⟩ = some (.int .i64 ((a : Int) + v + v + v)) ∧ W.cell? ⟨w.heap.size, 9, none⟩ = some (.int .i64 ((a : Int) + v + v + v + 1)) ∧ W.cell? ⟨w.heap.size, 10, none⟩ = some (.int .i64 ((a : Int) + v + v + v + 1 + 1)) ∧ W.cell? ⟨w.heap.size, 11, none⟩ = some (.int .i64 ((a : Int) + v + v + v + 1 + 1 + 1)) ∧ W.cell? ⟨w.heap.size, 12, none⟩ = some (.int .i64 ((a : Int) + v + v + v + 1 + 1 + 1 + 1)) ∧ W.cell? ⟨w.heap.size, 13, none⟩ = some (.int .i64 ((a : Int) + v + v + v + 1 + 1 + 1 + 1 + k * (2 + r))))
    (first
      | exact box_keep HK.out (Below.refl _ _).drew
      | exact box_keep HK.out ((Below.refl w1.heap.size w1).alloc (Nat.le_refl _) _).drew
      | exact box_keep HK.out (((Below.refl w1.heap.size w1).drew).alloc (by simp) _))
    (first
      | (go_at_call 24; refine (reftop_is k hv ha hr (by omega) _).mono ?_; rintro e w' ⟨rfl, hw'⟩; rw [hw']; clear hw' w'))
  go_wp2
  go_ret
  exact ⟨by rw [hte]; rfl, B1.trans ((((Below.refl w1.heap.size w1).alloc (Nat.le_refl _) _).drew).mono B1.size)⟩
end Go.Proofs.Ytpmhajpjjihndaa
