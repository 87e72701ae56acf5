/- CellsPlan, its walk: a plan, and where a worker's things are, is as the document defines. -/
import Derived.Test.YtpmhajpjjihndaaAwa10
import Derived.Test.YtpmhajpjjihndaaRlay
import Derived.Deep.RegionHeld3
import Derived.Deep.CutBlock
import Derived.Deep.DeepCutAuto
namespace Go.Proofs.Ytpmhajpjjihndaa
open Go.RowKit
set_option maxRecDepth 100000

abbrev zeroA : Array Value := #[.int .i64 0, .int .i64 0, .int .i64 0, .int .i64 0, .int .i64 0, .int .i64 0, .int .i64 0, .int .i64 0, .int .i64 0, .int .i64 0, .int .i64 0, .int .i64 0, .int .i64 0, .int .i64 0]
theorem layZ_eq : layZ = .agg zeroA := rfl
theorem fro14 {W : World} {g : Nat} {cs : Array Value} {t : TypeId} (h : Blk W g t cs) : W.frozen? ⟨g, 0, none⟩ = false ∧ W.frozen? ⟨g, 1, none⟩ = false ∧ W.frozen? ⟨g, 2, none⟩ = false ∧ W.frozen? ⟨g, 3, none⟩ = false ∧ W.frozen? ⟨g, 4, none⟩ = false ∧ W.frozen? ⟨g, 5, none⟩ = false ∧ W.frozen? ⟨g, 6, none⟩ = false ∧ W.frozen? ⟨g, 7, none⟩ = false ∧ W.frozen? ⟨g, 8, none⟩ = false ∧ W.frozen? ⟨g, 9, none⟩ = false ∧ W.frozen? ⟨g, 10, none⟩ = false ∧ W.frozen? ⟨g, 11, none⟩ = false ∧ W.frozen? ⟨g, 12, none⟩ = false ∧ W.frozen? ⟨g, 13, none⟩ = false := ⟨h.frozen 0, h.frozen 1, h.frozen 2, h.frozen 3, h.frozen 4, h.frozen 5, h.frozen 6, h.frozen 7, h.frozen 8, h.frozen 9, h.frozen 10, h.frozen 11, h.frozen 12, h.frozen 13⟩

theorem bstep {w W w1 : World} (h : Below w.heap.size w W) (hb : Below W.heap.size W w1) : Below w.heap.size w w1 := h.trans (hb.mono h.size)
theorem two_keep {w1 W : World} {p q v a k r : Nat} (hp : Blk w1 p 43 (layA v a k r)) (hq : Blk w1 q 43 (layA v a k r)) (hb : Below w1.heap.size w1 W) : Below w1.heap.size w1 W ∧ (W.cell? ⟨p, 0, none⟩ = some (.int .i64 (v : Int)) ∧ W.cell? ⟨p, 1, none⟩ = some (.int .i64 (a : Int)) ∧ W.cell? ⟨p, 2, none⟩ = some (.int .i64 (k : Int)) ∧ W.cell? ⟨p, 3, none⟩ = some (.int .i64 (r : Int)) ∧ W.cell? ⟨p, 4, none⟩ = some (.int .i64 0) ∧ W.cell? ⟨p, 5, none⟩ = some (.int .i64 (a : Int)) ∧ W.cell? ⟨p, 6, none⟩ = some (.int .i64 ((a : Int) + v)) ∧ W.cell? ⟨p, 7, none⟩ = some (.int .i64 ((a : Int) + v + v)) ∧ W.cell? ⟨p, 8, none⟩ = some (.int .i64 ((a : Int) + v + v + v)) ∧ W.cell? ⟨p, 9, none⟩ = some (.int .i64 ((a : Int) + v + v + v + 1)) ∧ W.cell? ⟨p, 10, none⟩ = some (.int .i64 ((a : Int) + v + v + v + 1 + 1)) ∧ W.cell? ⟨p, 11, none⟩ = some (.int .i64 ((a : Int) + v + v + v + 1 + 1 + 1)) ∧ W.cell? ⟨p, 12, none⟩ = some (.int .i64 ((a : Int) + v + v + v + 1 + 1 + 1 + 1)) ∧ W.cell? ⟨p, 13, none⟩ = some (.int .i64 ((a : Int) + v + v + v + 1 + 1 + 1 + 1 + k * (2 + r)))) ∧ (W.cell? ⟨q, 0, none⟩ = some (.int .i64 (v : Int)) ∧ W.cell? ⟨q, 1, none⟩ = some (.int .i64 (a : Int)) ∧ W.cell? ⟨q, 2, none⟩ = some (.int .i64 (k : Int)) ∧ W.cell? ⟨q, 3, none⟩ = some (.int .i64 (r : Int)) ∧ W.cell? ⟨q, 4, none⟩ = some (.int .i64 0) ∧ W.cell? ⟨q, 5, none⟩ = some (.int .i64 (a : Int)) ∧ W.cell? ⟨q, 6, none⟩ = some (.int .i64 ((a : Int) + v)) ∧ W.cell? ⟨q, 7, none⟩ = some (.int .i64 ((a : Int) + v + v)) ∧ W.cell? ⟨q, 8, none⟩ = some (.int .i64 ((a : Int) + v + v + v)) ∧ W.cell? ⟨q, 9, none⟩ = some (.int .i64 ((a : Int) + v + v + v + 1)) ∧ W.cell? ⟨q, 10, none⟩ = some (.int .i64 ((a : Int) + v + v + v + 1 + 1)) ∧ W.cell? ⟨q, 11, none⟩ = some (.int .i64 ((a : Int) + v + v + v + 1 + 1 + 1)) ∧ W.cell? ⟨q, 12, none⟩ = some (.int .i64 ((a : Int) + v + v + v + 1 + 1 + 1 + 1)) ∧ W.cell? ⟨q, 13, none⟩ = some (.int .i64 ((a : Int) + v + v + v + 1 + 1 + 1 + 1 + k * (2 + r)))) :=
  ⟨hb, (box_keep hp hb).2, (box_keep hq hb).2⟩
theorem reftop_b {v a r x : Nat} (k : Nat) (hv : v ≤ 4096) (ha : a ≤ 32768) (hr : r ≤ 4096) (hx : x ≤ 64) (w : World) :
    Calls Try.prog 24 #[layW v a k r, .int .i64 (x : Int)] w fun e w' => e = .returned (.int .i64 (deqV v a r x)) ∧ Below w.heap.size w w' :=
  (reftop_is k hv ha hr hx w).mono fun _ _ ⟨h1, h2⟩ => ⟨h1, by rw [h2]; exact (Below.refl _ w).alloc (Nat.le_refl _) _⟩

set_option maxHeartbeats 8000000 in
theorem Blk.put14 {w : World} {g : Nat} {t : TypeId} {u0 u1 u2 u3 u4 u5 u6 u7 u8 u9 u10 u11 u12 u13 : Value} (h : Blk w g t #[u0, u1, u2, u3, u4, u5, u6, u7, u8, u9, u10, u11, u12, u13]) (v0 v1 v2 v3 v4 v5 v6 v7 v8 v9 v10 v11 v12 v13 : Value) : Blk ((((((((((((((w.setCell ⟨g, 0, none⟩ v0).setCell ⟨g, 1, none⟩ v1).setCell ⟨g, 2, none⟩ v2).setCell ⟨g, 3, none⟩ v3).setCell ⟨g, 4, none⟩ v4).setCell ⟨g, 5, none⟩ v5).setCell ⟨g, 6, none⟩ v6).setCell ⟨g, 7, none⟩ v7).setCell ⟨g, 8, none⟩ v8).setCell ⟨g, 9, none⟩ v9).setCell ⟨g, 10, none⟩ v10).setCell ⟨g, 11, none⟩ v11).setCell ⟨g, 12, none⟩ v12).setCell ⟨g, 13, none⟩ v13) g t #[v0, v1, v2, v3, v4, v5, v6, v7, v8, v9, v10, v11, v12, v13] := by
  have := ((((((((((((((h.set 0 v0).set 1 v1).set 2 v2).set 3 v3).set 4 v4).set 5 v5).set 6 v6).set 7 v7).set 8 v8).set 9 v9).set 10 v10).set 11 v11).set 12 v12).set 13 v13)
  simpa using this

set_option maxHeartbeats 8000000 in
theorem cplan_walk (v a k : Int) (t n : Nat) (w : World) (ht : t ≤ 255) (hn : n ≤ 4294967295) :
    Calls Try.prog 4 #[.int .i64 v, .int .i64 a, .int .i64 k, .int .u8 (t : Int), .int .u32 (n : Int)] w fun e w' => e = .returned (.bool true) ∧ Below w.heap.size w w' := by
  have q1 := @lay_eql
  by_cases hok : (0 ≤ v ∧ v ≤ 4096) ∧ (0 ≤ a ∧ a ≤ 32768) ∧ (1 ≤ k ∧ k ≤ 64)
  · obtain ⟨⟨v0, v1⟩, ⟨a0, a1⟩, k0, k1⟩ := hok
    obtain ⟨v, rfl⟩ := Int.eq_ofNat_of_zero_le v0
    obtain ⟨a, rfl⟩ := Int.eq_ofNat_of_zero_le a0
    obtain ⟨k, rfl⟩ := Int.eq_ofNat_of_zero_le (show 0 ≤ k by omega)
    have hv : v ≤ 4096 := by omega
    have ha : a ≤ 32768 := by omega
    have hk1 : 1 ≤ k := by omega
    have hk : k ≤ 64 := by omega
    go_enter Try.func4, Try.ntmps4
    go_wp2_with fail
    refine (plan_good hv ha hk1 hk w).mono ?_
    rintro e w1 ⟨r, rfl, hr, B1⟩
    rw [layW_eq]
    go_wp2_with (go_at_call 21; refine (may_yes v0 v1 a0 a1 k0 k1 _).mono ?_; rintro e w9 ⟨rfl, hw9⟩; rw [hw9]; clear hw9 w9)
    obtain ⟨w2, hw2⟩ : ∃ w2, w1.alloc (.cells (layA v a k r) 43) = w2 := ⟨_, rfl⟩
    have K2 : Blk w2 w1.heap.size 43 (layA v a k r) := by rw [← hw2]; exact Blk.new rfl
    have B2 : Below w.heap.size w w2 := by rw [← hw2]; exact B1.alloc B1.size _
    simp only [hw2]
    clear hw2 B1
    generalize w1.heap.size = p at K2
    obtain ⟨x, hx⟩ : ∃ x, t % k = x := ⟨_, rfl⟩
    have hxk : x < k := by rw [← hx]; exact Nat.mod_lt _ (by omega)
    have hxe : (t : Int) % (k : Int) = (x : Int) := by rw [← hx, Int.natCast_emod]
    have hxt : Int.tmod (t : Int) (k : Int) = (x : Int) := (Int.tmod_eq_emod_of_nonneg (by omega)).trans hxe
    have hxw : Int.tmod (IntKind.i64.wrap (t : Int)) (k : Int) = (x : Int) := by rw [wrap_small (by omega) (by omega)]; exact hxt
    have hkz : ¬ k = 0 := by omega
    have hkz' : ¬ (k : Int) = 0 := by omega
    go_cut [13, 14] (fun s13 s14 wx => s13 = .int .i64 (x : Int) ∧ ∃ q, s14 = .pointer (some ⟨q, 0, none⟩) ∧ Blk wx q 43 (layA v a k r) ∧ Below w2.heap.size w2 wx)
    case first =>
      clear hx q1
      go_region_held3 (fun W => Below w2.heap.size w2 W)
        (first
          | (with_reducible exact hS4)
          | (repeat (first
              | (with_reducible exact hS4)
              | (with_reducible exact Below.refl _ _)
              | (with_reducible refine Below.drew ?_)
              | (with_reducible refine Below.setCell ?_ (by first | exact Nat.le_refl _ | exact hS4.size | (have := hS4.size; simp; try omega) | (simp; try omega)) _)
              | (with_reducible refine Below.alloc ?_ (by first | exact Nat.le_refl _ | exact hS4.size | (have := hS4.size; simp; try omega) | (simp; try omega)) _))))
        (first
          | (go_at_call 22; refine (refplan_is hv ha hk _).mono ?_; rintro e w4 ⟨r', rfl, hr', B4⟩; obtain rfl := hr'.unique hr; rw [layW_eq]; have hS4 : Below w2.heap.size w2 w4 := (by first | (with_reducible exact Below.trans ((Below.refl w2.heap.size w2).drew) (B4.mono (by simp))) | (with_reducible exact Below.trans (((Below.refl w2.heap.size w2).alloc (Nat.le_refl _) (.cells zeroA 43)).drew) (B4.mono (by simp))));
              try (have K4 : Blk w4 w2.heap.size 43 zeroA := (by with_reducible exact Blk.below ((Blk.new rfl : Blk (w2.alloc (.cells zeroA 43)) w2.heap.size 43 zeroA).drew) B4 (by simp)); obtain ⟨c0, c1, c2, c3, c4, c5, c6, c7, c8, c9, c10, c11, c12, c13⟩ := box14 K4; obtain ⟨f0, f1, f2, f3, f4, f5, f6, f7, f8, f9, f10, f11, f12, f13⟩ := fro14 K4)))
      · go_wp2_with fail
        go_meet
        exact ⟨rfl, _, rfl, Blk.new rfl, hS4.alloc hS4.size _⟩
      · rename_i hB9
        go_wp2_with fail
        go_meet
        exact ⟨rfl, _, rfl, K4.put14 .., hB9⟩
    case rest =>
      obtain ⟨rfl, q, rfl, Q3, B3⟩ := hcut
      have P3 := K2.below B3 K2.lt
      have hrm := hr.max hv
      have hr1 := hr.pos
      have hx64 : x ≤ 64 := by omega
      have hTop := fun W => top_is (v := v) (a := a) (k := k) (r := r) (x := x) hv ha hrm hk hxk W
      have hTop' := fun W => reftop_b (v := v) (a := a) (r := r) (x := x) k hv ha hrm hx64 W
      have hBot := fun W => bottom_is (v := v) (a := a) (k := k) (r := r) (x := x) hv ha hrm hk hxk W
      have hBot' := fun W => refbottom_is (v := v) (a := a) (r := r) (x := x) k hv ha hrm hx64 W
      have hSlo := fun W => slot_is (v := v) (a := a) (k := k) (r := r) (x := x) (t := n) hv ha hrm hr1 hk hxk (by omega) W
      have hSlo' := fun W => refslot_is (v := v) (a := a) (k := k) (r := r) (x := x) (t := n) hv ha hrm hr1 hk hxk (by omega) W
      rw [layW_eq] at hTop hTop' hBot hBot' hSlo hSlo'
      have H1 := Lib.hid hTop; have H2 := Lib.hid hTop'; have H3 := Lib.hid hBot; have H4 := Lib.hid hBot'; have H5 := Lib.hid hSlo; have H6 := Lib.hid hSlo'
      have HP := Lib.hid P3; have HQ := Lib.hid Q3
      have BW := Lib.hid (bstep B2 B3)
      clear hTop hTop' hBot hBot' hSlo hSlo' P3 Q3 K2 B2 B3 hr hrm hr1 hx hxe hxt hxw
      have hnw : IntKind.i64.wrap (n : Int) = (n : Int) := wrap_small (by omega) (by omega)
      generalize deqV v a r x = dq at H1 H2 H3 H4 H5 H6
      generalize ((n % r : Nat) : Int) = sl at H5 H6
      go_wp2_with fail
      go_region_held3 (fun W => Below wc.heap.size wc W ∧ (W.cell? ⟨p, 0, none⟩ = some (.int .i64 (v : Int)) ∧ W.cell? ⟨p, 1, none⟩ = some (.int .i64 (a : Int)) ∧ W.cell? ⟨p, 2, none⟩ = some (.int .i64 (k : Int)) ∧ W.cell? ⟨p, 3, none⟩ = some (.int .i64 (r : Int)) ∧ W.cell? ⟨p, 4, none⟩ = some (.int .i64 0) ∧ W.cell? ⟨p, 5, none⟩ = some (.int .i64 (a : Int)) ∧ W.cell? ⟨p, 6, none⟩ = some (.int .i64 ((a : Int) + v)) ∧ W.cell? ⟨p, 7, none⟩ = some (.int .i64 ((a : Int) + v + v)) ∧ W.cell? ⟨p, 8, none⟩ = some (.int .i64 ((a : Int) + v + v + v)) ∧ W.cell? ⟨p, 9, none⟩ = some (.int .i64 ((a : Int) + v + v + v + 1)) ∧ W.cell? ⟨p, 10, none⟩ = some (.int .i64 ((a : Int) + v + v + v + 1 + 1)) ∧ W.cell? ⟨p, 11, none⟩ = some (.int .i64 ((a : Int) + v + v + v + 1 + 1 + 1)) ∧ W.cell? ⟨p, 12, none⟩ = some (.int .i64 ((a : Int) + v + v + v + 1 + 1 + 1 + 1)) ∧ W.cell? ⟨p, 13, none⟩ = some (.int .i64 ((a : Int) + v + v + v + 1 + 1 + 1 + 1 + k * (2 + r)))) ∧ (W.cell? ⟨q, 0, none⟩ = some (.int .i64 (v : Int)) ∧ W.cell? ⟨q, 1, none⟩ = some (.int .i64 (a : Int)) ∧ W.cell? ⟨q, 2, none⟩ = some (.int .i64 (k : Int)) ∧ W.cell? ⟨q, 3, none⟩ = some (.int .i64 (r : Int)) ∧ W.cell? ⟨q, 4, none⟩ = some (.int .i64 0) ∧ W.cell? ⟨q, 5, none⟩ = some (.int .i64 (a : Int)) ∧ W.cell? ⟨q, 6, none⟩ = some (.int .i64 ((a : Int) + v)) ∧ W.cell? ⟨q, 7, none⟩ = some (.int .i64 ((a : Int) + v + v)) ∧ W.cell? ⟨q, 8, none⟩ = some (.int .i64 ((a : Int) + v + v + v)) ∧ W.cell? ⟨q, 9, none⟩ = some (.int .i64 ((a : Int) + v + v + v + 1)) ∧ W.cell? ⟨q, 10, none⟩ = some (.int .i64 ((a : Int) + v + v + v + 1 + 1)) ∧ W.cell? ⟨q, 11, none⟩ = some (.int .i64 ((a : Int) + v + v + v + 1 + 1 + 1)) ∧ W.cell? ⟨q, 12, none⟩ = some (.int .i64 ((a : Int) + v + v + v + 1 + 1 + 1 + 1)) ∧ W.cell? ⟨q, 13, none⟩ = some (.int .i64 ((a : Int) + v + v + v + 1 + 1 + 1 + 1 + k * (2 + r)))))
        (first
          | (with_reducible exact two_keep HP.out HQ.out (Below.refl _ _).drew)
          | (go_split_ands
             (with_reducible exact two_keep HP.out HQ.out (by refine bstep ?_ (by assumption); assumption))))
        (first
          | (go_at_call 23; (with_reducible refine (H1.out _).mono ?_); rintro e w5 ⟨rfl, B5⟩)
          | (go_at_call 24; (with_reducible refine (H2.out _).mono ?_); rintro e w5 ⟨rfl, B5⟩)
          | (go_at_call 25; (with_reducible refine (H3.out _).mono ?_); rintro e w5 ⟨rfl, B5⟩)
          | (go_at_call 26; (with_reducible refine (H4.out _).mono ?_); rintro e w5 ⟨rfl, B5⟩)
          | (go_at_call 27; (with_reducible refine (H5.out _).mono ?_); rintro e w5 ⟨rfl, B5⟩)
          | (go_at_call 28; (with_reducible refine (H6.out _).mono ?_); rintro e w5 ⟨rfl, B5⟩)
          | (go_at_call 10; (with_reducible refine (awake10_is _).mono ?_); rintro e w5 ⟨rfl, B5⟩))
      go_split_ands
      have hb : Below wc.heap.size wc w5 := by assumption
      go_wp2_with fail
      go_ret
      exact ⟨rfl, BW.out.trans (hb.mono BW.out.size)⟩
  · go_enter Try.func4, Try.ntmps4
    go_wp2_with fail
    refine (plan_bad hok w).mono ?_
    rintro e w1 ⟨rfl, B1⟩
    rw [layZ_eq]
    go_wp2_with (first
      | (go_at_call 21; refine (may_no hok _).mono ?_; rintro e w9 ⟨rfl, hw9⟩; rw [hw9]; clear hw9 w9)
      | (go_at_call 10; refine (awake10_is _).mono ?_; rintro e w10 ⟨rfl, hB10⟩))
    go_ret
    have B2 := B1.alloc B1.size (.cells zeroA 43)
    exact ⟨rfl, B2.trans (hB10.mono B2.size)⟩
end Go.Proofs.Ytpmhajpjjihndaa
