/- CellsApart, its walk: no two things of a plan share a cell, and all cells up to its size are some thing's; a deque has room for all vertices. -/
import Derived.Test.YtpmhajpjjihndaaAwa10
import Derived.Test.YtpmhajpjjihndaaMet
import Derived.Deep.CutBlock
import Derived.Deep.DeepCutAuto
namespace Go.Proofs.Ytpmhajpjjihndaa
open Go.RowKit Go.Maps
set_option maxRecDepth 100000

/-- The plan in its box; the cells that were met. -/
structure Apa (w0 W : World) (q b v a k r n : Nat) (p : Int → Bool) : Prop where
  box : Blk W q 43 (layA v a k r)
  met : Met W b n p
  bel : Below w0.heap.size w0 W
section
variable {w0 W W' : World} {q b v a k r n : Nat} {p : Int → Bool}
theorem Apa.on (h : Apa w0 W q b v a k r n p) (hB : Below W.heap.size W W') : Apa w0 W' q b v a k r n p := ⟨h.box.below hB h.box.lt, h.met.on hB, h.bel.trans (hB.mono h.bel.size)⟩
theorem Apa.put (h : Apa w0 W q b v a k r n p) (hb : w0.heap.size ≤ b) {p' : Int → Bool} (hM : Hid (Met W' b (n + 1) p')) (hg : W.grownBy W' (some b)) : Apa w0 W' q b v a k r (n + 1) p' :=
  ⟨h.box.grown hg (fun e => by injection e with e; exact h.met.ne h.box e.symm), hM.out, h.bel.grown hg h.bel.size (fun j hj => by injection hj with hj; omega)⟩
theorem Apa.as (h : Apa w0 W q b v a k r n p) {n' : Nat} (hn : n' = n) {p' : Int → Bool} (e : ∀ x, p' x = p x) : Apa w0 W q b v a k r n' p' := by
  subst hn
  exact ⟨h.box, h.met.as fun x _ => e x, h.bel⟩
end
/-- The cells of i vertices: of their excesses, heights, flags. -/
def vertTo (a v i : Nat) (x : Int) : Bool := upTo (a + i) x || decide ((a : Int) + v ≤ x ∧ x < (a : Int) + v + i) || decide ((a : Int) + v + v ≤ x ∧ x < (a : Int) + v + v + i)

theorem vert_zero (a v : Nat) (x : Int) : vertTo a v 0 x = upTo a x := by
  rw [Bool.eq_iff_iff]
  simp [vertTo, upTo]
  omega
theorem vert_end (a v : Nat) (x : Int) : upTo (a + 3 * v) x = vertTo a v v x := by
  rw [Bool.eq_iff_iff]
  simp [vertTo, upTo]
  omega
theorem vert_one {a v i : Nat} (h : i < v) : vertTo a v i ((a : Int) + i) = false := by
  rw [Bool.eq_false_iff]
  simp [vertTo, upTo]
  omega
theorem vert_two {a v i : Nat} (h : i < v) : (vertTo a v i ((a : Int) + v + i) || decide ((a : Int) + v + i = (a : Int) + i)) = false := by
  rw [Bool.eq_false_iff]
  simp [vertTo, upTo]
  omega
theorem vert_three {a v i : Nat} (h : i < v) : ((vertTo a v i ((a : Int) + v + v + i) || decide ((a : Int) + v + v + i = (a : Int) + i)) || decide ((a : Int) + v + v + i = (a : Int) + v + i)) = false := by
  rw [Bool.eq_false_iff]
  simp [vertTo, upTo]
  omega
theorem vert_next {a v i : Nat} (h : i < v) (x : Int) : vertTo a v (i + 1) x = (((vertTo a v i x || decide (x = (a : Int) + i)) || decide (x = (a : Int) + v + i)) || decide (x = (a : Int) + v + v + i)) := by
  rw [Bool.eq_iff_iff]
  simp [vertTo, upTo]
  omega

theorem up_new {T : Nat} {y : Int} (h : y = (T : Int)) : upTo T y = false := by rw [h]; exact upTo_new T
theorem up_next {T : Nat} {y : Int} (h : y = (T : Int)) (x : Int) : upTo (T + 1) x = (upTo T x || decide (x = y)) := by rw [h]; exact upTo_next T x
abbrev fourA (a v : Nat) : Array Value := #[.int .i64 ((a : Int) + v + v + v), .int .i64 ((a : Int) + v + v + v + 1), .int .i64 ((a : Int) + v + v + v + 1 + 1), .int .i64 ((a : Int) + v + v + v + 1 + 1 + 1)]
theorem four_at {w : World} {s a v j : Nat} (h : Blk w s 3 (fourA a v)) (hj : j < 4) : w.cell? ⟨s, j, none⟩ = some (.int .i64 ((a : Int) + 3 * v + j)) := by
  match j, hj with
  | 0, _ => rw [h.cell 0]; simp; omega
  | 1, _ => rw [h.cell 1]; simp; omega
  | 2, _ => rw [h.cell 2]; simp; omega
  | 3, _ => rw [h.cell 3]; simp; omega

/-- Where a worker's deque begins. -/
def pos (a v r x : Nat) : Nat := a + 3 * v + 4 + x * (2 + r)
theorem pos_deq (a v r x : Nat) : deqV v a r x = (pos a v r x : Int) := by
  unfold deqV pos
  have e : ((x * (2 + r) : Nat) : Int) = (x : Int) * (2 + (r : Int)) := by rw [Int.natCast_mul, Int.natCast_add]; rfl
  rw [← e]
  generalize x * (2 + r) = z
  omega
theorem pos_next (a v r x : Nat) : pos a v r (x + 1) = pos a v r x + 1 + 1 + r := by
  unfold pos
  have e : (x + 1) * (2 + r) = x * (2 + r) + (2 + r) := Nat.succ_mul _ _
  rw [e]
  generalize x * (2 + r) = z
  omega
theorem pos_max {a v r x : Nat} (ha : a ≤ 90) (hv : v ≤ 40) (hr : r ≤ 4096) (hx : x ≤ 64) : pos a v r x ≤ 300000 := by
  have := deq_max (x := x) hr hx
  have e := pos_deq a v r x
  unfold deqV at e
  omega

set_option maxHeartbeats 16000000 in
theorem capart_walk (t0 t1 t2 : Nat) (w : World) (h0 : t0 ≤ 255) (h1 : t1 ≤ 255) (h2 : t2 ≤ 255) :
    Calls Try.prog 5 #[.int .u8 (t0 : Int), .int .u8 (t1 : Int), .int .u8 (t2 : Int)] w fun e w' => e = .returned (.bool true) ∧ Below w.heap.size w w' := by
  obtain ⟨v, hve⟩ : ∃ v : Nat, (t0 : Int) % 41 = (v : Int) := ⟨t0 % 41, by omega⟩
  obtain ⟨a, hae⟩ : ∃ a : Nat, (t1 : Int) % 91 = (a : Int) := ⟨t1 % 91, by omega⟩
  obtain ⟨k, hke⟩ : ∃ k : Nat, 1 + (t2 : Int) % 9 = (k : Int) := ⟨1 + t2 % 9, by omega⟩
  have hv : v ≤ 40 := by omega
  have ha : a ≤ 90 := by omega
  have hk1 : 1 ≤ k := by omega
  have hk : k ≤ 9 := by omega
  have hmm := @run_makeMap Try.prog
  go_enter Try.func5, Try.ntmps5
  go_wp2_with fail
  refine (plan_good (v := v) (a := a) (k := k) (by omega) (by omega) hk1 (by omega) w).mono ?_
  rintro e w1 ⟨r, rfl, hr, B1⟩
  rw [layW_eq]
  have hrv := hr.ge
  have hr1 := hr.pos
  have hrm := hr.max (by omega)
  have hs0 := deq_max (x := k) hrm (by omega)
  have c1 : ¬ (r : Int) < (v : Int) := by omega
  have c2 : ¬ (r : Int) < 1 := by omega
  have d1 : decide ((r : Int) < (v : Int)) = false := decide_eq_false c1
  have d1' : decide (r < v) = false := decide_eq_false (by omega)
  have d2 : decide ((r : Int) < 1) = false := decide_eq_false c2
  have d2' : decide (r < 1) = false := decide_eq_false (by omega)
  have d2'' : decide (r = 0) = false := decide_eq_false (by omega)
  have c3 : ¬ (524288 : Int) < (a : Int) + v + v + v + 1 + 1 + 1 + 1 + k * (2 + r) := by omega
  have d3 : decide ((524288 : Int) < (a : Int) + v + v + v + 1 + 1 + 1 + 1 + k * (2 + r)) = false := decide_eq_false c3
  clear c1 c2 c3
  go_wp2_with fail
  obtain ⟨w2, hw2⟩ : ∃ w2, (w1.alloc (.cells (layA v a k r) 43)).alloc (.map #[] 0) = w2 := ⟨_, rfl⟩
  have A2 : Apa w w2 w1.heap.size (w1.heap.size + 1) v a k r 0 (upTo 0) := by
    rw [← hw2]
    refine ⟨(Blk.new rfl).alloc _, ?_, (B1.alloc B1.size _).alloc (by have := B1.size; simp; omega) _⟩
    have := Met.made (w1.alloc (.cells (layA v a k r) 43))
    simp only [World.size_alloc] at this
    exact this.as fun x _ => decide_eq_false (by omega)
  have hlo : w.heap.size ≤ w1.heap.size + 1 := by have := B1.size; omega
  simp only [hw2]
  clear hw2 B1 hmm hve hae hke
  generalize w1.heap.size + 1 = b at A2 hlo ⊢
  generalize w1.heap.size = q at A2 ⊢
  have HA2 := Lib.hid A2
  clear A2
  go_loopw [13, 59] (fun _ cn wr => ∃ i : Nat, i ≤ a ∧ cn = .int .i64 (i : Int) ∧ Apa w wr q b v a k r i (upTo i)) (fun _ cn _ => a - (intOf cn).toNat)
  case atStart => exact ⟨0, Nat.zero_le _, rfl, HA2.out⟩
  case round =>
    clear HA2
    obtain ⟨i, hi, rfl, hA⟩ := hrel
    by_cases hia : i < a
    · have b4 : wr.cell? ⟨q, 4, none⟩ = some (.int .i64 0) := hA.box.cell 4
      have hlk := hA.met.look (x := (i : Int)) (by unfold InR; omega) (upTo_new i)
      have HA := Lib.hid hA
      clear hA
      go_wp2_with (first
        | (at_mapUpdate; refine wpList_met rfl _ _ _ rfl HA.out.met (i : Int) (by unfold InR; omega) (upTo_new i) (by unfold maxLen; omega) rfl rfl rfl ?_)
        | fail)
      intro w3 hM3 hg3
      clear hlk b4
      go_wp2_with fail
      go_roundw
      case rel => exact ⟨i + 1, hia, by go_num, (HA.out.put hlo hM3 hg3).as rfl (fun x => upTo_next i x)⟩
      case measure => simp [intOf]; omega
    · have hia' : a = i := by omega
      subst hia'
      have HA := Lib.hid hA
      clear hA
      go_wp2_with fail
      go_loopw [14, 71] (fun _ cn wr => ∃ i : Nat, i ≤ v ∧ cn = .int .i64 (i : Int) ∧ Apa w wr q b v a k r (a + 3 * i) (vertTo a v i)) (fun _ cn _ => v - (intOf cn).toNat)
      case atStart => exact ⟨0, Nat.zero_le _, rfl, HA.out.as rfl (fun x => vert_zero a v x)⟩
      case round =>
        clear HA hia hi
        obtain ⟨i, hi, rfl, hA⟩ := hrel
        by_cases hiv : i < v
        · have b5 : wr.cell? ⟨q, 5, none⟩ = some (.int .i64 (a : Int)) := hA.box.cell 5
          have hlk := hA.met.look (x := (a : Int) + i) (by unfold InR; omega) (vert_one hiv)
          have HA := Lib.hid hA
          clear hA
          go_wp2_with (first
            | (at_mapUpdate; refine wpList_met rfl _ _ _ rfl HA.out.met ((a : Int) + i) (by unfold InR; omega) (vert_one hiv) (by unfold maxLen; omega) rfl rfl rfl ?_)
            | fail)
          intro w3 hM3 hg3
          have A3 := HA.out.put hlo hM3 hg3
          clear hlk b5 HA hM3 hg3
          have b6 : w3.cell? ⟨q, 6, none⟩ = some (.int .i64 ((a : Int) + v)) := A3.box.cell 6
          have hlk := A3.met.look (x := (a : Int) + v + i) (by unfold InR; omega) (vert_two hiv)
          have HA3 := Lib.hid A3
          clear A3
          go_wp2_with (first
            | (at_mapUpdate; refine wpList_met rfl _ _ _ rfl HA3.out.met ((a : Int) + v + i) (by unfold InR; omega) (vert_two hiv) (by unfold maxLen; omega) rfl rfl rfl ?_)
            | fail)
          intro w4 hM4 hg4
          have A4 := HA3.out.put hlo hM4 hg4
          clear hlk b6 HA3 hM4 hg4
          have b7 : w4.cell? ⟨q, 7, none⟩ = some (.int .i64 ((a : Int) + v + v)) := A4.box.cell 7
          have hlk := A4.met.look (x := (a : Int) + v + v + i) (by unfold InR; omega) (vert_three hiv)
          have HA4 := Lib.hid A4
          clear A4
          go_wp2_with (first
            | (at_mapUpdate; refine wpList_met rfl _ _ _ rfl HA4.out.met ((a : Int) + v + v + i) (by unfold InR; omega) (vert_three hiv) (by unfold maxLen; omega) rfl rfl rfl ?_)
            | fail)
          intro w5 hM5 hg5
          clear hlk b7
          go_wp2_with fail
          go_roundw
          case rel => exact ⟨i + 1, hiv, by go_num, (HA4.out.put hlo hM5 hg5).as (by omega) (fun x => vert_next hiv x)⟩
          case measure => simp [intOf]; omega
        · have hiv' : v = i := by omega
          subst hiv'
          have HA := Lib.hid (hA.as rfl (fun x => vert_end a v x))
          have b8 : wr.cell? ⟨q, 8, none⟩ = some (.int .i64 ((a : Int) + v + v + v)) := hA.box.cell 8
          have b9 : wr.cell? ⟨q, 9, none⟩ = some (.int .i64 ((a : Int) + v + v + v + 1)) := hA.box.cell 9
          have b10 : wr.cell? ⟨q, 10, none⟩ = some (.int .i64 ((a : Int) + v + v + v + 1 + 1)) := hA.box.cell 10
          have b11 : wr.cell? ⟨q, 11, none⟩ = some (.int .i64 ((a : Int) + v + v + v + 1 + 1 + 1)) := hA.box.cell 11
          clear hA
          go_wp2_with fail
          obtain ⟨w3, hw3⟩ : ∃ w3, wr.alloc (.cells (fourA a v) 3) = w3 := ⟨_, rfl⟩
          have S3 : Blk w3 wr.heap.size 3 (fourA a v) := by rw [← hw3]; exact Blk.new rfl
          have A3 := HA.out.on (W' := w3) (by rw [← hw3]; exact (Below.refl wr.heap.size wr).alloc (Nat.le_refl _) _)
          simp only [hw3]
          clear hw3 HA b8 b9 b10 b11
          generalize wr.heap.size = s at S3 ⊢
          have HA3 := Lib.hid A3; have HS3 := Lib.hid S3
          clear A3 S3
          go_loopw [16, 106] (fun _ cn wr => ∃ j : Nat, j ≤ 4 ∧ cn = .int .i64 (j : Int) ∧ Apa w wr q b v a k r (a + 3 * v + j) (upTo (a + 3 * v + j)) ∧ Blk wr s 3 (fourA a v)) (fun _ cn _ => 4 - (intOf cn).toNat)
          case atStart => exact ⟨0, by omega, rfl, HA3.out, HS3.out⟩
          case round =>
            clear HA3 HS3 hiv hi
            obtain ⟨j, hj, rfl, hA, hS⟩ := hrel
            by_cases hj4 : j < 4
            · have bj := four_at hS hj4
              have hjb : (0 : Int) ≤ (j : Int) ∧ (j : Int) < 4 := by omega
              have hlk := hA.met.look (x := (a : Int) + 3 * v + j) (by unfold InR; omega) (up_new (by omega))
              have HA := Lib.hid hA; have HS := Lib.hid hS
              have hbs : b ≠ s := hA.met.ne hS
              clear hA hS
              go_wp2_with (first
                | (at_mapUpdate; refine wpList_met rfl _ _ _ rfl HA.out.met ((a : Int) + 3 * v + j) (by unfold InR; omega) (up_new (by omega)) (by unfold maxLen; omega) rfl rfl rfl ?_)
                | fail)
              intro w4 hM4 hg4
              clear hlk bj
              go_wp2_with fail
              go_roundw
              case rel => exact ⟨j + 1, hj4, by go_num, (HA.out.put hlo hM4 hg4).as rfl (fun x => up_next (T := a + 3 * v + j) (y := (a : Int) + 3 * v + j) (by omega) x), HS.out.grown hg4 (fun e => hbs (by injection e with e; exact e.symm))⟩
              case measure => simp [intOf]; omega
            · have hj' : 4 = j := by omega
              subst hj'
              have HA := Lib.hid hA
              clear hA hS
              have hpm : ∀ x, x ≤ 64 → pos a v r x ≤ 300000 := fun x hx => pos_max ha hv hrm hx
              have HPM := Lib.hid hpm
              clear hpm
              go_wp2_with fail
              go_loopw [17, 18, 19, 116] (fun _ _ _ cn wr => ∃ x : Nat, x ≤ k ∧ cn = .int .i64 (x : Int) ∧ Apa w wr q b v a k r (pos a v r x) (upTo (pos a v r x))) (fun _ _ _ cn _ => k - (intOf cn).toNat)
              case atStart => exact ⟨0, Nat.zero_le _, rfl, HA.out.as (by unfold pos; omega) (fun y => by rw [show pos a v r 0 = a + 3 * v + 4 by unfold pos; omega])⟩
              case round =>
                clear HA hj4 hj
                obtain ⟨x, hx, rfl, hA⟩ := hrel
                by_cases hxk : x < k
                · have htop := fun W => top_is (v := v) (a := a) (k := k) (r := r) (x := x) (by omega) (by omega) hrm (by omega) hxk W
                  have hbot := fun W => bottom_is (v := v) (a := a) (k := k) (r := r) (x := x) (by omega) (by omega) hrm (by omega) hxk W
                  have hslo := fun t ht W => slot_is (v := v) (a := a) (k := k) (r := r) (x := x) (t := t) (by omega) (by omega) hrm hr1 (by omega) hxk ht W
                  have hnx := pos_next a v r x
                  have hTm := HPM.out x (by omega)
                  rw [layW_eq, pos_deq] at htop hbot hslo
                  generalize pos a v r x = T at htop hbot hslo hnx hTm hA
                  have H1 := Lib.hid htop; have H2 := Lib.hid hbot; have H3 := Lib.hid hslo; have HNX := Lib.hid hnx
                  have HA := Lib.hid hA
                  obtain ⟨c0, c1, c2, c3, c4, c5, c6, c7, c8, c9, c10, c11, c12, c13⟩ := box14 hA.box
                  clear htop hbot hslo hnx hA
                  go_wp2_with (first
                    | (go_at_call 23; (with_reducible refine (H1.out _).mono ?_); rintro e w4 ⟨rfl, B4⟩; clear c0 c1 c2 c3 c4 c5 c6 c7 c8 c9 c10 c11 c12 c13; have hlk := (HA.out.on B4).met.look (x := (T : Int)) (by unfold InR; omega) (upTo_new T); have HA4 := Lib.hid (HA.out.on B4))
                    | (at_mapUpdate; refine wpList_met rfl _ _ _ rfl HA4.out.met (T : Int) (by unfold InR; omega) (upTo_new T) (by unfold maxLen; omega) rfl rfl rfl ?_))
                  intro w5 hM5 hg5
                  have A5 := HA4.out.put hlo hM5 hg5
                  obtain ⟨c0, c1, c2, c3, c4, c5, c6, c7, c8, c9, c10, c11, c12, c13⟩ := box14 A5.box
                  have HA5 := Lib.hid (A5.as rfl (fun y => upTo_next T y))
                  clear A5 hM5 hg5 hlk HA4
                  go_wp2_with (first
                    | (go_at_call 25; (with_reducible refine (H2.out _).mono ?_); rintro e w6 ⟨rfl, B6⟩; clear c0 c1 c2 c3 c4 c5 c6 c7 c8 c9 c10 c11 c12 c13; have hlk := (HA5.out.on B6).met.look (x := (T : Int) + 1) (by unfold InR; omega) (up_new (by omega)); have HA6 := Lib.hid (HA5.out.on B6))
                    | (at_mapUpdate; refine wpList_met rfl _ _ _ rfl HA6.out.met ((T : Int) + 1) (by unfold InR; omega) (up_new (by omega)) (by unfold maxLen; omega) rfl rfl rfl ?_))
                  intro w7 hM7 hg7
                  have A7 := (HA6.out.put hlo hM7 hg7).as (p' := upTo (T + 1 + 1)) rfl (fun y => up_next (T := T + 1) (y := (T : Int) + 1) (by omega) y)
                  have b3 : w7.cell? ⟨q, 3, none⟩ = some (.int .i64 (r : Int)) := A7.box.cell 3
                  have HA7 := Lib.hid A7
                  clear A7 hM7 hg7 hlk HA6
                  go_wp2_with fail
                  go_loopw [18, 19, 133] (fun _ _ cn wq => ∃ i : Nat, i ≤ r ∧ cn = .int .i64 (i : Int) ∧ Apa w wq q b v a k r (T + 1 + 1 + i) (upTo (T + 1 + 1 + i))) (fun _ _ cn _ => r - (intOf cn).toNat)
                  case atStart => exact ⟨0, Nat.zero_le _, rfl, HA7.out⟩
                  case round =>
                    clear HA7 b3 HA HA5
                    obtain ⟨i, hi, rfl, hA⟩ := hrel
                    by_cases hir : i < r
                    · have s1 := fun W => H3.out i (by omega) W
                      have s2 := fun W => H3.out (i + r) (by omega) W
                      have s3 := fun W => H3.out (i + 7 * r) (by omega) W
                      rw [Nat.mod_eq_of_lt hir] at s1
                      rw [Nat.add_mod_right, Nat.mod_eq_of_lt hir, Int.natCast_add] at s2
                      rw [Nat.add_mul_mod_self_right, Nat.mod_eq_of_lt hir, show ((i + 7 * r : Nat) : Int) = (i : Int) + 7 * (r : Int) by omega] at s3
                      have S1 := Lib.hid s1; have S2 := Lib.hid s2; have S3 := Lib.hid s3
                      clear s1 s2 s3
                      have HA := Lib.hid hA
                      obtain ⟨c0, c1, c2, c3, c4, c5, c6, c7, c8, c9, c10, c11, c12, c13⟩ := box14 hA.box
                      clear hA
                      go_wp2_with (first
                        | (go_at_call 27; (with_reducible refine (S1.out _).mono ?_); rintro e w8 ⟨rfl, B8⟩; clear c0 c1 c2 c3 c4 c5 c6 c7 c8 c9 c10 c11 c12 c13; have hlk := (HA.out.on B8).met.look (x := (T : Int) + 2 + i) (by unfold InR; omega) (up_new (by omega)); have HA8 := Lib.hid (HA.out.on B8))
                        | (at_mapUpdate; refine wpList_met rfl _ _ _ rfl HA8.out.met ((T : Int) + 2 + i) (by unfold InR; omega) (up_new (by omega)) (by unfold maxLen; omega) rfl rfl rfl ?_))
                      intro w9 hM9 hg9
                      have A9 := (HA8.out.put hlo hM9 hg9).as (p' := upTo (T + 1 + 1 + i + 1)) rfl (fun y => up_next (T := T + 1 + 1 + i) (y := (T : Int) + 2 + i) (by omega) y)
                      obtain ⟨c0, c1, c2, c3, c4, c5, c6, c7, c8, c9, c10, c11, c12, c13⟩ := box14 A9.box
                      have HA9 := Lib.hid A9
                      clear A9 hM9 hg9 hlk HA8 HA
                      go_wp2_with (first
                        | (go_at_call 27; (with_reducible refine (S2.out _).mono ?_); rintro e w10 ⟨rfl, B10⟩; clear c0 c1 c2 c3 c4 c5 c6 c7 c8 c9 c10 c11 c12 c13; have A10 := HA9.out.on B10; obtain ⟨c0, c1, c2, c3, c4, c5, c6, c7, c8, c9, c10, c11, c12, c13⟩ := box14 A10.box; have HA10 := Lib.hid A10; clear A10)
                        | (go_at_call 27; (with_reducible refine (S3.out _).mono ?_); rintro e w11 ⟨rfl, B11⟩; clear c0 c1 c2 c3 c4 c5 c6 c7 c8 c9 c10 c11 c12 c13; have HA11 := Lib.hid (HA10.out.on B11)))
                      go_roundw
                      case rel => exact ⟨i + 1, hir, by go_num, HA11.out⟩
                      case measure => simp [intOf]; omega
                    · have hir' : r = i := by omega
                      subst hir'
                      have HA := Lib.hid hA
                      clear hA
                      go_wp2_with fail
                      refine ⟨?_, ?measure⟩
                      repeat apply Exists.intro
                      refine ⟨?rel, ?eq⟩
                      case eq => rfl
                      case rel => exact ⟨x + 1, hxk, by go_num, by rw [HNX.out]; exact HA.out⟩
                      case measure => simp [intOf]; omega
                · have hxk' : k = x := by omega
                  subst hxk'
                  have b13 : wr.cell? ⟨q, 13, none⟩ = some (.int .i64 (pos a v r k : Int)) := by rw [← pos_deq]; exact hA.box.cell 13
                  generalize pos a v r k = T at hA b13
                  have HA := Lib.hid hA
                  clear hA
                  have HB13 := Lib.hid b13
                  obtain ⟨D, hD, hsz, hks⟩ := HA.out.met
                  have HKS := Lib.hid hks; have HSZ := Lib.hid hsz
                  clear hks hsz b13
                  go_wp2_with (first
                    | (at_range; refine wpList_range_own _ rfl _ _ rfl 3 3 (int_keyed Try.underlying3) Try.underlying51 _ b T D rfl hD ?_; intro w4 hrg0 hg4 hs4)
                    | fail)
                  have Q4 : Blk w4 q 43 (layA v a k r) := HA.out.box.grown hg4 (by simp)
                  have BE4 : Below w.heap.size w w4 := HA.out.bel.grown hg4 HA.out.bel.size (fun j hj => by cases hj)
                  have hqr : q ≠ wr.heap.size := by have := HA.out.box.lt; omega
                  have hwr : w.heap.size ≤ wr.heap.size := HA.out.bel.size
                  have hT13 : ∀ W, Blk W q 43 (layA v a k r) → W.cell? ⟨q, 13, none⟩ = some (.int .i64 (T : Int)) := fun W h => by
                    have e := HB13.out
                    rw [HA.out.box.cell 13] at e
                    rw [h.cell 13]
                    exact e
                  have HT13 := Lib.hid hT13
                  clear hT13 hg4 HA HB13 hD
                  generalize wr.heap.size = rb at hrg0 hs4 hqr hwr ⊢
                  have HQ4 := Lib.hid Q4; have HBE4 := Lib.hid BE4
                  clear Q4 BE4
                  go_frame
                  go_loopw [20, 21] (fun _ _ wq => ∃ (left : Lit → Bool) (cnt : Nat), wq.ranges Try.prog 3 (plainElem Try.prog 3) b rb T D left cnt ∧ (∀ x, InR x → left (.int .i64 x) = true → has D (.int .i64 x) = true) ∧ Blk wq q 43 (layA v a k r) ∧ Below w.heap.size w wq) (fun _ _ wq => wq.rangeLeft b rb)
                  case atStart => exact ⟨_, _, hrg0, fun x _ h => h, HQ4.out, HBE4.out⟩
                  case round =>
                    clear hrg0 hs4 HQ4 HBE4
                    obtain ⟨left, cnt, hrg, hls, hQ, hB⟩ := hrel
                    have HLS := Lib.hid hls; have HQ := Lib.hid hQ; have HB := Lib.hid hB
                    clear hls hQ hB
                    go_wp2_with (first
                      | (at_next; refine wpList_next_ranges_ii _ rfl _ rfl 3 3 .i64 .i64 (int_keyed Try.underlying3) Try.underlying3 Try.underlying3 b rb T D _ _ rfl hrg ?_ ?_)
                      | fail)
                    · intro _ _
                      have b13 := HT13.out _ HQ.out
                      have how := hrg.owns
                      go_wp2_with (first
                        | (at_len; refine wpList_len_own _ rfl _ _ rfl 3 3 Try.underlying51 _ b T D rfl how ?_; rw [HSZ.out])
                        | (go_at_call 10; refine (awake10_is _).mono ?_; rintro e w10 ⟨rfl, hB10⟩))
                      go_ret
                      exact ⟨rfl, HB.out.trans (hB10.mono HB.out.size)⟩
                    · intro x c w5 cnt5 hwx hwc hlx hat hrg5 hlt5 hg5 hs5 hen
                      have hxr : InR x := inR_of_wf hwx
                      have hhas := HLS.out x hxr hlx
                      obtain ⟨hp1, hp2⟩ := HKS.out x hxr
                      rw [hhas] at hp1
                      have hxx : 0 ≤ x ∧ x < (T : Int) := of_decide_eq_true hp1.symm
                      have hc1 : c = 1 := by
                        have e := (hat (.lit (.int .i64 0))).symm.trans hp2
                        rw [← hp1] at e
                        injection e with e
                        injection e with _ e
                      subst hc1
                      have Q5 := HQ.out.grown hg5 (fun e => hqr (by injection e))
                      have BE5 : Below w.heap.size w w5 := HB.out.grown hg5 HB.out.size (fun j hj => by injection hj with hj; omega)
                      have b13 := HT13.out _ Q5
                      have g1 : ¬ x < 0 := by omega
                      have g2 : ¬ (T : Int) ≤ x := by omega
                      have HLT := Lib.hid hlt5; have HE1 := Lib.hid hrg.left_eq; have HE2 := Lib.hid hrg5.left_eq
                      have HR5 := Lib.hid hrg5; have HQ5 := Lib.hid Q5; have HBE5 := Lib.hid BE5
                      clear hat hp1 hp2 hhas hwx hwc hlx hg5 hs5 hlt5 hrg hrg5 Q5 BE5
                      go_wp2_with fail
                      go_roundw
                      case rel => exact ⟨_, ⟨_, HR5.out⟩, fun y hy h => HLS.out y hy (by simp only [Bool.and_eq_true] at h; exact h.1), HQ5.out, HBE5.out⟩
                      case measure => rw [HE2.out, HE1.out]; exact HLT.out
end Go.Proofs.Ytpmhajpjjihndaa
