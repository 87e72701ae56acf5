/- Lists and nets compared. -/
import Derived.Test.YtfdidjgecdhaiaaNete
import Derived.Deep.QuietTactic
import Derived.BigQuiet
import Derived.Laws.StructEq
namespace Go.Proofs.Ytfdidjgecdhaiaa
open Go.RowKit

theorem eq_take_snoc {α : Type} {l m : List α} {k : Nat} {a : α} (h1 : l[k]? = some a) (h2 : m[k]? = some a) (h : l.take k = m.take k) : l.take (k + 1) = m.take (k + 1) := by
  rw [take_at h1, take_at h2, h]
theorem eq_take_end {α : Type} {l m : List α} {k n : Nat} (h1 : l.length = n) (h2 : m.length = n) (hk : ¬ k < n) (h : l.take k = m.take k) : l = m := by
  rwa [List.take_of_length_le (by omega), List.take_of_length_le (by omega)] at h
theorem ne_at {α : Type} {l m : List α} {k : Nat} {a b : α} (h1 : l[k]? = some a) (h2 : m[k]? = some b) (h : a ≠ b) : l ≠ m := by
  rintro rfl
  rw [h1] at h2
  injection h2 with h2
  exact h h2
theorem ne_len {α : Type} {l m : List α} {n k : Nat} (h1 : l.length = n) (h2 : m.length = k) (h : n ≠ k) : l ≠ m := by
  rintro rfl
  exact h (h1.symm.trans h2)

set_option maxHeartbeats 1000000 in
theorem ints_any (A B : Option Addr) (n m c d : Nat) (l r : List Int) (w : World) (hA : Ints w w.heap.size A n l) (hB : Ints w w.heap.size B m r) (hn : n ≤ 1000000000000) (hm : m ≤ 1000000000000) :
    Calls Try.prog 19 #[.slice A n c, .slice B m d] w fun e w' => e = .returned (.bool (decide (l = r))) ∧ Below w.heap.size w w' := by
  by_cases hnm : n = m
  · subst hnm
    go_enter Try.func19, Try.ntmps19
    go_wp2
    go_loopw [5, 13] (fun _ i wr => ∃ k q : Nat, k ≤ n ∧ i = .int .i64 k ∧ l.take k = r.take k ∧ wr = w.drewN q) (fun _ i _ => n - (intOf i).toNat)
    case atStart => exact ⟨0, 0, Nat.zero_le _, rfl, by simp, rfl⟩
    case round =>
      obtain ⟨k, q, hk, rfl, hp, rfl⟩ := hrel
      have HP := Lib.hid hp; clear hp
      by_cases hlt : k < n
      · obtain ⟨b, off, x, rfl, hb, hx, hc⟩ := intl_at hA hlt
        obtain ⟨b', off', y, rfl, hb', hy, hc'⟩ := intl_at hB hlt
        have HX := Lib.hid hx; have HY := Lib.hid hy; clear hx hy
        by_cases hxy : x = y
        · subst hxy
          go_wp2
          go_quiet (fail)
          go_wp2
          go_roundw
          case rel => exact ⟨k + 1, q + nq, by omega, by go_num, eq_take_snoc HX.out HY.out HP.out, rfl⟩
          case measure => simp [intOf]; omega
        · have hne : (x != y) = true := by simpa using hxy
          go_wp2
          go_quiet (fail)
          go_wp2
          go_ret
          exact ⟨ret_bool (decide_eq_false (ne_at HX.out HY.out hxy)).symm, below_drewN' (below_drewN' (Below.refl _ _) _) _⟩
      · go_wp2
        go_ret
        exact ⟨ret_bool (decide_eq_true (eq_take_end hA.len hB.len hlt HP.out)).symm, below_drewN' (Below.refl _ _) _⟩
  · have hne : ((n : Int) != (m : Int)) = true := by simp; omega
    go_enter Try.func19, Try.ntmps19
    go_wp2
    go_ret
    exact ⟨ret_bool (decide_eq_false (ne_len hA.len hB.len hnm)).symm, Below.refl _ _⟩

theorem arc_parts {x y : ArcN} (h : ¬ x = y) : (x.frm == y.frm) = false ∨ ((x.frm == y.frm) = true ∧ (x.to == y.to) = false) ∨ ((x.frm == y.frm) = true ∧ (x.to == y.to) = true ∧ (x.cap == y.cap) = false) := by
  obtain ⟨a, b, c⟩ := x
  obtain ⟨a', b', c'⟩ := y
  by_cases h1 : a = a'
  · by_cases h2 : b = b'
    · refine .inr (.inr ⟨by simp [h1], by simp [h2], ?_⟩)
      simp only [beq_eq_false_iff_ne, ne_eq]
      intro h3
      exact h (by rw [h1, h2, h3])
    · exact .inr (.inl ⟨by simp [h1], by simpa using h2⟩)
  · exact .inl (by simpa using h1)

set_option maxHeartbeats 1000000 in
theorem equal_any (A B : Option Addr) (n m c d : Nat) (l r : List ArcN) (w : World) (hA : Arcs w w.heap.size A n l) (hB : Arcs w w.heap.size B m r) (hn : n ≤ 1000000000000) (hm : m ≤ 1000000000000) :
    Calls Try.prog 21 #[.slice A n c, .slice B m d] w fun e w' => e = .returned (.bool (decide (l = r))) ∧ Below w.heap.size w w' := by
  by_cases hnm : n = m
  · subst hnm
    go_enter Try.func21, Try.ntmps21
    go_wp2
    go_loopw [5, 13] (fun _ i wr => ∃ k q : Nat, k ≤ n ∧ i = .int .i64 k ∧ l.take k = r.take k ∧ wr = w.drewN q) (fun _ i _ => n - (intOf i).toNat)
    case atStart => exact ⟨0, 0, Nat.zero_le _, rfl, by simp, rfl⟩
    case round =>
      obtain ⟨k, q, hk, rfl, hp, rfl⟩ := hrel
      have HP := Lib.hid hp; clear hp
      by_cases hlt : k < n
      · obtain ⟨b, off, x, rfl, hb, hx, hc0, hc1, hc2⟩ := arcs_at hA hlt
        obtain ⟨b', off', y, rfl, hb', hy, he0, he1, he2⟩ := arcs_at hB hlt
        have HX := Lib.hid hx; have HY := Lib.hid hy; clear hx hy
        by_cases hxy : x = y
        · subst hxy
          go_wp2
          go_quiet (fail)
          go_wp2
          go_roundw
          case rel => exact ⟨k + 1, q + nq, by omega, by go_num, eq_take_snoc HX.out HY.out HP.out, rfl⟩
          case measure => simp [intOf]; omega
        · rcases arc_parts hxy with h1 | ⟨h1, h2⟩ | ⟨h1, h2, h3⟩
          all_goals
            go_wp2
            go_quiet (fail)
            go_wp2
            go_ret
            exact ⟨ret_bool (decide_eq_false (ne_at HX.out HY.out hxy)).symm, below_drewN' (below_drewN' (Below.refl _ _) _) _⟩
      · go_wp2
        go_ret
        exact ⟨ret_bool (decide_eq_true (eq_take_end hA.len hB.len hlt HP.out)).symm, below_drewN' (Below.refl _ _) _⟩
  · have hne : ((n : Int) != (m : Int)) = true := by simp; omega
    go_enter Try.func21, Try.ntmps21
    go_wp2
    go_ret
    exact ⟨ret_bool (decide_eq_false (ne_len hA.len hB.len hnm)).symm, Below.refl _ _⟩

/-- Are two nets the same? -/
def sameB (N S T : Int) (l : List ArcN) (N' S' T' : Int) (r : List ArcN) : Bool := decide (N = N' ∧ S = S' ∧ T = T' ∧ l = r)

set_option maxHeartbeats 1000000 in
theorem same_any (N S T N' S' T' : Int) (A B : Option Addr) (n m c d : Nat) (l r : List ArcN) (w : World) (hA : Arcs w w.heap.size A n l) (hB : Arcs w w.heap.size B m r) (hn : n ≤ 1000000000000) (hm : m ≤ 1000000000000) :
    Calls Try.prog 15 #[.agg #[.int .i64 N, .int .i64 S, .int .i64 T, .slice A n c], .agg #[.int .i64 N', .int .i64 S', .int .i64 T', .slice B m d]] w fun e w' => e = .returned (.bool (sameB N S T l N' S' T' r)) ∧ Below w.heap.size w w' := by
  have hb0 := fun (o o' : Obj) => ((Below.refl w.heap.size w).alloc (Nat.le_refl _) o).alloc (by simp) o'
  have HB0 := Lib.hid hb0; clear hb0
  by_cases h1 : N = N'
  · subst h1
    by_cases h2 : S = S'
    · subst h2
      by_cases h3 : T = T'
      · subst h3
        go_enter Try.func15, Try.ntmps15
        go_wp2_with fail
        refine (equal_any _ _ _ _ _ _ l r _ ((hA.below (HB0.out _ _)).more (by simp; omega)) ((hB.below (HB0.out _ _)).more (by simp; omega)) hn hm).mono ?_
        rintro e w1 ⟨rfl, hb1⟩
        go_wp2_with fail
        go_ret
        exact ⟨ret_bool (by simp [sameB]), below_step (HB0.out _ _) hb1⟩
      · have e3 : (T == T') = false := by simpa using h3
        go_enter Try.func15, Try.ntmps15
        go_wp2_with fail
        go_ret
        exact ⟨ret_bool (by simp [sameB, h3]), HB0.out _ _⟩
    · have e2 : (S == S') = false := by simpa using h2
      go_enter Try.func15, Try.ntmps15
      go_wp2_with fail
      go_ret
      exact ⟨ret_bool (by simp [sameB, h2]), HB0.out _ _⟩
  · have e1 : (N == N') = false := by simpa using h1
    go_enter Try.func15, Try.ntmps15
    go_wp2_with fail
    go_ret
    exact ⟨ret_bool (by simp [sameB, h1]), HB0.out _ _⟩

set_option maxHeartbeats 1000000 in
theorem sameNet_any (N S T N' S' T' : Int) (A B : Option Addr) (n m c d : Nat) (l r : List ArcN) (w : World) (hA : Arcs w w.heap.size A n l) (hB : Arcs w w.heap.size B m r) (hn : n ≤ 1000000000000) (hm : m ≤ 1000000000000) :
    Calls Try.prog 14 #[.agg #[.int .i64 N, .int .i64 S, .int .i64 T, .slice A n c], .agg #[.int .i64 N', .int .i64 S', .int .i64 T', .slice B m d]] w fun e w' => e = .returned (.bool (sameB N S T l N' S' T' r)) ∧ Below w.heap.size w w' := by
  have hb0 := fun (o o' : Obj) => ((Below.refl w.heap.size w).alloc (Nat.le_refl _) o).alloc (by simp) o'
  have HB0 := Lib.hid hb0; clear hb0
  by_cases h1 : N = N'
  · subst h1
    have i1 : (N != N) = false := by simp
    by_cases h2 : S = S'
    · subst h2
      have i2 : (S != S) = false := by simp
      by_cases h3 : T = T'
      · subst h3
        have i3 : (T != T) = false := by simp
        by_cases h4 : n = m
        · subst h4
          go_enter Try.func14, Try.ntmps14
          go_wp2
          go_loopw [5, 37] (fun _ i wr => ∃ k q : Nat, k ≤ n ∧ i = .int .i64 k ∧ l.take k = r.take k ∧ wr = ((w.alloc (.cells #[.int .i64 N, .int .i64 S, .int .i64 T, .slice A n c] 24)).alloc (.cells #[.int .i64 N, .int .i64 S, .int .i64 T, .slice B n d] 24)).drewN q) (fun _ i _ => n - (intOf i).toNat)
          case atStart => exact ⟨0, 0, Nat.zero_le _, rfl, by simp, rfl⟩
          case round =>
            obtain ⟨k, q, hk, rfl, hp, rfl⟩ := hrel
            have HP := Lib.hid hp; clear hp
            by_cases hlt : k < n
            · obtain ⟨b, off, x, rfl, hb, hx, hc0, hc1, hc2⟩ := arcs_at hA hlt
              obtain ⟨b', off', y, rfl, hb', hy, he0, he1, he2⟩ := arcs_at hB hlt
              have HX := Lib.hid hx; have HY := Lib.hid hy; clear hx hy
              have hb1 : b < w.heap.size + 1 := by omega
              have hb1' : b' < w.heap.size + 1 := by omega
              by_cases hxy : x = y
              · subst hxy
                go_wp2
                go_quiet (fail)
                go_wp2
                go_roundw
                case rel => exact ⟨k + 1, q + nq, by omega, by go_num, eq_take_snoc HX.out HY.out HP.out, rfl⟩
                case measure => simp [intOf]; omega
              · rcases arc_parts hxy with j1 | ⟨j1, j2⟩ | ⟨j1, j2, j3⟩
                all_goals
                  go_wp2
                  go_quiet (fail)
                  go_wp2
                  go_ret
                  exact ⟨ret_bool (by have := ne_at HX.out HY.out hxy; simp [sameB, this]), below_drewN' (below_drewN' (HB0.out _ _) _) _⟩
            · go_wp2
              go_ret
              exact ⟨ret_bool (by have := eq_take_end hA.len hB.len hlt HP.out; simp [sameB, this]), below_drewN' (HB0.out _ _) _⟩
        · have e4 : ((n : Int) != (m : Int)) = true := by simp; omega
          go_enter Try.func14, Try.ntmps14
          go_wp2_with fail
          go_ret
          exact ⟨ret_bool (by have := ne_len hA.len hB.len h4; simp [sameB, this]), HB0.out _ _⟩
      · have e3 : (T != T') = true := by simpa using h3
        go_enter Try.func14, Try.ntmps14
        go_wp2_with fail
        go_ret
        exact ⟨ret_bool (by simp [sameB, h3]), HB0.out _ _⟩
    · have e2 : (S != S') = true := by simpa using h2
      go_enter Try.func14, Try.ntmps14
      go_wp2_with fail
      go_ret
      exact ⟨ret_bool (by simp [sameB, h2]), HB0.out _ _⟩
  · have e1 : (N != N') = true := by simpa using h1
    go_enter Try.func14, Try.ntmps14
    go_wp2_with fail
    go_ret
    exact ⟨ret_bool (by simp [sameB, h1]), HB0.out _ _⟩

end Go.Proofs.Ytfdidjgecdhaiaa
