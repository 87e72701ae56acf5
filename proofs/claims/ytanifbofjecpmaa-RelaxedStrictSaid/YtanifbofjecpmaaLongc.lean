/- Lists of numbers compared. Lists of numbers compared. -/
import Derived.Test.YtanifbofjecpmaaChecks
/-! Longc -/
namespace Go.Proofs.Ytanifbofjecpmaa
open Go.RowKit

set_option maxHeartbeats 1000000 in
theorem longs_any (A B : Option Addr) (n m c d : Nat) (l r : List Int) (w : World) (hA : Ints w w.heap.size A n l) (hB : Ints w w.heap.size B m r) (hn : n ≤ 17592186044416) (hm : m ≤ 17592186044416) :
    Calls Try.prog 40 #[.slice A n c, .slice B m d] w fun e w' => e = .returned (.bool (decide (l = r))) ∧ Below w.heap.size w w' := by
  by_cases hnm : n = m
  · subst hnm
    go_enter Try.func40, Try.ntmps40
    go_wp2
    go_loopw [5, 13] (fun _ i wr => ∃ k q : Nat, k ≤ n ∧ i = .int .i64 k ∧ l.take k = r.take k ∧ wr = w.drewN q) (fun _ i _ => n - (intOf i).toNat)
    case atStart => exact ⟨0, 0, Nat.zero_le _, rfl, by simp, rfl⟩
    case round =>
      obtain ⟨k, q, hk, rfl, hp, rfl⟩ := hrel
      have HP := Lib.hid hp; clear hp
      by_cases hlt : k < n
      · obtain ⟨b, off, x, rfl, hb, hx, hc⟩ := intl_at hA hlt
        obtain ⟨b', off', y, rfl, hb', hy, hc'⟩ := intl_at hB hlt
        have HX := Lib.hid hx; have HY := Lib.hid hy; clear hx hy
        by_cases hxy : x = y
        · subst hxy
          go_wp2
          go_quiet (fail)
          go_wp2
          go_roundw
          case rel => exact ⟨k + 1, q + nq, by omega, by go_num, eq_take_snoc HX.out HY.out HP.out, rfl⟩
          case measure => simp [intOf]; omega
        · have hne : (x != y) = true := by simpa using hxy
          go_wp2
          go_quiet (fail)
          go_wp2
          go_ret
          exact ⟨ret_bool (decide_eq_false (ne_at HX.out HY.out hxy)).symm, below_drewN' (below_drewN' (Below.refl _ _) _) _⟩
      · go_wp2
        go_ret
        exact ⟨ret_bool (decide_eq_true (eq_take_end hA.len hB.len hlt HP.out)).symm, below_drewN' (Below.refl _ _) _⟩
  · have hne : ((n : Int) != (m : Int)) = true := by simp; omega
    go_enter Try.func40, Try.ntmps40
    go_wp2
    go_ret
    exact ⟨ret_bool (decide_eq_false (ne_len hA.len hB.len hnm)).symm, Below.refl _ _⟩

theorem longs_is {A B : Option Addr} {n m : Nat} (c d : Nat) {l r : List Int} {w : World} (hA : Ints w w.heap.size A n l) (hB : Ints w w.heap.size B m r) (hn : n ≤ 17592186044416) (hm : m ≤ 17592186044416) {v : Bool} (hv : decide (l = r) = v) :
    Calls Try.prog 40 #[.slice A n c, .slice B m d] w fun e w' => e = .returned (.bool v) ∧ Below w.heap.size w w' := by
  subst hv
  exact longs_any A B n m c d l r w hA hB hn hm

end Go.Proofs.Ytanifbofjecpmaa

/-! Intc -/
namespace Go.Proofs.Ytanifbofjecpmaa
open Go.RowKit

set_option maxHeartbeats 1000000 in
theorem ints_draw (A B : Option Addr) (n m c d : Nat) (l r : List Int) (w : World) (hA : Ints w w.heap.size A n l) (hB : Ints w w.heap.size B m r) (hn : n ≤ 17592186044416) (hm : m ≤ 17592186044416) :
    Calls Try.prog 41 #[.slice A n c, .slice B m d] w fun e w' => e = .returned (.bool (decide (l = r))) ∧ ∃ q, w' = w.drewN q := by
  by_cases hnm : n = m
  · subst hnm
    go_enter Try.func41, Try.ntmps41
    go_wp2
    go_loopw [5, 13] (fun _ i wr => ∃ k q : Nat, k ≤ n ∧ i = .int .i64 k ∧ l.take k = r.take k ∧ wr = w.drewN q) (fun _ i _ => n - (intOf i).toNat)
    case atStart => exact ⟨0, 0, Nat.zero_le _, rfl, by simp, rfl⟩
    case round =>
      obtain ⟨k, q, hk, rfl, hp, rfl⟩ := hrel
      have HP := Lib.hid hp; clear hp
      by_cases hlt : k < n
      · obtain ⟨b, off, x, rfl, hb, hx, hc⟩ := intl_at hA hlt
        obtain ⟨b', off', y, rfl, hb', hy, hc'⟩ := intl_at hB hlt
        have HX := Lib.hid hx; have HY := Lib.hid hy; clear hx hy
        by_cases hxy : x = y
        · subst hxy
          go_wp2
          go_quiet (fail)
          go_wp2
          go_roundw
          case rel => exact ⟨k + 1, q + nq, by omega, by go_num, eq_take_snoc HX.out HY.out HP.out, rfl⟩
          case measure => simp [intOf]; omega
        · have hne : (x != y) = true := by simpa using hxy
          go_wp2
          go_quiet (fail)
          go_wp2
          go_ret
          exact ⟨ret_bool (decide_eq_false (ne_at HX.out HY.out hxy)).symm, q + nq, World.drewN_drewN _ _ _⟩
      · go_wp2
        go_ret
        exact ⟨ret_bool (decide_eq_true (eq_take_end hA.len hB.len hlt HP.out)).symm, q, rfl⟩
  · have hne : ((n : Int) != (m : Int)) = true := by simp; omega
    go_enter Try.func41, Try.ntmps41
    go_wp2
    go_ret
    exact ⟨ret_bool (decide_eq_false (ne_len hA.len hB.len hnm)).symm, 0, rfl⟩

theorem ints_any (A B : Option Addr) (n m c d : Nat) (l r : List Int) (w : World) (hA : Ints w w.heap.size A n l) (hB : Ints w w.heap.size B m r) (hn : n ≤ 17592186044416) (hm : m ≤ 17592186044416) :
    Calls Try.prog 41 #[.slice A n c, .slice B m d] w fun e w' => e = .returned (.bool (decide (l = r))) ∧ Below w.heap.size w w' :=
  (ints_draw A B n m c d l r w hA hB hn hm).mono fun _ _ ⟨h1, q, h2⟩ => ⟨h1, by rw [h2]; exact below_drewN' (Below.refl _ _) _⟩

theorem ints_is {A B : Option Addr} {n m : Nat} (c d : Nat) {l r : List Int} {w : World} (hA : Ints w w.heap.size A n l) (hB : Ints w w.heap.size B m r) (hn : n ≤ 17592186044416) (hm : m ≤ 17592186044416) {v : Bool} (hv : decide (l = r) = v) :
    Calls Try.prog 41 #[.slice A n c, .slice B m d] w fun e w' => e = .returned (.bool v) ∧ Below w.heap.size w w' := by
  subst hv
  exact ints_any A B n m c d l r w hA hB hn hm

end Go.Proofs.Ytanifbofjecpmaa
