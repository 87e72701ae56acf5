/- Layer 1: capacities and their sum; Check. -/
import Derived.Test.YtmmafibeciaghaaNeta
import Derived.Laws.EntriesVeiled
namespace Go.Proofs.Ytmmafibeciaghaa
open Go.RowKit

theorem ret_int_bool {a b : Int} {x y : Bool} (h : a = b) (h' : x = y) : Ending.returned (.tuple #[.int .i64 a, .bool x]) = .returned (.tuple #[.int .i64 b, .bool y]) := by rw [h, h']

set_option maxHeartbeats 1000000 in
theorem caps_any (N S T : Int) (A : Option Addr) (n c : Nat) (l : List ArcN) (w : World) (hA : Arcs w w.heap.size A n l) (hn : n ≤ 1000000000000) :
    Calls Try.prog 37 #[.agg #[.int .i64 N, .int .i64 S, .int .i64 T, .slice A n c]] w fun e w' => e = .returned (.bool (capsB l)) ∧ Below w.heap.size w w' := by
  go_enter Try.func37, Try.ntmps37
  go_wp2
  go_loopw [4, 8] (fun v i wr => ∃ k : Nat, k ≤ n ∧ i = .int .i64 k ∧ (l.take k).all (fun a => decide (0 ≤ a.cap)) = true ∧ Below w.heap.size w wr) (fun _ i _ => n - (intOf i).toNat)
  case atStart => exact ⟨0, Nat.zero_le _, rfl, rfl, below_alloc _⟩
  case round =>
    obtain ⟨k, hk, rfl, hp, hb⟩ := hrel
    have HP := Lib.hid hp; clear hp
    by_cases hlt : k < n
    · obtain ⟨b, off, a, rfl, hbl, hla, c0, c1, c2⟩ := arcs_at (hA.below hb) hlt
      have HL := Lib.hid hla; clear hla
      by_cases hc : a.cap < 0
      · go_wp2
        go_ret
        exact ⟨ret_bool (all_false_at HL.out (by simp; omega)).symm, hb.alloc hb.size _⟩
      · go_wp2
        go_roundw
        case rel => exact ⟨k + 1, by omega, by go_num, all_take HL.out HP.out (by simp; omega), hb.alloc hb.size _⟩
        case measure => simp [intOf]; omega
    · go_wp2
      go_ret
      exact ⟨ret_bool (all_take_end hA.len hlt HP.out).symm, hb⟩

set_option maxHeartbeats 1000000 in
theorem sum_any (N S T : Int) (A : Option Addr) (n c : Nat) (l : List ArcN) (w : World) (hA : Arcs w w.heap.size A n l) (hn : n ≤ 1000000000000) :
    Calls Try.prog 40 #[.agg #[.int .i64 N, .int .i64 S, .int .i64 T, .slice A n c]] w fun e w' => e = .returned (.tuple #[.int .i64 (sumV l), .bool (sumB l)]) ∧ Below w.heap.size w w' := by
  go_enter Try.func40, Try.ntmps40
  go_wp2
  go_loopw [4, 6, 10] (fun t v i wr => ∃ (k : Nat) (s : Int), k ≤ n ∧ i = .int .i64 k ∧ t = .int .i64 s ∧ 0 ≤ s ∧ s ≤ 4611686018427387904 ∧ sumOf l = sumFrom s (l.drop k) ∧ Below w.heap.size w wr) (fun _ _ i _ => n - (intOf i).toNat)
  case atStart => exact ⟨0, 0, Nat.zero_le _, rfl, rfl, by omega, by omega, rfl, below_alloc _⟩
  case round =>
    obtain ⟨k, s, hk, rfl, rfl, hs0, hs1, hp, hb⟩ := hrel
    have HP := Lib.hid hp; clear hp
    by_cases hlt : k < n
    · obtain ⟨b, off, a, rfl, hbl, hla, c0, c1, c2⟩ := arcs_at (hA.below hb) hlt
      have HL := Lib.hid hla; clear hla
      by_cases hc : a.cap < 0
      · go_wp2
        go_ret2
        have h := sum_stop HL.out HP.out (.inl hc)
        exact ⟨ret_int_bool h.1.symm h.2.symm, hb.alloc hb.size _⟩
      · by_cases hc' : 4611686018427387904 - s < a.cap
        · go_wp2
          go_ret2
          have h := sum_stop HL.out HP.out (.inr hc')
          exact ⟨ret_int_bool h.1.symm h.2.symm, hb.alloc hb.size _⟩
        · go_wp2
          go_roundw
          case rel => exact ⟨k + 1, s + a.cap, by omega, by go_num, rfl, by omega, by omega, sum_next HL.out HP.out hc hc', hb.alloc hb.size _⟩
          case measure => simp [intOf]; omega
    · go_wp2
      go_ret2
      have h := sum_end hA.len hlt HP.out
      exact ⟨ret_int_bool h.1.symm h.2.symm, hb⟩

set_option maxHeartbeats 400000 in
theorem sumIn_any (N S T : Int) (A : Option Addr) (n c : Nat) (l : List ArcN) (w : World) (hA : Arcs w w.heap.size A n l) (hn : n ≤ 1000000000000) :
    Calls Try.prog 38 #[.agg #[.int .i64 N, .int .i64 S, .int .i64 T, .slice A n c]] w fun e w' => e = .returned (.bool (sumB l)) ∧ Below w.heap.size w w' := by
  go_enter Try.func38, Try.ntmps38
  go_wp2_with fail
  refine (sum_any _ _ _ _ _ _ l _ ((hA.below (below_alloc _)).more (by simp)) hn).mono ?_
  rintro e w1 ⟨rfl, hb1⟩
  go_wp2_with fail
  go_ret
  exact ⟨rfl, below_step (below_alloc _) hb1⟩

/-- The table that 'conditions' answers. -/
def condTable : Value := .agg #[.func (.func 33) #[] #[], .int .i64 10, .func (.func 34) #[] #[], .int .i64 11, .func (.func 35) #[] #[], .int .i64 12,
  .func (.func 36) #[] #[], .int .i64 13, .func (.func 37) #[] #[], .int .i64 14, .func (.func 38) #[] #[], .int .i64 15]

set_option maxHeartbeats 400000 in
theorem conditions_any (w : World) :
    Calls Try.prog 31 #[] w fun e w' => e = .returned condTable ∧ Below w.heap.size w w' := by
  go_enter Try.func31, Try.ntmps31
  go_wp2
  exact bodyPost_ret (v := condTable) (by simp [results, Try.results31, go_sem, condTable]) rfl ⟨rfl, below_alloc _⟩

/-- The numbers of the conditions' functions. -/
def condF : Nat → Nat
  | 0 => 33
  | 1 => 34
  | 2 => 35
  | 3 => 36
  | 4 => 37
  | _ => 38

end Go.Proofs.Ytmmafibeciaghaa
