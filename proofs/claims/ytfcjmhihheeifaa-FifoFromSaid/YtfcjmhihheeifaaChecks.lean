/- Layer 1: conditions, Sum, Check; a net in new memory. -/
import Derived.Test.YtfcjmhihheeifaaRows
import Derived.Test.YtfcjmhihheeifaaGround
import Derived.WalkKit
import Derived.WalkSpells
import Derived.WalkLawsBesides
import Derived.Laws.EntriesVeiled
/-! Layer 1: what the conditions of a net come to. -/
namespace Go.Proofs.Ytfcjmhihheeifaa
open Go.RowKit

theorem below_alloc {w : World} (o : Obj) : Below w.heap.size w (w.alloc o) := (Below.refl _ _).alloc (Nat.le_refl _) o

set_option maxHeartbeats 400000 in
theorem isVert_any (N S T v : Int) (A : Option Addr) (n c : Nat) (w : World) :
    Calls Try.prog 111 #[.agg #[.int .i64 N, .int .i64 S, .int .i64 T, .slice A n c], .int .i64 v] w fun e w' => e = .returned (.bool (isVertB N v)) ∧ Below w.heap.size w w' := by
  go_enter Try.func111, Try.ntmps111
  go_wp2
  all_goals go_ret
  all_goals refine ⟨ret_bool ?_, below_alloc _⟩
  all_goals (simp [isVertB]; try omega)

set_option maxHeartbeats 400000 in
theorem verts_any (N S T : Int) (A : Option Addr) (n c : Nat) (w : World) :
    Calls Try.prog 93 #[.agg #[.int .i64 N, .int .i64 S, .int .i64 T, .slice A n c]] w fun e w' => e = .returned (.bool (vertsB N)) ∧ Below w.heap.size w w' := by
  go_enter Try.func93, Try.ntmps93
  go_wp2
  all_goals go_ret
  all_goals refine ⟨ret_bool ?_, below_alloc _⟩
  all_goals (simp [vertsB]; try omega)

set_option maxHeartbeats 400000 in
theorem arcsIn_any (N S T : Int) (A : Option Addr) (n c : Nat) (w : World) :
    Calls Try.prog 94 #[.agg #[.int .i64 N, .int .i64 S, .int .i64 T, .slice A n c]] w fun e w' => e = .returned (.bool (decide (n ≤ 16384))) ∧ Below w.heap.size w w' := by
  go_enter Try.func94, Try.ntmps94
  go_wp2
  all_goals go_ret
  all_goals refine ⟨ret_bool ?_, below_alloc _⟩
  all_goals (simp; try omega)

theorem bcell {W w1 : World} (hb : Below W.heap.size W w1) : (∀ b o, b < W.heap.size → w1.cell? ⟨b, o, none⟩ = W.cell? ⟨b, o, none⟩) ∧ (∀ b o, b < W.heap.size → w1.frozen? ⟨b, o, none⟩ = W.frozen? ⟨b, o, none⟩) :=
  ⟨fun b o h => hb.cell (p := ⟨b, o, none⟩) h, fun b o h => hb.frozen (p := ⟨b, o, none⟩) h⟩
theorem sizes {w W w1 : World} {o : Obj} (h : W = w.alloc o) (hb : Below W.heap.size W w1) : w.heap.size < w1.heap.size := by
  subst h; have := hb.size; simp at this; omega
theorem below_step {w W w1 : World} (h : Below w.heap.size w W) (hb : Below W.heap.size W w1) : Below w.heap.size w w1 := h.trans (hb.mono h.size)

set_option maxHeartbeats 400000 in
theorem ends_any (N S T : Int) (A : Option Addr) (n c : Nat) (w : World) :
    Calls Try.prog 95 #[.agg #[.int .i64 N, .int .i64 S, .int .i64 T, .slice A n c]] w fun e w' => e = .returned (.bool (endsB N S T)) ∧ Below w.heap.size w w' := by
  cases hs : isVertB N S
  · go_enter Try.func95, Try.ntmps95
    go_wp2_with fail
    refine (isVert_any _ _ _ _ _ _ _ _).mono ?_
    rintro e w1 ⟨rfl, hb1⟩
    go_wp2_with fail
    go_ret
    exact ⟨ret_bool (by simp [endsB, hs]), below_step (below_alloc _) hb1⟩
  · cases ht : isVertB N T
    all_goals
      go_enter Try.func95, Try.ntmps95
      go_wp2_with fail
      refine (isVert_any _ _ _ _ _ _ _ _).mono ?_
      rintro e w1 ⟨rfl, hb1⟩
      obtain ⟨hc1, hf1⟩ := bcell hb1
      go_wp2_with fail
      refine (isVert_any _ _ _ _ _ _ _ _).mono ?_
      rintro e w2 ⟨rfl, hb2⟩
      obtain ⟨hc2, hf2⟩ := bcell hb2
      have hz : w.heap.size < w1.heap.size := by have := hb1.size; simp at this; omega
      go_wp2_with fail
      go_ret
      exact ⟨ret_bool (by rw [endsB, hs, ht, Bool.eq_iff_iff]; simp), below_step (below_step (below_alloc _) hb1) hb2⟩

set_option maxHeartbeats 1000000 in
theorem between_any (N S T : Int) (A : Option Addr) (n c : Nat) (l : List ArcN) (w : World) (hA : Arcs w w.heap.size A n l) (hn : n ≤ 1000000000000) :
    Calls Try.prog 96 #[.agg #[.int .i64 N, .int .i64 S, .int .i64 T, .slice A n c]] w fun e w' => e = .returned (.bool (betweenB N l)) ∧ Below w.heap.size w w' := by
  go_enter Try.func96, Try.ntmps96
  go_wp2
  go_loopw [4, 8] (fun v i wr => ∃ k : Nat, k ≤ n ∧ i = .int .i64 k ∧ (l.take k).all (fun a => isVertB N a.frm && isVertB N a.to) = true ∧ Below (w.heap.size + 1) (w.alloc (.cells #[.int .i64 N, .int .i64 S, .int .i64 T, .slice A n c] 24)) wr) (fun _ i _ => n - (intOf i).toNat)
  case atStart => exact ⟨0, Nat.zero_le _, rfl, rfl, Below.refl _ _⟩
  case round =>
    obtain ⟨k, hk, rfl, hp, hb⟩ := hrel
    have HP := Lib.hid hp; clear hp
    have hb0 : Below w.heap.size w wr := (below_alloc _).trans (hb.mono (Nat.le_succ _))
    have h0 : wr.cell? ⟨w.heap.size, 0, none⟩ = some (.int .i64 N) := by rw [hb.cell (by simp)]; simp
    have h1 : wr.cell? ⟨w.heap.size, 1, none⟩ = some (.int .i64 S) := by rw [hb.cell (by simp)]; simp
    have h2 : wr.cell? ⟨w.heap.size, 2, none⟩ = some (.int .i64 T) := by rw [hb.cell (by simp)]; simp
    have h3 : wr.cell? ⟨w.heap.size, 3, none⟩ = some (.slice A n c) := by rw [hb.cell (by simp)]; simp
    by_cases hlt : k < n
    · obtain ⟨b, off, a, rfl, hbl, hla, c0, c1, c2⟩ := arcs_at (hA.below hb0) hlt
      have HL := Lib.hid hla; clear hla
      have hz : w.heap.size < wr.heap.size := by have := hb.size; simp at this; omega
      cases hv : isVertB N a.frm
      · go_wp2_with fail
        refine (isVert_any _ _ _ _ _ _ _ _).mono ?_
        rintro e w1 ⟨rfl, hb1⟩
        go_wp2_with fail
        go_ret
        exact ⟨ret_bool (all_false_at HL.out (by simp [hv])).symm, below_step (hb0.alloc hb0.size _) hb1⟩
      · cases hv' : isVertB N a.to
        all_goals
          go_wp2_with fail
          refine (isVert_any _ _ _ _ _ _ _ _).mono ?_
          rintro e w1 ⟨rfl, hb1⟩
          obtain ⟨hc1, hf1⟩ := bcell hb1
          go_wp2_with fail
          refine (isVert_any _ _ _ _ _ _ _ _).mono ?_
          rintro e w2 ⟨rfl, hb2⟩
          go_wp2_with fail
        · go_ret
          exact ⟨ret_bool (all_false_at HL.out (by simp [hv'])).symm, below_step (below_step (hb0.alloc hb0.size _) hb1) hb2⟩
        · go_roundw
          case rel =>
            refine ⟨k + 1, by omega, by go_num, all_take HL.out HP.out (by simp [hv, hv']), ?_⟩
            have hz1 := hb1.size
            simp at hz1
            exact ((hb.alloc (by omega) _).trans (hb1.mono (by simp; omega))).trans (hb2.mono (by omega))
          case measure => simp [intOf]; omega
    · go_wp2
      go_ret
      exact ⟨ret_bool (all_take_end hA.len hlt HP.out).symm, hb0⟩

end Go.Proofs.Ytfcjmhihheeifaa

/-! Layer 1: capacities and their sum; Check. -/
namespace Go.Proofs.Ytfcjmhihheeifaa
open Go.RowKit

theorem ret_int_bool {a b : Int} {x y : Bool} (h : a = b) (h' : x = y) : Ending.returned (.tuple #[.int .i64 a, .bool x]) = .returned (.tuple #[.int .i64 b, .bool y]) := by rw [h, h']

set_option maxHeartbeats 1000000 in
theorem caps_any (N S T : Int) (A : Option Addr) (n c : Nat) (l : List ArcN) (w : World) (hA : Arcs w w.heap.size A n l) (hn : n ≤ 1000000000000) :
    Calls Try.prog 97 #[.agg #[.int .i64 N, .int .i64 S, .int .i64 T, .slice A n c]] w fun e w' => e = .returned (.bool (capsB l)) ∧ Below w.heap.size w w' := by
  go_enter Try.func97, Try.ntmps97
  go_wp2
  go_loopw [4, 8] (fun v i wr => ∃ k : Nat, k ≤ n ∧ i = .int .i64 k ∧ (l.take k).all (fun a => decide (0 ≤ a.cap)) = true ∧ Below w.heap.size w wr) (fun _ i _ => n - (intOf i).toNat)
  case atStart => exact ⟨0, Nat.zero_le _, rfl, rfl, below_alloc _⟩
  case round =>
    obtain ⟨k, hk, rfl, hp, hb⟩ := hrel
    have HP := Lib.hid hp; clear hp
    by_cases hlt : k < n
    · obtain ⟨b, off, a, rfl, hbl, hla, c0, c1, c2⟩ := arcs_at (hA.below hb) hlt
      have HL := Lib.hid hla; clear hla
      by_cases hc : a.cap < 0
      · go_wp2
        go_ret
        exact ⟨ret_bool (all_false_at HL.out (by simp; omega)).symm, hb.alloc hb.size _⟩
      · go_wp2
        go_roundw
        case rel => exact ⟨k + 1, by omega, by go_num, all_take HL.out HP.out (by simp; omega), hb.alloc hb.size _⟩
        case measure => simp [intOf]; omega
    · go_wp2
      go_ret
      exact ⟨ret_bool (all_take_end hA.len hlt HP.out).symm, hb⟩

set_option maxHeartbeats 1000000 in
theorem sum_any (N S T : Int) (A : Option Addr) (n c : Nat) (l : List ArcN) (w : World) (hA : Arcs w w.heap.size A n l) (hn : n ≤ 1000000000000) :
    Calls Try.prog 112 #[.agg #[.int .i64 N, .int .i64 S, .int .i64 T, .slice A n c]] w fun e w' => e = .returned (.tuple #[.int .i64 (sumV l), .bool (sumB l)]) ∧ Below w.heap.size w w' := by
  go_enter Try.func112, Try.ntmps112
  go_wp2
  go_loopw [4, 6, 10] (fun t v i wr => ∃ (k : Nat) (s : Int), k ≤ n ∧ i = .int .i64 k ∧ t = .int .i64 s ∧ 0 ≤ s ∧ s ≤ 4611686018427387904 ∧ sumOf l = sumFrom s (l.drop k) ∧ Below w.heap.size w wr) (fun _ _ i _ => n - (intOf i).toNat)
  case atStart => exact ⟨0, 0, Nat.zero_le _, rfl, rfl, by omega, by omega, rfl, below_alloc _⟩
  case round =>
    obtain ⟨k, s, hk, rfl, rfl, hs0, hs1, hp, hb⟩ := hrel
    have HP := Lib.hid hp; clear hp
    by_cases hlt : k < n
    · obtain ⟨b, off, a, rfl, hbl, hla, c0, c1, c2⟩ := arcs_at (hA.below hb) hlt
      have HL := Lib.hid hla; clear hla
      by_cases hc : a.cap < 0
      · go_wp2
        go_ret2
        have h := sum_stop HL.out HP.out (.inl hc)
        exact ⟨ret_int_bool h.1.symm h.2.symm, hb.alloc hb.size _⟩
      · by_cases hc' : 4611686018427387904 - s < a.cap
        · go_wp2
          go_ret2
          have h := sum_stop HL.out HP.out (.inr hc')
          exact ⟨ret_int_bool h.1.symm h.2.symm, hb.alloc hb.size _⟩
        · go_wp2
          go_roundw
          case rel => exact ⟨k + 1, s + a.cap, by omega, by go_num, rfl, by omega, by omega, sum_next HL.out HP.out hc hc', hb.alloc hb.size _⟩
          case measure => simp [intOf]; omega
    · go_wp2
      go_ret2
      have h := sum_end hA.len hlt HP.out
      exact ⟨ret_int_bool h.1.symm h.2.symm, hb⟩

set_option maxHeartbeats 400000 in
theorem sumIn_any (N S T : Int) (A : Option Addr) (n c : Nat) (l : List ArcN) (w : World) (hA : Arcs w w.heap.size A n l) (hn : n ≤ 1000000000000) :
    Calls Try.prog 98 #[.agg #[.int .i64 N, .int .i64 S, .int .i64 T, .slice A n c]] w fun e w' => e = .returned (.bool (sumB l)) ∧ Below w.heap.size w w' := by
  go_enter Try.func98, Try.ntmps98
  go_wp2_with fail
  refine (sum_any _ _ _ _ _ _ l _ ((hA.below (below_alloc _)).more (by simp)) hn).mono ?_
  rintro e w1 ⟨rfl, hb1⟩
  go_wp2_with fail
  go_ret
  exact ⟨rfl, below_step (below_alloc _) hb1⟩

/-- The table that 'conditions' answers. -/
def condTable : Value := .agg #[.func (.func 93) #[] #[], .int .i64 10, .func (.func 94) #[] #[], .int .i64 11, .func (.func 95) #[] #[], .int .i64 12,
  .func (.func 96) #[] #[], .int .i64 13, .func (.func 97) #[] #[], .int .i64 14, .func (.func 98) #[] #[], .int .i64 15]

set_option maxHeartbeats 400000 in
theorem conditions_any (w : World) :
    Calls Try.prog 77 #[] w fun e w' => e = .returned condTable ∧ Below w.heap.size w w' := by
  go_enter Try.func77, Try.ntmps77
  go_wp2
  exact bodyPost_ret (v := condTable) (by simp [results, Try.results77, go_sem, condTable]) rfl ⟨rfl, below_alloc _⟩

/-- The numbers of the conditions' functions. -/
def condF : Nat → Nat
  | 0 => 93
  | 1 => 94
  | 2 => 95
  | 3 => 96
  | 4 => 97
  | _ => 98

end Go.Proofs.Ytfcjmhihheeifaa

/-! Layer 1: Check. -/
namespace Go.Proofs.Ytfcjmhihheeifaa
open Go.RowKit

theorem cond_at0 (w : World) : (Instr.index 128 condTable (.int .i64 0)).run Try.prog w = .ok (.agg #[.func (.func 93) #[] #[], .int .i64 10]) w := by kernel_rfl
theorem cond_at1 (w : World) : (Instr.index 128 condTable (.int .i64 1)).run Try.prog w = .ok (.agg #[.func (.func 94) #[] #[], .int .i64 11]) w := by kernel_rfl
theorem cond_at2 (w : World) : (Instr.index 128 condTable (.int .i64 2)).run Try.prog w = .ok (.agg #[.func (.func 95) #[] #[], .int .i64 12]) w := by kernel_rfl
theorem cond_at3 (w : World) : (Instr.index 128 condTable (.int .i64 3)).run Try.prog w = .ok (.agg #[.func (.func 96) #[] #[], .int .i64 13]) w := by kernel_rfl
theorem cond_at4 (w : World) : (Instr.index 128 condTable (.int .i64 4)).run Try.prog w = .ok (.agg #[.func (.func 97) #[] #[], .int .i64 14]) w := by kernel_rfl
theorem cond_at5 (w : World) : (Instr.index 128 condTable (.int .i64 5)).run Try.prog w = .ok (.agg #[.func (.func 98) #[] #[], .int .i64 15]) w := by kernel_rfl

theorem ret_i64 {a b : Int} (h : a = b) : Ending.returned (.int .i64 a) = .returned (.int .i64 b) := by rw [h]

set_option maxHeartbeats 1000000 in
theorem check_any (N S T : Int) (A : Option Addr) (n c : Nat) (l : List ArcN) (w : World) (hA : Arcs w w.heap.size A n l) (hn : n ≤ 1000000000000) :
    Calls Try.prog 40 #[.agg #[.int .i64 N, .int .i64 S, .int .i64 T, .slice A n c]] w fun e w' => e = .returned (.int .i64 (checkF N S T l)) ∧ Below w.heap.size w w' := by
  go_enter Try.func40, Try.ntmps40
  go_wp2_with fail
  refine (conditions_any _).mono ?_
  rintro e w0 ⟨rfl, hb0⟩
  have hz0 : w.heap.size < w0.heap.size := by have := hb0.size; simp at this; omega
  have hbw : Below w.heap.size w w0 := below_step (below_alloc _) hb0
  have hN0 : w0.cell? ⟨w.heap.size, 0, none⟩ = some (.int .i64 N) := by rw [hb0.cell (by simp)]; simp
  have hS0 : w0.cell? ⟨w.heap.size, 1, none⟩ = some (.int .i64 S) := by rw [hb0.cell (by simp)]; simp
  have hT0 : w0.cell? ⟨w.heap.size, 2, none⟩ = some (.int .i64 T) := by rw [hb0.cell (by simp)]; simp
  have hL0 : w0.cell? ⟨w.heap.size, 3, none⟩ = some (.slice A n c) := by rw [hb0.cell (by simp)]; simp
  clear hb0
  go_wp2_with fail
  go_loopw [2, 4, 6] (fun r v i wr => ∃ k : Nat, k ≤ 6 ∧ i = .int .i64 k ∧ (∀ j, j < k → condB N S T l j = true) ∧ Below w0.heap.size w0 wr) (fun _ _ i _ => 6 - (intOf i).toNat)
  case atStart => exact ⟨0, Nat.zero_le _, rfl, fun j hj => absurd hj (by omega), Below.refl _ _⟩
  case round =>
    obtain ⟨k, hk, rfl, hp, hb⟩ := hrel
    have HP := Lib.hid hp; clear hp
    have hN := (hb.cell (p := ⟨w.heap.size, 0, none⟩) hz0).trans hN0
    have hS := (hb.cell (p := ⟨w.heap.size, 1, none⟩) hz0).trans hS0
    have hT := (hb.cell (p := ⟨w.heap.size, 2, none⟩) hz0).trans hT0
    have hL := (hb.cell (p := ⟨w.heap.size, 3, none⟩) hz0).trans hL0
    have hz : w.heap.size < wr.heap.size := Nat.lt_of_lt_of_le hz0 hb.size
    have hbr : Below w.heap.size w wr := hbw.trans (hb.mono (Nat.le_of_lt hz0))
    clear hN0 hS0 hT0 hL0
    by_cases hlt : k < 6
    · have hks : k = 0 ∨ k = 1 ∨ k = 2 ∨ k = 3 ∨ k = 4 ∨ k = 5 := by omega
      rcases hks with rfl | rfl | rfl | rfl | rfl | rfl
      · have hi := cond_at0
        have hR : Arcs (wr.alloc (.cells #[.func (.func 93) #[] #[], .int .i64 10] 127)) (wr.alloc (.cells #[.func (.func 93) #[] #[], .int .i64 10] 127)).heap.size A n l := (hA.below (hbr.alloc hbr.size _)).more (by simp; omega)
        cases hv : vertsB N
        · go_wp2_with fail
          refine (verts_any _ _ _ _ _ _ _).mono ?_
          rintro e w1 ⟨rfl, hb1⟩
          obtain ⟨hc1, hf1⟩ := bcell hb1
          go_wp2_with fail
          go_ret
          exact ⟨ret_i64 (check_first (k := 0) (by omega) HP.out hv).symm, below_step (hbr.alloc hbr.size _) hb1⟩
        · go_wp2_with fail
          refine (verts_any _ _ _ _ _ _ _).mono ?_
          rintro e w1 ⟨rfl, hb1⟩
          go_wp2_with fail
          go_roundw
          case rel => exact ⟨1, by omega, by go_num, cond_next HP.out hv, (hb.alloc hb.size _).trans (hb1.mono (by have := hb.size; simp; omega))⟩
          case measure => simp [intOf]
      · have hi := cond_at1
        have hR : Arcs (wr.alloc (.cells #[.func (.func 94) #[] #[], .int .i64 11] 127)) (wr.alloc (.cells #[.func (.func 94) #[] #[], .int .i64 11] 127)).heap.size A n l := (hA.below (hbr.alloc hbr.size _)).more (by simp; omega)
        cases hv : decide (n ≤ 16384)
        · go_wp2_with fail
          refine (arcsIn_any _ _ _ _ _ _ _).mono ?_
          rintro e w1 ⟨rfl, hb1⟩
          obtain ⟨hc1, hf1⟩ := bcell hb1
          go_wp2_with fail
          go_ret
          exact ⟨ret_i64 (check_first (k := 1) (by omega) HP.out (by rw [← hA.len] at hv; exact hv)).symm, below_step (hbr.alloc hbr.size _) hb1⟩
        · go_wp2_with fail
          refine (arcsIn_any _ _ _ _ _ _ _).mono ?_
          rintro e w1 ⟨rfl, hb1⟩
          go_wp2_with fail
          go_roundw
          case rel => exact ⟨2, by omega, by go_num, cond_next HP.out (by rw [← hA.len] at hv; exact hv), (hb.alloc hb.size _).trans (hb1.mono (by have := hb.size; simp; omega))⟩
          case measure => simp [intOf]
      · have hi := cond_at2
        have hR : Arcs (wr.alloc (.cells #[.func (.func 95) #[] #[], .int .i64 12] 127)) (wr.alloc (.cells #[.func (.func 95) #[] #[], .int .i64 12] 127)).heap.size A n l := (hA.below (hbr.alloc hbr.size _)).more (by simp; omega)
        cases hv : endsB N S T
        · go_wp2_with fail
          refine (ends_any _ _ _ _ _ _ _).mono ?_
          rintro e w1 ⟨rfl, hb1⟩
          obtain ⟨hc1, hf1⟩ := bcell hb1
          go_wp2_with fail
          go_ret
          exact ⟨ret_i64 (check_first (k := 2) (by omega) HP.out hv).symm, below_step (hbr.alloc hbr.size _) hb1⟩
        · go_wp2_with fail
          refine (ends_any _ _ _ _ _ _ _).mono ?_
          rintro e w1 ⟨rfl, hb1⟩
          go_wp2_with fail
          go_roundw
          case rel => exact ⟨3, by omega, by go_num, cond_next HP.out hv, (hb.alloc hb.size _).trans (hb1.mono (by have := hb.size; simp; omega))⟩
          case measure => simp [intOf]
      · have hi := cond_at3
        have hR : Arcs (wr.alloc (.cells #[.func (.func 96) #[] #[], .int .i64 13] 127)) (wr.alloc (.cells #[.func (.func 96) #[] #[], .int .i64 13] 127)).heap.size A n l := (hA.below (hbr.alloc hbr.size _)).more (by simp; omega)
        cases hv : betweenB N l
        · go_wp2_with fail
          refine (between_any _ _ _ _ _ _ l _ hR hn).mono ?_
          rintro e w1 ⟨rfl, hb1⟩
          obtain ⟨hc1, hf1⟩ := bcell hb1
          go_wp2_with fail
          go_ret
          exact ⟨ret_i64 (check_first (k := 3) (by omega) HP.out hv).symm, below_step (hbr.alloc hbr.size _) hb1⟩
        · go_wp2_with fail
          refine (between_any _ _ _ _ _ _ l _ hR hn).mono ?_
          rintro e w1 ⟨rfl, hb1⟩
          go_wp2_with fail
          go_roundw
          case rel => exact ⟨4, by omega, by go_num, cond_next HP.out hv, (hb.alloc hb.size _).trans (hb1.mono (by have := hb.size; simp; omega))⟩
          case measure => simp [intOf]
      · have hi := cond_at4
        have hR : Arcs (wr.alloc (.cells #[.func (.func 97) #[] #[], .int .i64 14] 127)) (wr.alloc (.cells #[.func (.func 97) #[] #[], .int .i64 14] 127)).heap.size A n l := (hA.below (hbr.alloc hbr.size _)).more (by simp; omega)
        cases hv : capsB l
        · go_wp2_with fail
          refine (caps_any _ _ _ _ _ _ l _ hR hn).mono ?_
          rintro e w1 ⟨rfl, hb1⟩
          obtain ⟨hc1, hf1⟩ := bcell hb1
          go_wp2_with fail
          go_ret
          exact ⟨ret_i64 (check_first (k := 4) (by omega) HP.out hv).symm, below_step (hbr.alloc hbr.size _) hb1⟩
        · go_wp2_with fail
          refine (caps_any _ _ _ _ _ _ l _ hR hn).mono ?_
          rintro e w1 ⟨rfl, hb1⟩
          go_wp2_with fail
          go_roundw
          case rel => exact ⟨5, by omega, by go_num, cond_next HP.out hv, (hb.alloc hb.size _).trans (hb1.mono (by have := hb.size; simp; omega))⟩
          case measure => simp [intOf]
      · have hi := cond_at5
        have hR : Arcs (wr.alloc (.cells #[.func (.func 98) #[] #[], .int .i64 15] 127)) (wr.alloc (.cells #[.func (.func 98) #[] #[], .int .i64 15] 127)).heap.size A n l := (hA.below (hbr.alloc hbr.size _)).more (by simp; omega)
        cases hv : sumB l
        · go_wp2_with fail
          refine (sumIn_any _ _ _ _ _ _ l _ hR hn).mono ?_
          rintro e w1 ⟨rfl, hb1⟩
          obtain ⟨hc1, hf1⟩ := bcell hb1
          go_wp2_with fail
          go_ret
          exact ⟨ret_i64 (check_first (k := 5) (by omega) HP.out hv).symm, below_step (hbr.alloc hbr.size _) hb1⟩
        · go_wp2_with fail
          refine (sumIn_any _ _ _ _ _ _ l _ hR hn).mono ?_
          rintro e w1 ⟨rfl, hb1⟩
          go_wp2_with fail
          go_roundw
          case rel => exact ⟨6, by omega, by go_num, cond_next HP.out hv, (hb.alloc hb.size _).trans (hb1.mono (by have := hb.size; simp; omega))⟩
          case measure => simp [intOf]
    · go_wp2
      go_ret
      exact ⟨ret_i64 (check_all fun j hj => HP.out j (by omega)).symm, hbr⟩

end Go.Proofs.Ytfcjmhihheeifaa

/-! Words and small laws that every layer uses: a net in new memory, rows just laid. -/
namespace Go.Proofs.Ytfcjmhihheeifaa
open Go.RowKit

theorem arc_info : (Try.prog.info? 64).map (fun i => (i.zero, i.size, i.bytes)) = some (some (.agg #[.int .i64 0, .int .i64 0, .int .i64 0]), 3, 24) := by kernel_rfl
theorem int_info : (Try.prog.info? 3).map (fun i => (i.zero, i.size, i.bytes)) = some (some (.int .i64 0), 1, 8) := by kernel_rfl

/-- A net in new memory is answered. -/
def RetNet (N S T : Int) (l : List ArcN) (w : World) (e : Ending) (w' : World) : Prop :=
  ∃ (A : Option Addr) (n c : Nat), e = .returned (.agg #[.int .i64 N, .int .i64 S, .int .i64 T, .slice A n c]) ∧
    w'.ownsRow w.heap.size 64 3 (.slice A n c) n (l.flatMap arcCells) ∧ l.length = n ∧ Below w.heap.size w w'

theorem bcell_lt {g : Nat} {W w1 : World} (hb : Below g W w1) : (∀ b o, b < g → w1.cell? ⟨b, o, none⟩ = W.cell? ⟨b, o, none⟩) ∧ (∀ b o, b < g → w1.frozen? ⟨b, o, none⟩ = W.frozen? ⟨b, o, none⟩) :=
  ⟨fun b o h => hb.cell (p := ⟨b, o, none⟩) h, fun b o h => hb.frozen (p := ⟨b, o, none⟩) h⟩
theorem below_of_grown {w w' : World} {g : Nat} (h : w.grownBy w' (some g)) (hg : g ≤ w.heap.size) : Below g w w' :=
  ⟨h.os, h.tape, h.output, h.size, fun k hk => h.block k (by omega) (fun e => by injection e with e; omega)⟩

theorem heap_new_at {w : World} {o : Obj} {g : Nat} (h : w.heap.size = g) : (w.alloc o).heap[g]? = some o := by
  subst h
  show (w.heap.push o)[w.heap.size]? = some o
  simp

theorem check_is {N S T : Int} {A : Option Addr} {n : Nat} (c : Nat) {l : List ArcN} {w : World} (hA : Arcs w w.heap.size A n l) (hn : n ≤ 1000000000000) {v : Int} (hv : checkF N S T l = v) :
    Calls Try.prog 40 #[.agg #[.int .i64 N, .int .i64 S, .int .i64 T, .slice A n c]] w fun e w' => e = .returned (.int .i64 v) ∧ Below w.heap.size w w' := by
  subst hv
  exact check_any N S T A n c l w hA hn
theorem sum_is {N S T : Int} {A : Option Addr} {n : Nat} (c : Nat) {l : List ArcN} {w : World} (hA : Arcs w w.heap.size A n l) (hn : n ≤ 1000000000000) {v : Int} {b : Bool} (hv : sumV l = v) (hb : sumB l = b) :
    Calls Try.prog 112 #[.agg #[.int .i64 N, .int .i64 S, .int .i64 T, .slice A n c]] w fun e w' => e = .returned (.tuple #[.int .i64 v, .bool b]) ∧ Below w.heap.size w w' := by
  subst hv; subst hb
  exact sum_any N S T A n c l w hA hn
/-- A row that was just laid. -/
theorem arcs_new {w : World} {g n : Nat} {l : List ArcN} (h : w.heap.size = g) (hl : l.length = n) (hn : n ≤ maxLen) : Arcs (w.alloc (.cells (l.flatMap arcCells).toArray 64)) (w.alloc (.cells (l.flatMap arcCells).toArray 64)).heap.size (some ⟨g, 0, none⟩) n l :=
  RdBy.of_own (base := 0) hl (arc_len l) (own_of_block (Blk.new h) (Nat.zero_le _) hn (by rw [flat_len (arc_len l), hl]))
theorem ints_new {w : World} {g n : Nat} {l : List Int} (h : w.heap.size = g) (hl : l.length = n) (hn : n ≤ maxLen) : Ints (w.alloc (.cells (l.flatMap intCells).toArray 3)) (w.alloc (.cells (l.flatMap intCells).toArray 3)).heap.size (some ⟨g, 0, none⟩) n l :=
  RdBy.of_own (base := 0) hl (int_len l) (own_of_block (Blk.new h) (Nat.zero_le _) hn (by rw [flat_len (int_len l), hl]))
theorem arcs_own {w : World} {base n c : Nat} {A : Option Addr} {l : List ArcN} (h : w.ownsRow base 64 3 (.slice A n c) n (l.flatMap arcCells)) (hl : l.length = n) : Arcs w w.heap.size A n l := RdBy.of_own hl (arc_len l) h
theorem ints_own {w : World} {base n c : Nat} {A : Option Addr} {l : List Int} (h : w.ownsRow base 3 1 (.slice A n c) n (l.flatMap intCells)) (hl : l.length = n) : Ints w w.heap.size A n l := RdBy.of_own hl (int_len l) h
theorem RdBy.on {α : Type} {f : α → List Value} {size : Nat} {w w' : World} {n : Nat} {A : Option Addr} {l : List α} (h : RdBy f size w w.heap.size A n l) (hb : Below w.heap.size w w') : RdBy f size w' w'.heap.size A n l := (h.below hb).more hb.size
theorem RdBy.onAlloc {α : Type} {f : α → List Value} {size : Nat} {w : World} {n : Nat} {A : Option Addr} {l : List α} (h : RdBy f size w w.heap.size A n l) (o : Obj) : RdBy f size (w.alloc o) (w.alloc o).heap.size A n l := h.on (below_alloc o)

/-- A net that stays while new memory is laid. -/
theorem room_keep {W0 W : World} {g n c : Nat} {N S T : Int} {A : Option Addr} (K : Blk W0 g 24 #[.int .i64 N, .int .i64 S, .int .i64 T, .slice A n c]) (hB : Below W0.heap.size W0 W) :
    Below W0.heap.size W0 W ∧ W.cell? ⟨g, 0, none⟩ = some (.int .i64 N) ∧ W.cell? ⟨g, 1, none⟩ = some (.int .i64 S) ∧ W.cell? ⟨g, 2, none⟩ = some (.int .i64 T) ∧ W.cell? ⟨g, 3, none⟩ = some (.slice A n c) :=
  ⟨hB, (K.below hB K.lt).at4⟩

end Go.Proofs.Ytfcjmhihheeifaa
