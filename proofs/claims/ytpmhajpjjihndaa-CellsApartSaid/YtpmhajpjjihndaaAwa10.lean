/- Layer 10: the chapter's examples ('awake'). -/
import Derived.Test.YtpmhajpjjihndaaBankp
import Derived.Test.YtpmhajpjjihndaaSlots
namespace Go.Proofs.Ytpmhajpjjihndaa
open Go.RowKit
set_option maxRecDepth 100000

section
variable {W : World} {g : Nat} {x0 x1 x2 x3 x4 x5 x6 x7 x8 x9 x10 x11 x12 x13 : Int}
/-- Two layouts of the same numbers are the same. -/
theorem lay_eql : (binOp .eql 43 (.agg #[.int .i64 x0, .int .i64 x1, .int .i64 x2, .int .i64 x3, .int .i64 x4, .int .i64 x5, .int .i64 x6, .int .i64 x7, .int .i64 x8, .int .i64 x9, .int .i64 x10, .int .i64 x11, .int .i64 x12, .int .i64 x13]) (.agg #[.int .i64 x0, .int .i64 x1, .int .i64 x2, .int .i64 x3, .int .i64 x4, .int .i64 x5, .int .i64 x6, .int .i64 x7, .int .i64 x8, .int .i64 x9, .int .i64 x10, .int .i64 x11, .int .i64 x12, .int .i64 x13])).run Try.prog W = .ok (.bool true) W := by
  simp [go_sem]
theorem lay_neq : (binOp .neq 43 (.agg #[.int .i64 x0, .int .i64 x1, .int .i64 x2, .int .i64 x3, .int .i64 x4, .int .i64 x5, .int .i64 x6, .int .i64 x7, .int .i64 x8, .int .i64 x9, .int .i64 x10, .int .i64 x11, .int .i64 x12, .int .i64 x13]) (.agg #[.int .i64 x0, .int .i64 x1, .int .i64 x2, .int .i64 x3, .int .i64 x4, .int .i64 x5, .int .i64 x6, .int .i64 x7, .int .i64 x8, .int .i64 x9, .int .i64 x10, .int .i64 x11, .int .i64 x12, .int .i64 x13])).run Try.prog W = .ok (.bool false) W := by
  simp [go_sem]
theorem box14 (h : Blk W g 43 #[.int .i64 x0, .int .i64 x1, .int .i64 x2, .int .i64 x3, .int .i64 x4, .int .i64 x5, .int .i64 x6, .int .i64 x7, .int .i64 x8, .int .i64 x9, .int .i64 x10, .int .i64 x11, .int .i64 x12, .int .i64 x13]) : W.cell? ⟨g, 0, none⟩ = some (.int .i64 x0) ∧ W.cell? ⟨g, 1, none⟩ = some (.int .i64 x1) ∧ W.cell? ⟨g, 2, none⟩ = some (.int .i64 x2) ∧ W.cell? ⟨g, 3, none⟩ = some (.int .i64 x3) ∧ W.cell? ⟨g, 4, none⟩ = some (.int .i64 x4) ∧ W.cell? ⟨g, 5, none⟩ = some (.int .i64 x5) ∧ W.cell? ⟨g, 6, none⟩ = some (.int .i64 x6) ∧ W.cell? ⟨g, 7, none⟩ = some (.int .i64 x7) ∧ W.cell? ⟨g, 8, none⟩ = some (.int .i64 x8) ∧ W.cell? ⟨g, 9, none⟩ = some (.int .i64 x9) ∧ W.cell? ⟨g, 10, none⟩ = some (.int .i64 x10) ∧ W.cell? ⟨g, 11, none⟩ = some (.int .i64 x11) ∧ W.cell? ⟨g, 12, none⟩ = some (.int .i64 x12) ∧ W.cell? ⟨g, 13, none⟩ = some (.int .i64 x13) := ⟨(h.cell 0).trans rfl, (h.cell 1).trans rfl, (h.cell 2).trans rfl, (h.cell 3).trans rfl, (h.cell 4).trans rfl, (h.cell 5).trans rfl, (h.cell 6).trans rfl, (h.cell 7).trans rfl, (h.cell 8).trans rfl, (h.cell 9).trans rfl, (h.cell 10).trans rfl, (h.cell 11).trans rfl, (h.cell 12).trans rfl, (h.cell 13).trans rfl⟩
end
/-- The chapter's layout. -/
abbrev exA : Array Value := #[.int .i64 3, .int .i64 4, .int .i64 2, .int .i64 4, .int .i64 0, .int .i64 4, .int .i64 7, .int .i64 10, .int .i64 13, .int .i64 14, .int .i64 15, .int .i64 16, .int .i64 17, .int .i64 29]
theorem ex_lay : layA 3 4 2 4 = exA := rfl
theorem ex_pow {r : Nat} (h : IsPow r 3) : r = 4 := h.unique ⟨2, rfl, by omega, fun j hj => by
  match j with
  | 0 => simp at hj
  | 1 => simp at hj
  | j + 2 => omega⟩
theorem plan_ex (w : World) : Calls Try.prog 20 #[.int .i64 3, .int .i64 4, .int .i64 2] w fun e w' => e = .returned (.tuple #[.agg exA, .int .i64 0]) ∧ Below w.heap.size w w' := by
  refine (plan_good (v := 3) (a := 4) (k := 2) (by omega) (by omega) (by omega) (by omega) w).mono ?_
  rintro e w' ⟨r, rfl, hr, hb⟩
  rw [ex_pow hr]
  exact ⟨rfl, hb⟩
theorem top_ex (w : World) : Calls Try.prog 23 #[.agg exA, .int .i64 1] w fun e w' => e = .returned (.int .i64 23) ∧ Below w.heap.size w w' :=
  top_is (v := 3) (a := 4) (k := 2) (r := 4) (x := 1) (by omega) (by omega) (by omega) (by omega) (by omega) w
theorem bottom_ex (w : World) : Calls Try.prog 25 #[.agg exA, .int .i64 1] w fun e w' => e = .returned (.int .i64 24) ∧ Below w.heap.size w w' :=
  bottom_is (v := 3) (a := 4) (k := 2) (r := 4) (x := 1) (by omega) (by omega) (by omega) (by omega) (by omega) w
theorem slot_ex (w : World) : Calls Try.prog 27 #[.agg exA, .int .i64 1, .int .i64 6] w fun e w' => e = .returned (.int .i64 27) ∧ Below w.heap.size w w' :=
  slot_is (v := 3) (a := 4) (k := 2) (r := 4) (x := 1) (t := 6) (by omega) (by omega) (by omega) (by omega) (by omega) (by omega) (by omega) w

def exL0 : List Int := List.replicate 29 0
def exL1 : List Int := putV exL0 2 5
def exL2 : List Int := putV exL1 2 (-2)
def exL3 : List Int := putV exL2 2 9
section
variable {w : World} {b g : Nat}
theorem store_ex (h : BankAt w b g 29 exL0) : Calls Try.prog 14 #[.pointer (some ⟨b, 0, none⟩), .int .i64 2, .int .i64 5] w fun e w' => e = .returned (.tuple #[]) ∧ BankAt w' b g 29 exL1 ∧ Wrote g w w' := store_put h 2 5
theorem add_ex (h : BankAt w b g 29 exL1) : Calls Try.prog 16 #[.pointer (some ⟨b, 0, none⟩), .int .i64 2, .int .i64 (-7)] w fun e w' => e = .returned (.int .i64 (-2)) ∧ BankAt w' b g 29 exL2 ∧ Wrote g w w' := by
  have e : wrap64 (cellV exL1 2 + (-7)) = -2 := by decide +kernel
  have e2 : cellV exL2 2 = -2 := by decide +kernel
  have := add_put h 2 (-7)
  rw [e, show putV exL1 2 (-2) = exL2 from rfl, e2] at this
  exact this
theorem cas1_ex (h : BankAt w b g 29 exL2) : Calls Try.prog 18 #[.pointer (some ⟨b, 0, none⟩), .int .i64 2, .int .i64 (-2), .int .i64 9] w fun e w' => e = .returned (.bool true) ∧ BankAt w' b g 29 exL3 ∧ Wrote g w w' := by
  have e2 : cellV exL2 2 = -2 := by decide +kernel
  have := cas_put h 2 (-2) 9
  rw [if_pos ⟨by omega, e2⟩, decide_eq_true (p := _ ∧ _) ⟨by omega, e2⟩] at this
  exact this
theorem cas2_ex (h : BankAt w b g 29 exL3) : Calls Try.prog 18 #[.pointer (some ⟨b, 0, none⟩), .int .i64 2, .int .i64 (-2), .int .i64 1] w fun e w' => e = .returned (.bool false) ∧ BankAt w' b g 29 exL3 ∧ Wrote g w w' := by
  have e2 : ¬ cellV exL3 2 = -2 := by decide +kernel
  have := cas_put h 2 (-2) 1
  rw [if_neg (fun c => e2 c.2), decide_eq_false (p := _ ∧ _) (fun c => e2 c.2)] at this
  exact this
theorem load_ex (h : BankAt w b g 29 exL3) : Calls Try.prog 13 #[.pointer (some ⟨b, 0, none⟩), .int .i64 2] w fun e w' => e = .returned (.int .i64 9) ∧ w' = w := by
  have e2 : cellV exL3 2 = 9 := by decide +kernel
  have := load_bank h 2
  rw [e2] at this
  exact this
theorem len_ex (h : BankAt w b g 29 exL3) : Calls Try.prog 11 #[.pointer (some ⟨b, 0, none⟩)] w fun e w' => e = .returned (.int .i64 29) ∧ w' = w := len_bank h
end

/-- What the walk knows of a world behind a call: the box, and the bank. -/
theorem ex_step {w3 w4 : World} {p b g n : Nat} {L : List Int} (h : Blk w3 p 43 exA ∧ BankAt w3 b g n L) (hB : Below w3.heap.size w3 w4) : Blk w4 p 43 exA ∧ BankAt w4 b g n L :=
  ⟨h.1.below hB h.1.lt, h.2.below hB h.2.obj.lt h.2.row.lt⟩

set_option maxHeartbeats 8000000 in
theorem awake10_is (w : World) : Calls Try.prog 10 #[] w fun e w' => e = .returned (.bool true) ∧ Below w.heap.size w w' := by
  have q1 := @lay_neq
  go_enter Try.func10, Try.ntmps10
  go_wp2_with (go_at_call 20; (with_reducible refine (plan_ex _).mono ?_); rintro e w1 ⟨rfl, B1⟩)
  obtain ⟨w2, hw2⟩ : ∃ w2, w1.alloc (.cells exA 43) = w2 := ⟨_, rfl⟩
  have A2 : Blk w2 w1.heap.size 43 exA := by rw [← hw2]; exact Blk.new rfl
  have B2 : Below w.heap.size w w2 := by rw [← hw2]; exact B1.alloc B1.size _
  simp only [hw2]
  clear hw2
  go_at_call 9
  refine (new_bank (n := 29) _ (by omega)).mono ?_
  rintro e w3 ⟨b, g, rfl, D3, hb, hg, hB3⟩
  have K3 : Blk w3 w1.heap.size 43 exA ∧ BankAt w3 b g 29 exL0 := ⟨A2.below hB3 A2.lt, D3⟩
  have B3 := B2.trans (hB3.mono B2.size)
  obtain ⟨c0, c1, c2, c3, c4, c5, c6, c7, c8, c9, c10, c11, c12, c13⟩ := box14 K3.1
  go_wp2_with (first
    | (go_at_call 23; (with_reducible refine (top_ex _).mono ?_); rintro e w4 ⟨rfl, hB4⟩; clear c0 c1 c2 c3 c4 c5 c6 c7 c8 c9 c10 c11 c12 c13; have K4 := ex_step K3 hB4; have B4 := B3.trans (hB4.mono B3.size); obtain ⟨c0, c1, c2, c3, c4, c5, c6, c7, c8, c9, c10, c11, c12, c13⟩ := box14 K4.1)
    | (go_at_call 25; (with_reducible refine (bottom_ex _).mono ?_); rintro e w5 ⟨rfl, hB5⟩; clear c0 c1 c2 c3 c4 c5 c6 c7 c8 c9 c10 c11 c12 c13; have K5 := ex_step K4 hB5; have B5 := B4.trans (hB5.mono B4.size); obtain ⟨c0, c1, c2, c3, c4, c5, c6, c7, c8, c9, c10, c11, c12, c13⟩ := box14 K5.1)
    | (go_at_call 27; (with_reducible refine (slot_ex _).mono ?_); rintro e w6 ⟨rfl, hB6⟩; clear c0 c1 c2 c3 c4 c5 c6 c7 c8 c9 c10 c11 c12 c13; have K6 := ex_step K5 hB6; have B6 := B5.trans (hB6.mono B5.size); obtain ⟨c0, c1, c2, c3, c4, c5, c6, c7, c8, c9, c10, c11, c12, c13⟩ := box14 K6.1))
  have G6 : w.heap.size ≤ g := by have := B2.size; omega
  go_at_call 14
  refine (store_ex K6.2).mono ?_
  rintro e w7 ⟨rfl, D7, W7⟩
  clear c0 c1 c2 c3 c4 c5 c6 c7 c8 c9 c10 c11 c12 c13
  have B7 := W7.below B6 G6
  clear q1 B1 A2 B2 D3 hB3 K3 B3 hB4 K4 B4 hB5 K5 B5 hB6 K6 B6 W7
  go_wp2_with (first
    | (go_at_call 16; (with_reducible refine (add_ex D7).mono ?_); rintro e w8 ⟨rfl, D8, W8⟩; have B8 := W8.below B7 G6)
    | (go_at_call 18; (with_reducible refine (cas1_ex D8).mono ?_); rintro e w9 ⟨rfl, D9, W9⟩; have B9 := W9.below B8 G6)
    | (go_at_call 18; (with_reducible refine (cas2_ex D9).mono ?_); rintro e w10 ⟨rfl, D10, W10⟩; have B10 := W10.below B9 G6)
    | (go_at_call 13; (with_reducible refine (load_ex D10).mono ?_); rintro e w11 ⟨rfl, hw11⟩; rw [hw11]; clear hw11 w11)
    | (go_at_call 11; (with_reducible refine (len_ex D10).mono ?_); rintro e w12 ⟨rfl, hw12⟩; rw [hw12]; clear hw12 w12))
  go_ret
  exact ⟨rfl, B10⟩
end Go.Proofs.Ytpmhajpjjihndaa
