/- Layer 2: Len, Tail. -/
import Derived.Test.YtbmndghgmndgmaaMake
import Derived.Deep.QuietTactic
import Derived.BigQuiet
namespace Go.Proofs.Ytbmndghgmndgmaa
open Go.RowKit

set_option maxHeartbeats 400000 in
theorem len_any (N M : Nat) (S T : Int) (gF gH gR gC gA gB : Nat) (w : World) :
    Calls Try.prog 9 #[csrV N M S T gF gH gR gC gA gB] w fun e w' => e = .returned (.int .i64 M) ∧ Below w.heap.size w w' := by
  go_enter Try.func9, Try.ntmps9
  go_wp2
  go_ret
  exact ⟨rfl, below_alloc _⟩

set_option maxHeartbeats 1000000 in
theorem tail_at (N : Nat) (S T : Int) (gF gH gR gC gA gB : Nat) (l : List ArcN) (i p : Nat) (v u : Int) (b : Bool) (c : Int) (w : World)
    (hC : CsrAt w w.heap.size N l gF gH gR gC gA gB) (hE : EndsIn N l) (hI : Inc l i v u b c) (hp : posOf l i v = p) :
    Calls Try.prog 10 #[csrV N (firstOf l N) S T gF gH gR gC gA gB, .int .i64 p] w fun e w' => e = .returned (.tuple #[.int .i64 v, .bool true]) ∧ Below w.heap.size w w' := by
  obtain ⟨c', hI'⟩ := hI.flip
  have p1 := pos_lt hI hE
  have p2 := pos_lt hI' hE
  obtain ⟨e1, e2, e3, e4, e5⟩ := hC.ent _ _ _ _ _ hI
  obtain ⟨d1, d2, d3, d4, d5⟩ := hC.ent _ _ _ _ _ hI'
  obtain ⟨l1, l2, l3, l4, l5, l6⟩ := hC.lt
  rw [hp] at *
  generalize posOf l i u = q at *
  generalize firstOf l N = M at *
  have x1 := fun W => isIndex_any (p : Int) (M : Int) W
  have x2 := fun W => isIndex_any (q : Int) (M : Int) W
  rw [decide_eq_true (show 0 ≤ (p : Int) ∧ (p : Int) < (M : Int) by omega)] at x1
  rw [decide_eq_true (show 0 ≤ (q : Int) ∧ (q : Int) < (M : Int) by omega)] at x2
  have HX1 := Lib.hid x1; have HX2 := Lib.hid x2
  clear x1 x2 hC e1 e3 e4 e5 d2 d3 d4 d5
  go_enter Try.func10, Try.ntmps10
  go_wp2_with fail
  go_quiet (first | (go_at_call 22; with_reducible exact Calls.quiet_of_same (HX1.out _)) | (go_at_call 22; with_reducible exact Calls.quiet_of_same (HX2.out _)))
  go_wp2_with fail
  go_quiet (fail)
  go_wp2_with fail
  go_ret2
  exact ⟨rfl, below_drewN' (below_drewN' (below_alloc _) _) _⟩

end Go.Proofs.Ytbmndghgmndgmaa
