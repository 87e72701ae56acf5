/- Layer 1: conditions, Sum, Check; a net in new memory. -/
import Derived.Test.YtanifbofjecpmaaRows
import Derived.Test.YtanifbofjecpmaaGround
import Derived.WalkKit
import Derived.WalkSpells
import Derived.WalkLawsBesides
import Derived.Laws.EntriesVeiled
/-! Layer 1: what the conditions of a net come to. -/
namespace Go.Proofs.Ytanifbofjecpmaa
open Go.RowKit

theorem below_alloc {w : World} (o : Obj) : Below w.heap.size w (w.alloc o) := (Below.refl _ _).alloc (Nat.le_refl _) o




theorem bcell {W w1 : World} (hb : Below W.heap.size W w1) : (∀ b o, b < W.heap.size → w1.cell? ⟨b, o, none⟩ = W.cell? ⟨b, o, none⟩) ∧ (∀ b o, b < W.heap.size → w1.frozen? ⟨b, o, none⟩ = W.frozen? ⟨b, o, none⟩) :=
  ⟨fun b o h => hb.cell (p := ⟨b, o, none⟩) h, fun b o h => hb.frozen (p := ⟨b, o, none⟩) h⟩
theorem sizes {w W w1 : World} {o : Obj} (h : W = w.alloc o) (hb : Below W.heap.size W w1) : w.heap.size < w1.heap.size := by
  subst h; have := hb.size; simp at this; omega
theorem below_step {w W w1 : World} (h : Below w.heap.size w W) (hb : Below W.heap.size W w1) : Below w.heap.size w w1 := h.trans (hb.mono h.size)



end Go.Proofs.Ytanifbofjecpmaa

/-! Layer 1: capacities and their sum; Check. -/
namespace Go.Proofs.Ytanifbofjecpmaa
open Go.RowKit

theorem ret_int_bool {a b : Int} {x y : Bool} (h : a = b) (h' : x = y) : Ending.returned (.tuple #[.int .i64 a, .bool x]) = .returned (.tuple #[.int .i64 b, .bool y]) := by rw [h, h']







end Go.Proofs.Ytanifbofjecpmaa

/-! Layer 1: Check. -/
namespace Go.Proofs.Ytanifbofjecpmaa
open Go.RowKit


theorem ret_i64 {a b : Int} (h : a = b) : Ending.returned (.int .i64 a) = .returned (.int .i64 b) := by rw [h]


end Go.Proofs.Ytanifbofjecpmaa

/-! Words and small laws that every layer uses: a net in new memory, rows just laid. -/
namespace Go.Proofs.Ytanifbofjecpmaa
open Go.RowKit

theorem arc_info : (Try.prog.info? 68).map (fun i => (i.zero, i.size, i.bytes)) = some (some (.agg #[.int .i64 0, .int .i64 0, .int .i64 0]), 3, 24) := by kernel_rfl
theorem int_info : (Try.prog.info? 3).map (fun i => (i.zero, i.size, i.bytes)) = some (some (.int .i64 0), 1, 8) := by kernel_rfl

/-- A net in new memory is answered. -/
def RetNet (N S T : Int) (l : List ArcN) (w : World) (e : Ending) (w' : World) : Prop :=
  ∃ (A : Option Addr) (n c : Nat), e = .returned (.agg #[.int .i64 N, .int .i64 S, .int .i64 T, .slice A n c]) ∧
    w'.ownsRow w.heap.size 68 3 (.slice A n c) n (l.flatMap arcCells) ∧ l.length = n ∧ Below w.heap.size w w'

theorem bcell_lt {g : Nat} {W w1 : World} (hb : Below g W w1) : (∀ b o, b < g → w1.cell? ⟨b, o, none⟩ = W.cell? ⟨b, o, none⟩) ∧ (∀ b o, b < g → w1.frozen? ⟨b, o, none⟩ = W.frozen? ⟨b, o, none⟩) :=
  ⟨fun b o h => hb.cell (p := ⟨b, o, none⟩) h, fun b o h => hb.frozen (p := ⟨b, o, none⟩) h⟩
theorem below_of_grown {w w' : World} {g : Nat} (h : w.grownBy w' (some g)) (hg : g ≤ w.heap.size) : Below g w w' :=
  ⟨h.os, h.tape, h.output, h.size, fun k hk => h.block k (by omega) (fun e => by injection e with e; omega)⟩

theorem heap_new_at {w : World} {o : Obj} {g : Nat} (h : w.heap.size = g) : (w.alloc o).heap[g]? = some o := by
  subst h
  show (w.heap.push o)[w.heap.size]? = some o
  simp

/-- A row that was just laid. -/
theorem arcs_new {w : World} {g n : Nat} {l : List ArcN} (h : w.heap.size = g) (hl : l.length = n) (hn : n ≤ maxLen) : Arcs (w.alloc (.cells (l.flatMap arcCells).toArray 68)) (w.alloc (.cells (l.flatMap arcCells).toArray 68)).heap.size (some ⟨g, 0, none⟩) n l :=
  RdBy.of_own (base := 0) hl (arc_len l) (own_of_block (Blk.new h) (Nat.zero_le _) hn (by rw [flat_len (arc_len l), hl]))
theorem ints_new {w : World} {g n : Nat} {l : List Int} (h : w.heap.size = g) (hl : l.length = n) (hn : n ≤ maxLen) : Ints (w.alloc (.cells (l.flatMap intCells).toArray 3)) (w.alloc (.cells (l.flatMap intCells).toArray 3)).heap.size (some ⟨g, 0, none⟩) n l :=
  RdBy.of_own (base := 0) hl (int_len l) (own_of_block (Blk.new h) (Nat.zero_le _) hn (by rw [flat_len (int_len l), hl]))
theorem arcs_own {w : World} {base n c : Nat} {A : Option Addr} {l : List ArcN} (h : w.ownsRow base 68 3 (.slice A n c) n (l.flatMap arcCells)) (hl : l.length = n) : Arcs w w.heap.size A n l := RdBy.of_own hl (arc_len l) h
theorem ints_own {w : World} {base n c : Nat} {A : Option Addr} {l : List Int} (h : w.ownsRow base 3 1 (.slice A n c) n (l.flatMap intCells)) (hl : l.length = n) : Ints w w.heap.size A n l := RdBy.of_own hl (int_len l) h
theorem RdBy.on {α : Type} {f : α → List Value} {size : Nat} {w w' : World} {n : Nat} {A : Option Addr} {l : List α} (h : RdBy f size w w.heap.size A n l) (hb : Below w.heap.size w w') : RdBy f size w' w'.heap.size A n l := (h.below hb).more hb.size
theorem RdBy.onAlloc {α : Type} {f : α → List Value} {size : Nat} {w : World} {n : Nat} {A : Option Addr} {l : List α} (h : RdBy f size w w.heap.size A n l) (o : Obj) : RdBy f size (w.alloc o) (w.alloc o).heap.size A n l := h.on (below_alloc o)

/-- A net that stays while new memory is laid. -/
theorem room_keep {W0 W : World} {g n c : Nat} {N S T : Int} {A : Option Addr} (K : Blk W0 g 24 #[.int .i64 N, .int .i64 S, .int .i64 T, .slice A n c]) (hB : Below W0.heap.size W0 W) :
    Below W0.heap.size W0 W ∧ W.cell? ⟨g, 0, none⟩ = some (.int .i64 N) ∧ W.cell? ⟨g, 1, none⟩ = some (.int .i64 S) ∧ W.cell? ⟨g, 2, none⟩ = some (.int .i64 T) ∧ W.cell? ⟨g, 3, none⟩ = some (.slice A n c) :=
  ⟨hB, (K.below hB K.lt).at4⟩

end Go.Proofs.Ytanifbofjecpmaa
