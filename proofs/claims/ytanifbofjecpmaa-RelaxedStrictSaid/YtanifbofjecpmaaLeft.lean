/- The statements' own helper of layer 5: Left. -/
import Derived.Test.YtanifbofjecpmaaFit
import Derived.Test.YtanifbofjecpmaaSomes
import Derived.Deep.RegionHeld3
namespace Go.Proofs.Ytanifbofjecpmaa
open Go.RowKit
set_option maxRecDepth 100000

/-- A residual network, and what is left of its residual arcs, are answered. -/
def RetLeft (N : Nat) (S T : Int) (l : List ArcN) (L : List Int) (w : World) (e : Ending) (w' : World) : Prop :=
  ∃ (K : CsrS) (F H R C Ai : List Int) (B : List Bool) (A : Option Addr) (c : Nat) (f X : List Int), e = .returned (.tuple #[csrW N (firstOf l N) S T K, .slice A (firstOf l N) c]) ∧ CsrL N l F H R C Ai B ∧
    CsrIn w' w'.heap.size N (firstOf l N) K F H R C Ai B ∧ Ints w' w'.heap.size A (firstOf l N) X ∧ ResOf l f (firstOf l N) X ∧ WithinX l L l.length f ∧ Below w.heap.size w w'

theorem left_keep {W0 W : World} {g b n c : Nat} {N S T : Int} {A : Option Addr} {v0 v1 v2 v3 v4 v5 v6 v7 v8 : Value} (K : Blk W0 g 24 #[.int .i64 N, .int .i64 S, .int .i64 T, .slice A n c]) (C : Blk W0 b 32 #[v0, v1, v2, v3, v4, v5, v6, v7, v8]) (hB : Below W0.heap.size W0 W) :
    Below W0.heap.size W0 W ∧ W.cell? ⟨g, 0, none⟩ = some (.int .i64 N) ∧ W.cell? ⟨g, 1, none⟩ = some (.int .i64 S) ∧ W.cell? ⟨g, 2, none⟩ = some (.int .i64 T) ∧ W.cell? ⟨g, 3, none⟩ = some (.slice A n c) ∧
      W.cell? ⟨b, 0, none⟩ = some v0 ∧ W.cell? ⟨b, 1, none⟩ = some v1 ∧ W.cell? ⟨b, 2, none⟩ = some v2 ∧ W.cell? ⟨b, 3, none⟩ = some v3 ∧ W.cell? ⟨b, 4, none⟩ = some v4 ∧ W.cell? ⟨b, 5, none⟩ = some v5 ∧ W.cell? ⟨b, 6, none⟩ = some v6 ∧ W.cell? ⟨b, 7, none⟩ = some v7 ∧ W.cell? ⟨b, 8, none⟩ = some v8 :=
  have k := (K.below hB K.lt).at4
  have q := (C.below hB C.lt).at9
  ⟨hB, k.1, k.2.1, k.2.2.1, k.2.2.2, q.1, q.2.1, q.2.2.1, q.2.2.2.1, q.2.2.2.2.1, q.2.2.2.2.2.1, q.2.2.2.2.2.2.1, q.2.2.2.2.2.2.2.1, q.2.2.2.2.2.2.2.2⟩


end Go.Proofs.Ytanifbofjecpmaa
