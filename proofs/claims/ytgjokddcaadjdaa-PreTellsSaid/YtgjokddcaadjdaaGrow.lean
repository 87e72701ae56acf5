/- What grows, what is its own: for loops over functions. -/
import Derived.Test.YtgjokddcaadjdaaGround
import Derived.RangeFuncNested
import Derived.RangeFuncBound
import Derived.RangeFuncCalls
import Derived.RangeFuncLeaves
import Derived.RangeFuncBox
import Derived.Shelf.Abstract
import Derived.Shelf.RegionOpen
import Derived.WalkKit
import Derived.OwnWalkIn
import Derived.TacticsInMore
import Derived.LoopNIn
import Derived.LoopIn
import Derived.Sort.QuietIn
namespace Go.Proofs.Ytgjokddcaadjdaa
open Go.RowKit

theorem grown_drewN (W : World) (k : Nat) : W.grownBy (W.drewN k) none := ⟨rfl, rfl, rfl, Nat.le_refl _, fun _ _ _ => rfl⟩
theorem blk_own {β : Type} {g : Nat} {t : TypeId} (f : β → Array Value) : Own (fun s W => Blk W g t (f s)) := fun s X Y row hs hg hrow =>
  (hg.block g (Blk.lt hs) (fun e => by
    obtain ⟨o, ho, hc⟩ := hrow g e.symm
    unfold Blk at hs
    rw [hs] at ho
    injection ho with ho
    subst ho
    cases hc)).trans hs

end Go.Proofs.Ytgjokddcaadjdaa
