/- Plain facts for FlowSends, FlowWays. -/
import Derived.Test.YtmmafibeciaghaaWayf
import Derived.Test.YtmmafibeciaghaaLawp
import Derived.Test.YtmmafibeciaghaaHops
namespace Go.Proofs.Ytmmafibeciaghaa
open Go.RowKit

/-- The way back, from the end on. -/
theorem back_step {H : List HopN} {k : Nat} {h : HopN} (hh : H[k]? = some h) : backWay (H.drop k) = backWay (H.drop (k + 1)) ++ [⟨h.arc, !h.back⟩] := by
  rw [drop_at hh, backWay_cons]
theorem back_none (H : List HopN) : backWay (H.drop H.length) = [] := by simp [backWay]
theorem backWay_len (H : List HopN) : (backWay H).length = H.length := by simp [backWay]
theorem ex_sends {N v x : Nat} {l : List ArcN} {F : List Int} {H : List HopN} (hl : F.length = l.length) (hw : Way l v H x) (hv : v < N) (hx : x < N) (d : Int) :
    ((exList N l F).set v (exOf l F v - d)).set x (exOf l F x - (if v = x then d else 0) + d) = exList N l (sent F H d) := by
  apply List.ext_getElem?
  intro i
  have hlen := exList_len N l F
  by_cases h : i < N
  · rw [exList_at _ _ h, ex_sent hl hw]
    by_cases ex : x = i
    · subst ex
      rw [List.getElem?_set_self (by simp; omega)]
      congr 1
      rw [if_pos rfl]
      by_cases e : v = x
      · subst e; simp
      · rw [if_neg e, if_neg (by omega)]; omega
    · rw [List.getElem?_set_ne ex]
      by_cases ev : v = i
      · subst ev
        rw [List.getElem?_set_self (by omega), if_neg (by omega), if_pos rfl]
        congr 1
        omega
      · rw [List.getElem?_set_ne ev, exList_at _ _ h, if_neg (by omega), if_neg (by omega)]
        congr 1
        omega
  · rw [List.getElem?_eq_none (by simp; omega), List.getElem?_eq_none (by rw [exList_len]; omega)]
theorem ex_sends_at {N v x : Nat} {l : List ArcN} {F : List Int} (hx : x < N) (d : Int) : ((exList N l F).set v (exOf l F v - d))[x]? = some (exOf l F x - (if v = x then d else 0)) := by
  by_cases e : v = x
  · subst e
    rw [List.getElem?_set_self (by rw [exList_len]; omega), if_pos rfl]
  · rw [List.getElem?_set_ne e, exList_at _ _ hx, if_neg e, Int.sub_zero]

/-- What hops made, from whatever vertex. -/
theorem way_is {l : List ArcN} {v x : Int} {H : List HopN} (h : Way l v H x) : IsWay l H := .inr ⟨v, x, h⟩
theorem hops_keep {W0 W : World} {g n c : Nat} {N S T : Int} {A : Option Addr} (K : Blk W0 g 24 #[.int .i64 N, .int .i64 S, .int .i64 T, .slice A n c]) (hB : Below W0.heap.size W0 W) :
    Below W0.heap.size W0 W ∧ W.cell? ⟨g, 0, none⟩ = some (.int .i64 N) ∧ W.cell? ⟨g, 1, none⟩ = some (.int .i64 S) ∧ W.cell? ⟨g, 2, none⟩ = some (.int .i64 T) ∧ W.cell? ⟨g, 3, none⟩ = some (.slice A n c) :=
  ⟨hB, (K.below hB K.lt).at4⟩
theorem hop_keep {W0 W : World} {g o : Nat} {x : HopN} (hg : g < W0.heap.size) (c0 : W0.cell? ⟨g, o, none⟩ = some (.int .i64 x.arc)) (c1 : W0.cell? ⟨g, o + 1, none⟩ = some (.bool x.back)) (hB : Below W0.heap.size W0 W) :
    Below W0.heap.size W0 W ∧ W.cell? ⟨g, o, none⟩ = some (.int .i64 x.arc) ∧ W.cell? ⟨g, o + 1, none⟩ = some (.bool x.back) :=
  ⟨hB, (hB.cell (p := ⟨g, o, none⟩) hg).trans c0, (hB.cell (p := ⟨g, o + 1, none⟩) hg).trans c1⟩
theorem hop_src' (W : World) (h : HopN) : ∀ q z, ([h].flatMap hopCells)[q]? = some z → ((W.alloc (.cells (hopCells h).toArray 43)).drew).cell? ((⟨W.heap.size, 0, none⟩ : Addr).add q) = some z := fun q z hz => hop_src W h q z hz

end Go.Proofs.Ytmmafibeciaghaa
