/- A search's memory: the hops, the marks and the row of vertices. -/
import Derived.Test.YthpmappcfgiggaaBfs
import Derived.Test.YthpmappcfgiggaaCutlaw
import Derived.Deep.AppendLies
namespace Go.Proofs.Ythpmappcfgiggaa
open Go.RowKit
set_option maxRecDepth 100000

def hvs (P : List HopN) : Array Value := (P.flatMap hopCells).toArray
theorem hvs_size (P : List HopN) : (hvs P).size = P.length * 2 := by
  unfold hvs
  rw [List.size_toArray, flat_len (hop_len P)]
theorem hvs_at {P : List HopN} {v : Nat} {h : HopN} (hv : P[v]? = some h) : (hvs P)[v * 2]? = some (.int .i64 h.arc) ∧ (hvs P)[v * 2 + 1]? = some (.bool h.back) := by
  unfold hvs
  simp only [List.getElem?_toArray]
  exact ⟨flat_at (hop_len P) hv (j := 0) rfl, flat_at (hop_len P) hv (j := 1) rfl⟩
theorem hops_setOne : ∀ (P : List HopN) (v : Nat) (h : HopN), v < P.length → ((P.flatMap hopCells).set (v * 2) (.int .i64 h.arc)).set (v * 2 + 1) (.bool h.back) = (P.set v h).flatMap hopCells
  | [], v, h, hv => by simp at hv
  | x :: r, 0, h, hv => by simp [hopCells]
  | x :: r, v + 1, h, hv => by
    have ih := hops_setOne r v h (by simpa using hv)
    simp only [List.set_cons_succ, List.flatMap_cons, ← ih]
    rw [show (v + 1) * 2 = (hopCells x).length + v * 2 from by simp [hopCells]; omega, Nat.add_assoc, set_app, set_app]
theorem hvs_set {P : List HopN} {v : Nat} (h : HopN) (hv : v < P.length) : ((hvs P).setIfInBounds (v * 2) (.int .i64 h.arc)).setIfInBounds (v * 2 + 1) (.bool h.back) = hvs (P.set v h) := by
  unfold hvs
  rw [List.setIfInBounds_toArray, List.setIfInBounds_toArray, hops_setOne P v h hv]
theorem hops_made (n : Nat) : madeCells (Value.agg #[.int .i64 0, .bool false]).cells (n * 2) = hvs (List.replicate n ⟨0, false⟩) := by
  apply Array.ext
  · rw [size_madeCells, hvs_size]; simp
  · intro i h1 h2
    rw [size_madeCells] at h1
    have hi : (List.replicate n (⟨0, false⟩ : HopN))[i / 2]? = some ⟨0, false⟩ := by
      rw [List.getElem?_replicate, if_pos (by omega)]
    have hz : (Value.agg #[.int .i64 0, .bool false]).cells = #[.int .i64 0, .bool false] := rfl
    obtain ⟨g1, g2⟩ := hvs_at hi
    have hm : i % 2 = 0 ∨ i % 2 = 1 := by omega
    have hL : (hvs (List.replicate n (⟨0, false⟩ : HopN)))[i]? = some (hvs (List.replicate n (⟨0, false⟩ : HopN)))[i] := Array.getElem?_eq_getElem h2
    rcases hm with hm | hm
    · rw [show i / 2 * 2 = i by omega, hL] at g1
      injection g1 with g1
      rw [g1]
      simp [madeCells, hz, hm]
    · rw [show i / 2 * 2 + 1 = i by omega, hL] at g2
      injection g2 with g2
      rw [g2]
      simp [madeCells, hz, hm]
theorem Blk.hops {w : World} {g n : Nat} {P : List HopN} (h : Blk w g 62 (hvs P)) (hl : P.length = n) (hn : n ≤ maxLen) : Hops w w.heap.size (some ⟨g, 0, none⟩) n P :=
  RdBy.of_own (base := 0) hl (hop_len P) (own_of_block h (Nat.zero_le _) hn (by rw [flat_len (hop_len P), hl]))

theorem row_on {W W' : World} {base n c : Nat} {e : TypeId} {size : Nat} {A : Option Addr} {xs : List Value} (h : W.ownsRow base e size (.slice A n c) n xs) (hb : Below W.heap.size W W') : W'.ownsRow base e size (.slice A n c) n xs :=
  h.kept (⟨hb.os, hb.tape, hb.output, hb.size, fun i hi _ => hb.block i hi⟩ : W.grownBy W' none) (by cases A <;> simp [Value.ownBlock])
/-- What a search has written, z the first block of its own. -/
structure Hunt (W0 : World) (z : Nat) (K : List Bool) (P : List HopN) (xs : List Int) (A : Option Addr) (m c : Nat) (W : World) : Prop where
  bel : Below z W0 W
  hP : Blk W z 62 (hvs P)
  hK : Blk W (z + 1) 4 (bvs K)
  row : W.ownsRow (z + 1 + 1) 3 1 (.slice A m c) m (xs.flatMap intCells)
section
variable {W0 W W' : World} {z : Nat} {K : List Bool} {P : List HopN} {xs : List Int} {A : Option Addr} {m c : Nat}
theorem Hunt.len (h : Hunt W0 z K P xs A m c W) : xs.length = m := by
  have := h.row.1
  rw [flat_len (int_len xs)] at this
  omega
theorem Hunt.ints (h : Hunt W0 z K P xs A m c W) : Ints W W.heap.size A m xs := ints_own h.row h.len
theorem Hunt.drewN (h : Hunt W0 z K P xs A m c W) (n : Nat) : Hunt W0 z K P xs A m c (W.drewN n) := ⟨below_drewN' h.bel n, h.hP.drewN n, h.hK.drewN n, h.row⟩
theorem Hunt.drew (h : Hunt W0 z K P xs A m c W) : Hunt W0 z K P xs A m c W.drew := ⟨h.bel.drew, h.hP.drew, h.hK.drew, h.row⟩
theorem Hunt.on (h : Hunt W0 z K P xs A m c W) (hb : Below W.heap.size W W') : Hunt W0 z K P xs A m c W' :=
  ⟨h.bel.trans (hb.mono (Nat.le_of_lt h.hP.lt)), h.hP.below hb h.hP.lt, h.hK.below hb h.hK.lt, row_on h.row hb⟩
theorem Hunt.alloc (h : Hunt W0 z K P xs A m c W) (o : Obj) : Hunt W0 z K P xs A m c (W.alloc o) := h.on (below_alloc o)
/-- A vertex is marked. -/
theorem Hunt.mark (h : Hunt W0 z K P xs A m c W) (v : Nat) (b : Bool) : Hunt W0 z (K.set v b) P xs A m c (W.setCell ⟨z + 1, v, none⟩ (.bool b)) :=
  ⟨h.bel.setCell (Nat.le_succ _) _, h.hP.far (Nat.ne_of_lt (Nat.lt_succ_self _)) _, h.hK.bset v b, own_far h.row (own_ne h.row h.hK (by decide)) _⟩
/-- The hop by which it was met. -/
theorem Hunt.hop (h : Hunt W0 z K P xs A m c W) {v : Nat} (g : HopN) (hv : v < P.length) : Hunt W0 z K (P.set v g) xs A m c ((W.setCell ⟨z, v * 2, none⟩ (.int .i64 g.arc)).setCell ⟨z, v * 2 + 1, none⟩ (.bool g.back)) :=
  ⟨(h.bel.setCell (Nat.le_refl _) _).setCell (Nat.le_refl _) _, by rw [← hvs_set g hv]; exact (h.hP.set _ _).set _ _, (h.hK.far (Nat.succ_ne_self _) _).far (Nat.succ_ne_self _) _,
    own_far (own_far h.row (own_ne h.row h.hP (by decide)) _) (own_ne h.row h.hP (by decide)) _⟩
/-- The row grows. -/
theorem Hunt.grow {A' : Option Addr} {c' : Nat} {v : Int} (h : Hunt W0 z K P xs A m c W) (hg : W.grownBy W' (Value.slice A m c).ownBlock) (ho : W'.ownsRow (z + 1 + 1) 3 1 (.slice A' (m + 1) c') (m + 1) (xs.flatMap intCells ++ [.int .i64 v])) : Hunt W0 z K P (xs ++ [v]) A' (m + 1) c' W' :=
  ⟨below_grown h.bel hg h.row (by omega) (Nat.le_of_lt h.hP.lt), h.hP.grownO hg h.row (by decide), h.hK.grownO hg h.row (by decide), by rw [List.flatMap_append]; simpa [intCells] using ho⟩
end

/-- Numbers that are all 0 are a flow. -/
theorem ex_zeros (l : List ArcN) (u : Int) : ∀ n, exOf l (List.replicate n 0) u = 0 := by
  induction l with
  | nil => intro n; cases n <;> simp [exOf]
  | cons a l ih =>
    intro n
    cases n with
    | zero => simp [exOf]
    | succ n => simp [List.replicate_succ, exOf, dlt, ih]
theorem flow_zeros {l : List ArcN} (h : NonNeg l) {n : Nat} (hn : l.length = n) : FlowIn l (List.replicate n 0) := by
  refine ⟨by simp [hn], fun i a x ha hx => ?_⟩
  rw [List.getElem?_replicate] at hx
  split at hx
  · injection hx with hx
    subst hx
    exact ⟨Int.le_refl _, h a (mem_at ha)⟩
  · cases hx
theorem right_zeros (N : Nat) (S T : Int) (l : List ArcN) (n : Nat) : RightIn N S T l (List.replicate n 0) := fun _ _ => .inr (.inr (ex_zeros l _ n))

end Go.Proofs.Ythpmappcfgiggaa
