/- DistTurns: the walk. -/
import Derived.Test.YtnhfdmfciddmaaaDawake
import Derived.Test.YtnhfdmfciddmaaaLex
import Derived.Deep.RegionHeld3
namespace Go.Proofs.Ytnhfdmfciddmaaa
open Go.RowKit
set_option maxRecDepth 100000

/-- What is left, told of the other ones. -/
def backTo (X : List Int) (rv : Nat → Nat) (M k : Nat) : List Int := tab M fun i => if i < k then (X[rv i]?).getD 0 else 0
theorem backTo_zero (X : List Int) (rv : Nat → Nat) (M : Nat) : List.replicate M 0 = backTo X rv M 0 := by
  refine tab_ext (by simp) fun i hi => ?_
  rw [List.getElem?_replicate, if_pos hi, if_neg (by omega)]
theorem backTo_step {X : List Int} {rv : Nat → Nat} {M k : Nat} {x : Int} (hx : X[rv k]? = some x) : (backTo X rv M k).set k x = backTo X rv M (k + 1) := by
  unfold backTo
  rw [tab_set]
  refine tab_congr fun i hi => ?_
  by_cases e : i = k
  · subst e; rw [if_pos rfl, if_pos (by omega), hx]; rfl
  · rw [if_neg e]
    by_cases h : i < k
    · rw [if_pos h, if_pos (by omega)]
    · rw [if_neg h, if_neg (by omega)]
theorem back_opn {X : List Int} {rv : Nat → Nat} {M a : Nat} (ha : a < M) : opn (backTo X rv M M) a = opn X (rv a) := by
  unfold opn backTo
  rw [tab_at ha, if_pos ha]
  rfl

/-- What the walk reads of a residual network laid in a cell stays. -/
theorem csr_keep {w W : World} {b : Nat} {t : TypeId} {v0 v1 v2 v3 v4 v5 v6 v7 v8 : Value} (C : Blk w b t #[v0, v1, v2, v3, v4, v5, v6, v7, v8]) (B : Below w.heap.size w W) :
    Below w.heap.size w W ∧ W.cell? ⟨b, 0, none⟩ = some v0 ∧ W.cell? ⟨b, 1, none⟩ = some v1 ∧ W.cell? ⟨b, 2, none⟩ = some v2 ∧ W.cell? ⟨b, 3, none⟩ = some v3 ∧ W.cell? ⟨b, 4, none⟩ = some v4 ∧ W.cell? ⟨b, 5, none⟩ = some v5 ∧ W.cell? ⟨b, 6, none⟩ = some v6 ∧ W.cell? ⟨b, 7, none⟩ = some v7 ∧ W.cell? ⟨b, 8, none⟩ = some v8 :=
  ⟨B, (C.below B C.lt).at9⟩
theorem lk_same {M : Nat} {hd rv : Nat → Nat} {p q : Nat → Bool} (h : ∀ a, a < M → p a = q a) {v u : Nat} : Lk M hd rv p v u ↔ Lk M hd rv q v u :=
  ⟨lk_mono fun a ha hp => by rw [← h a ha]; exact hp, lk_mono fun a ha hp => by rw [h a ha]; exact hp⟩
theorem IsDist.congr {R R' : Nat → Nat → Prop} {N t : Nat} {d : Nat → Nat} (h : IsDist R N t d) (hR : ∀ u v, R u v ↔ R' u v) : IsDist R' N t d :=
  ⟨h.le, h.zero, fun u v hu hv k => h.step u v hu hv ((hR u v).2 k), fun v hv h1 h2 => by obtain ⟨u, k1, k2, k3⟩ := h.near v hv h1 h2; exact ⟨u, k1, (hR u v).1 k2, k3⟩⟩
theorem dist_flip {N M t : Nat} {fst hd rv : Nat → Nat} {p : Nat → Bool} {d : Nat → Nat} (hG : Grid N M fst hd rv) (h : IsDist (Lk M hd rv fun a => p (rv a)) N t d) : IsDist (fun u v => Lk M hd rv p v u) N t d :=
  h.congr fun _ _ => lk_flip hG fun _ _ => rfl


end Go.Proofs.Ytnhfdmfciddmaaa
