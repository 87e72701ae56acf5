/- Layer 3: Within, Excess, Right, Value. -/
import Derived.Test.YtanifbofjecpmaaCells
import Derived.Test.YtanifbofjecpmaaFacts
import Derived.RegionTactic
import Derived.BigQuiet
import Derived.Deep.RegionHeld3
/-! Layer 3: Within, Excess. -/
namespace Go.Proofs.Ytanifbofjecpmaa
open Go.RowKit

theorem retb {b r : Bool} (h : b = r) : Ending.returned (.bool b) = .returned (.bool r) := by rw [h]


end Go.Proofs.Ytanifbofjecpmaa

/-! Layer 3: Excess. -/
namespace Go.Proofs.Ytanifbofjecpmaa
open Go.RowKit

theorem exList_zero (N : Nat) (l : List ArcN) (F : List Int) : exList N (l.take 0) (F.take 0) = List.replicate N 0 := by
  apply List.ext_getElem?
  intro i
  by_cases h : i < N
  · rw [exList_at _ _ h]; simp [exOf, h]
  · rw [List.getElem?_eq_none (by rw [exList_len]; omega), List.getElem?_eq_none (by simp; omega)]
theorem ex_set {N k f t : Nat} {l : List ArcN} {F : List Int} {c x : Int} (hl : F.length = l.length) (ha : l[k]? = some ⟨(f : Int), (t : Int), c⟩) (hx : F[k]? = some x) (hf : f < N) (ht : t < N) :
    ((exList N (l.take k) (F.take k)).set t (exOf (l.take k) (F.take k) t + x)).set f (exOf (l.take k) (F.take k) f + (if f = t then x else 0) - x) = exList N (l.take (k + 1)) (F.take (k + 1)) := by
  apply List.ext_getElem?
  intro i
  by_cases h : i < N
  · rw [exList_at _ _ h, exOf_take hl ha hx]
    have hlen := exList_len N (l.take k) (F.take k)
    have e0 := exList_at (l.take k) (F.take k) h
    by_cases ei : f = i
    · subst ei
      rw [List.getElem?_set_self (by simp; omega)]
      congr 1
      simp only [dlt]
      split
      · rename_i e; subst e; simp
      · rw [if_neg (by omega), if_pos trivial]; omega
    · rw [List.getElem?_set_ne ei]
      by_cases et : t = i
      · subst et
        rw [List.getElem?_set_self (by omega)]
        congr 1
        simp only [dlt]
        rw [if_pos trivial, if_neg (by omega)]; omega
      · rw [List.getElem?_set_ne et, e0]
        congr 1
        simp only [dlt]
        rw [if_neg (by omega), if_neg (by omega)]; omega
  · rw [List.getElem?_eq_none (by simp [exList_len]; omega), List.getElem?_eq_none (by rw [exList_len]; omega)]
theorem ex_set_at {N k f t : Nat} {l : List ArcN} {F : List Int} {x : Int} (hf : f < N) :
    ((exList N (l.take k) (F.take k)).set t (exOf (l.take k) (F.take k) t + x))[f]? = some (exOf (l.take k) (F.take k) f + (if f = t then x else 0)) := by
  by_cases e : t = f
  · subst e
    rw [List.getElem?_set_self (by rw [exList_len]; omega), if_pos rfl]
  · rw [List.getElem?_set_ne e, exList_at _ _ hf, if_neg (fun h => e h.symm), Int.add_zero]
theorem ex_end {N k n : Nat} {l : List ArcN} {F : List Int} (hl : l.length = n) (hF : F.length = l.length) (hk : ¬ k < n) : exList N (l.take k) (F.take k) = exList N l F := by
  rw [List.take_of_length_le (by omega), List.take_of_length_le (by omega)]
/-- No number on the way is too great. -/
theorem ex_small {l : List ArcN} {F : List Int} {k : Nat} {a : ArcN} {x : Int} (h : FlowIn l F) (ht : total l ≤ maxSum) (ha : l[k]? = some a) (hx : F[k]? = some x) (u : Int) :
    -4611686018427387904 ≤ exOf (l.take k) (F.take k) u ∧ exOf (l.take k) (F.take k) u ≤ 4611686018427387904 - x ∧ 0 ≤ x ∧ x ≤ 4611686018427387904 := by
  have h1 := exOf_bound (h.take k) u
  have h2 := h.ent k a x ha hx
  have h3 := total_take h.nonneg k
  have h4 := total_take h.nonneg (k + 1)
  rw [take_at ha, total_append] at h4
  simp only [total] at h4
  unfold maxSum at ht
  have h5 := total_nonneg (l := l.take k) fun a ha => h.nonneg a (List.mem_of_mem_take ha)
  omega

/-- Numbers in new memory are answered. -/
def RetLongs (n : Nat) (X : List Int) (w : World) (e : Ending) (w' : World) : Prop :=
  ∃ g, e = .returned (.tuple #[.slice (some ⟨g, 0, none⟩) n n, .int .i64 0]) ∧ w.heap.size ≤ g ∧ Blk w' g 2 (ivs X) ∧ X.length = n ∧ Below w.heap.size w w'



end Go.Proofs.Ytanifbofjecpmaa

/-! Layer 3: everyExcess, Right, Value. -/
namespace Go.Proofs.Ytanifbofjecpmaa
open Go.RowKit

def rightB (S T : Int) (v : Nat) (x : Int) : Bool := decide ((v : Int) = S ∨ (v : Int) = T ∨ x = 0)







end Go.Proofs.Ytanifbofjecpmaa
