/- What From and To answer, plainly. -/
import Derived.Test.YthpmappcfgiggaaCutlaw
namespace Go.Proofs.Ythpmappcfgiggaa
open Go.RowKit
set_option maxRecDepth 100000

theorem Star.join {R : Int → Int → Prop} {v u x : Int} (h1 : Star R v u) (h2 : Star R u x) : Star R v x := by
  induction h2 with
  | here => exact h1
  | more _ h ih => exact .more ih h
def bothTo (K L : List Bool) : Nat → Bool
  | 0 => false
  | k + 1 => bothTo K L k || (inS K (k : Int) && !inS L (k : Int))
theorem bothTo_iff (K L : List Bool) : ∀ n, bothTo K L n = true ↔ ∃ v : Nat, v < n ∧ inS K (v : Int) = true ∧ inS L (v : Int) = false
  | 0 => by simp [bothTo]
  | n + 1 => by
    simp only [bothTo, Bool.or_eq_true, Bool.and_eq_true, Bool.not_eq_true', bothTo_iff K L n]
    constructor
    · rintro (⟨v, h1, h2⟩ | h)
      · exact ⟨v, by omega, h2⟩
      · exact ⟨n, by omega, h⟩
    · rintro ⟨v, h1, h2⟩
      by_cases e : v = n
      · subst e; exact .inr h2
      · exact .inl ⟨v, by omega, h2⟩

/-- What From and To answer. -/
structure FromTo (l : List ArcN) (F : List Int) (N s t : Nat) (K L : List Bool) : Prop where
  fromS : ∀ v : Int, 0 ≤ v → (inS K v = true ↔ Star (Opn l F) (s : Int) v)
  toT : ∀ v : Nat, v < N → (inS L (v : Int) = true ↔ ¬ Star (Opn l F) (v : Int) (t : Int))
section
variable {l : List ArcN} {F : List Int} {N s t : Nat} {K L : List Bool}
theorem FromTo.src (h : FromTo l F N s t K L) : inS K (s : Int) = true := (h.fromS _ (by omega)).2 (.here _)
theorem FromTo.snk (h : FromTo l F N s t K L) (ht : t < N) : inS L (t : Int) = false := by
  rw [← Bool.not_eq_true]
  exact fun e => (h.toT t ht).1 e (.here _)
theorem FromTo.other (h : FromTo l F N s t K L) (hs : s < N) : inS L (s : Int) = !inS K (t : Int) := by
  have h1 := h.toT s hs
  rw [← h.fromS (t : Int) (by omega)] at h1
  cases h2 : inS K (t : Int)
  · rw [h2] at h1; simp at h1; rw [h1]; rfl
  · rw [h2] at h1; simp at h1; rw [h1]; rfl
theorem FromTo.cutK (h : FromTo l F N s t K L) (hl : K.length = N) : (!inS K (t : Int)) = true ↔ IsCut N s t K :=
  ⟨fun e => ⟨hl, h.src, by simpa using e⟩, fun e => by rw [e.snk]; rfl⟩
theorem FromTo.cutL (h : FromTo l F N s t K L) (hl : L.length = N) (hs : s < N) (ht : t < N) : (!inS K (t : Int)) = true ↔ IsCut N s t L :=
  ⟨fun e => ⟨hl, by rw [h.other hs]; exact e, h.snk ht⟩, fun e => by rw [← h.other hs]; exact e.src⟩
theorem FromTo.both (h : FromTo l F N s t K L) (ht : t < N) : bothTo K L N = inS K (t : Int) := by
  rw [Bool.eq_iff_iff, bothTo_iff, h.fromS _ (by omega)]
  constructor
  · rintro ⟨v, hv, h1, h2⟩
    rw [h.fromS _ (by omega)] at h1
    refine h1.join (Classical.byContradiction fun e => ?_)
    rw [(h.toT v hv).2 e] at h2
    cases h2
  · intro e
    exact ⟨t, ht, (h.fromS _ (by omega)).2 e, h.snk ht⟩
theorem FromTo.stepK (h : FromTo l F N s t K L) {v u : Int} (hv : 0 ≤ v) (hu : 0 ≤ u) (hR : Opn l F v u) : inS K v = true → inS K u = true := by
  rw [h.fromS v hv, h.fromS u hu]
  exact fun h1 => .more h1 hR
theorem FromTo.stepL (h : FromTo l F N s t K L) {v u : Nat} (hv : v < N) (hu : u < N) (hR : Opn l F v u) : inS L (u : Int) = false → inS L (v : Int) = false := by
  intro h1
  rw [← Bool.not_eq_true] at h1 ⊢
  rw [h.toT u hu] at h1
  rw [h.toT v hv]
  exact fun h2 => h1 fun h3 => h2 (Star.ahead hR h3)
/-- What the law asks of each arc. -/
theorem FromTo.arc (h : FromTo l F N s t K L) {i f u : Nat} {c x : Int} (ha : l[i]? = some ⟨(f : Int), (u : Int), c⟩) (hx : F[i]? = some x) (hf : f < N) (hu : u < N) :
    (x < c → (inS K (f : Int) = true → inS K (u : Int) = true) ∧ (inS L (u : Int) = false → inS L (f : Int) = false)) ∧
      (0 < x → (inS K (u : Int) = true → inS K (f : Int) = true) ∧ (inS L (f : Int) = false → inS L (u : Int) = false)) := by
  by_cases e : f = u
  · subst e; exact ⟨fun _ => ⟨id, id⟩, fun _ => ⟨id, id⟩⟩
  · have hne : ((f : Nat) : Int) ≠ (u : Int) := by omega
    refine ⟨fun hlt => ?_, fun hlt => ?_⟩
    · have hR : Opn l F f u := ⟨i, _, x, ha, hx, hne, .inl ⟨rfl, rfl, hlt⟩⟩
      exact ⟨h.stepK (by omega) (by omega) hR, h.stepL hf hu hR⟩
    · have hR : Opn l F u f := ⟨i, _, x, ha, hx, hne, .inr ⟨rfl, rfl, hlt⟩⟩
      exact ⟨h.stepK (by omega) (by omega) hR, h.stepL hu hf hR⟩
end


end Go.Proofs.Ythpmappcfgiggaa
