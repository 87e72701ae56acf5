/- Layer 5's statements: what Left gives, by numbers. -/
import Derived.Test.YtanifbofjecpmaaLeft
import Derived.Test.YtanifbofjecpmaaLab
namespace Go.Proofs.Ytanifbofjecpmaa
open Go.RowKit
set_option maxRecDepth 100000

/-- A residual network and what is left, by numbers, of which P holds. -/
def RetGrid (N : Nat) (S T : Int) (P : Nat → (Nat → Nat) → (Nat → Nat) → (Nat → Nat) → List Int → Prop) (w : World) (e : Ending) (w' : World) : Prop :=
  ∃ (M : Nat) (K : CsrS) (fst hd rv : Nat → Nat) (A : Option Addr) (c : Nat) (X : List Int), e = .returned (.tuple #[csrW N M S T K, .slice A M c]) ∧ Grid N M fst hd rv ∧ GridIn w' w'.heap.size N M K fst hd rv ∧ Ints w' w'.heap.size A M X ∧
    P M fst hd rv X ∧ Below w.heap.size w w'

theorem RetLeft.grid {N : Nat} {S T : Int} {l : List ArcN} {L : List Int} {P : Nat → (Nat → Nat) → (Nat → Nat) → (Nat → Nat) → List Int → Prop} {w w' : World} {e : Ending} (h : RetLeft N S T l L w e w') (hE : EndsIn N l)
    (hP : ∀ (F H R C Ai : List Int) (B : List Bool) (f X : List Int), CsrL N l F H R C Ai B → ResOf l f (firstOf l N) X → WithinX l L l.length f → P (firstOf l N) (firstOf l) (hdOf H) (hdOf R) X) : RetGrid N S T P w e w' := by
  obtain ⟨K, F, H, R, C, Ai, B, A, c, f, X, he, hc, hi, hx, hr, hw, hb⟩ := h
  obtain ⟨hg, e1, e2⟩ := hc.grid hE
  refine ⟨firstOf l N, K, firstOf l, hdOf H, hdOf R, A, c, X, he, hg, ⟨?_, ?_, ?_⟩, hx, hP F H R C Ai B f X hc hr hw, hb⟩
  · have := hi.iF
    rw [hc.fst] at this
    exact this
  · have := hi.iH
    rw [e1] at this
    exact this
  · have := hi.iR
    rw [e2] at this
    exact this

/-- What is left lies within. -/
theorem left_bound {N : Nat} {l : List ArcN} {f X : List Int} (hr : ResOf l f (firstOf l N) X) (hw : FlowIn l f) {t : Int} (hc : ∀ a ∈ l, a.cap ≤ t) : ∀ x ∈ X, 0 ≤ x ∧ x ≤ t := by
  intro x hx
  obtain ⟨k, hk⟩ := List.getElem?_of_mem hx
  have hkl := (List.getElem?_eq_some_iff.1 hk).1
  rw [hr.len] at hkl
  obtain ⟨i, v, u, b, c, hI, hp, _, _⟩ := pos_find hkl
  have hil := hI.lt
  obtain ⟨y, hy⟩ : ∃ y, f[i]? = some y := ⟨_, List.getElem?_eq_getElem (by rw [hw.len]; exact hil)⟩
  obtain ⟨a, ha⟩ : ∃ a, l[i]? = some a := ⟨_, List.getElem?_eq_getElem hil⟩
  have h1 := hr.ent i v u b c y hI hy
  rw [← hp, hk] at h1
  injection h1 with h1
  have h2 := hw.ent i a y ha hy
  have h3 : capAt l i = a.cap := by unfold capAt; rw [ha]
  have h4 := hc a (mem_at ha)
  rw [h3] at h1
  rw [h1]
  split <;> omega

/-- What the statements ask of Left. -/
def LeftOk (M : Nat) (_ _ _ : Nat → Nat) (X : List Int) : Prop := M ≤ 1100000 ∧ ∀ x ∈ X, 0 ≤ x ∧ x ≤ 1125899906842624


end Go.Proofs.Ytanifbofjecpmaa
