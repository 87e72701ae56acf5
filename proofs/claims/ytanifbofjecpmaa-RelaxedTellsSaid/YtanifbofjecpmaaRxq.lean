/- Layer 9, plainly: the lowest open end. -/
import Derived.Test.YtanifbofjecpmaaRst
namespace Go.Proofs.Ytanifbofjecpmaa
open Go.RowKit
set_option maxRecDepth 100000

section
variable {N M s t : Nat} {fst hd rv ai : Nat → Nat} {cp : Nat → Int} {bk : Nat → Bool} {X E H : List Int} {e : EvS} {u : Nat}
theorem low_none : ∀ {k : Nat}, lowO fst hd X H u k = none → ∀ a, fst u ≤ a → a < fst u + k → ¬ 0 < hOf X a
  | 0, _, a, h1, h2 => by omega
  | k + 1, h, a, h1, h2 => by
    simp only [lowO] at h
    split at h
    · split at h
      · cases h
      · split at h <;> cases h
    · by_cases e : a = fst u + k
      · subst e; assumption
      · exact low_none h a h1 (by omega)
theorem low_some : ∀ {k : Nat} {l : Int}, lowO fst hd X H u k = some l → (∃ a, fst u ≤ a ∧ a < fst u + k ∧ 0 < hOf X a ∧ hOf H (hd a) = l) ∧ ∀ a, fst u ≤ a → a < fst u + k → 0 < hOf X a → l ≤ hOf H (hd a)
  | 0, _, h => by cases h
  | k + 1, l, h => by
    simp only [lowO] at h
    split at h
    · rename_i ho
      split at h
      · rename_i hn
        injection h with h
        subst h
        refine ⟨⟨_, Nat.le_add_right _ _, by omega, ho, rfl⟩, fun a h1 h2 h3 => ?_⟩
        by_cases e : a = fst u + k
        · subst e; omega
        · exact absurd h3 (low_none hn a h1 (by omega))
      · rename_i l' hl'
        obtain ⟨⟨a, a1, a2, a3, a4⟩, hle⟩ := low_some hl'
        split at h
        · injection h with h
          subst h
          refine ⟨⟨_, Nat.le_add_right _ _, by omega, ho, rfl⟩, fun b h1 h2 h3 => ?_⟩
          by_cases e : b = fst u + k
          · subst e; omega
          · have := hle b h1 (by omega) h3; omega
        · injection h with h
          subst h
          refine ⟨⟨a, a1, by omega, a3, a4⟩, fun b h1 h2 h3 => ?_⟩
          by_cases e : b = fst u + k
          · subst e; omega
          · exact hle b h1 (by omega) h3
    · rename_i ho
      obtain ⟨⟨a, a1, a2, a3, a4⟩, hle⟩ := low_some h
      refine ⟨⟨a, a1, by omega, a3, a4⟩, fun b h1 h2 h3 => ?_⟩
      by_cases e : b = fst u + k
      · subst e; exact absurd h3 ho
      · exact hle b h1 (by omega) h3
end
end Go.Proofs.Ytanifbofjecpmaa
