/- Layer 9, plainly: what strict moves are. -/
import Derived.Test.YtanifbofjecpmaaRst
import Derived.Test.YtanifbofjecpmaaLabe
namespace Go.Proofs.Ytanifbofjecpmaa
open Go.RowKit
set_option maxRecDepth 100000

section
variable {N M s t : Nat} {fst hd rv ai : Nat → Nat} {cp : Nat → Int} {bk : Nat → Bool} {X E H : List Int} {e : EvS} {u : Nat}
theorem low_none : ∀ {k : Nat}, lowO fst hd X H u k = none → ∀ a, fst u ≤ a → a < fst u + k → ¬ 0 < hOf X a
  | 0, _, a, h1, h2 => by omega
  | k + 1, h, a, h1, h2 => by
    simp only [lowO] at h
    split at h
    · split at h
      · cases h
      · split at h <;> cases h
    · by_cases e : a = fst u + k
      · subst e; assumption
      · exact low_none h a h1 (by omega)
theorem low_some : ∀ {k : Nat} {l : Int}, lowO fst hd X H u k = some l → (∃ a, fst u ≤ a ∧ a < fst u + k ∧ 0 < hOf X a ∧ hOf H (hd a) = l) ∧ ∀ a, fst u ≤ a → a < fst u + k → 0 < hOf X a → l ≤ hOf H (hd a)
  | 0, _, h => by cases h
  | k + 1, l, h => by
    simp only [lowO] at h
    split at h
    · rename_i ho
      split at h
      · rename_i hn
        injection h with h
        subst h
        refine ⟨⟨_, Nat.le_add_right _ _, by omega, ho, rfl⟩, fun a h1 h2 h3 => ?_⟩
        by_cases e : a = fst u + k
        · subst e; omega
        · exact absurd h3 (low_none hn a h1 (by omega))
      · rename_i l' hl'
        obtain ⟨⟨a, a1, a2, a3, a4⟩, hle⟩ := low_some hl'
        split at h
        · injection h with h
          subst h
          refine ⟨⟨_, Nat.le_add_right _ _, by omega, ho, rfl⟩, fun b h1 h2 h3 => ?_⟩
          by_cases e : b = fst u + k
          · subst e; omega
          · have := hle b h1 (by omega) h3; omega
        · injection h with h
          subst h
          refine ⟨⟨a, a1, by omega, a3, a4⟩, fun b h1 h2 h3 => ?_⟩
          by_cases e : b = fst u + k
          · subst e; omega
          · exact hle b h1 (by omega) h3
    · rename_i ho
      obtain ⟨⟨a, a1, a2, a3, a4⟩, hle⟩ := low_some h
      refine ⟨⟨a, a1, by omega, a3, a4⟩, fun b h1 h2 h3 => ?_⟩
      by_cases e : b = fst u + k
      · subst e; exact absurd h3 ho
      · exact hle b h1 (by omega) h3
/-- A strict push. -/
theorem str_push (h : strB N s t fst hd X E H e = true) (hw : e.what = 1) : legI N s t fst X E H e = 0 ∧ hOf H (hd e.arc.toNat) = e.h - 1 ∧ e.d = min (hOf E e.u.toNat) (hOf X e.arc.toNat) := by
  unfold strB at h
  rw [Bool.and_eq_true, if_pos hw] at h
  unfold strP at h
  rw [Bool.and_eq_true] at h
  exact ⟨of_decide_eq_true h.1, of_decide_eq_true h.2.1, of_decide_eq_true h.2.2⟩
/-- A strict lift. -/
theorem str_lift (h : strB N s t fst hd X E H e = true) (hw : e.what ≠ 1) : legI N s t fst X E H e = 0 ∧ 0 < hOf E e.u.toNat ∧ ∃ l, lowO fst hd X H e.u.toNat (fst (e.u.toNat + 1) - fst e.u.toNat) = some l ∧ e.h = l + 1 := by
  unfold strB at h
  rw [Bool.and_eq_true, if_neg hw] at h
  unfold strL at h
  refine ⟨of_decide_eq_true h.1, ?_⟩
  have h2 := h.2
  cases hl : lowO fst hd X H e.u.toNat (fst (e.u.toNat + 1) - fst e.u.toNat) with
  | none => rw [hl] at h2; cases h2
  | some l =>
    rw [hl] at h2
    simp only [strO, Bool.and_eq_true] at h2
    exact ⟨of_decide_eq_true h2.1, l, rfl, of_decide_eq_true h2.2⟩
/-- A strict move leaves valid heights valid. -/
theorem str_valid (hG : PNet N M s t fst hd rv ai cp bk) (hS : SndIs N M s t hd rv cp X E H) (hv : validB N M s t M hd rv X H = true) (h : strB N s t fst hd X E H e = true) (hN : e.what = 2 → e.h ≤ N) :
    validB N M s t M hd rv (nxX N s t fst rv X E H e) (nxH N s t fst X E H e) = true := by
  obtain ⟨hI, hA⟩ := valid_iff.1 hv
  by_cases hw : e.what = 1
  · obtain ⟨hl, h1, h2⟩ := str_push h hw
    obtain ⟨hvv, hr, hp⟩ := legI_push hl hw
    obtain ⟨u, a, hu, ha, k1, k2, k3, k4, k5, k6, k7⟩ := push_lies hG hvv hr
    obtain ⟨p1, p2, p3, p4, p5⟩ := hp
    unfold nxX nxH
    rw [if_pos hl, if_pos hl]
    unfold movX movH
    rw [if_neg (by omega), if_neg (by omega), ha]
    rw [hu] at p2 p4
    rw [ha] at h1 p3
    simp only [Int.toNat_natCast] at p2 p3 p4 h1 ⊢
    refine valid_iff.2 ⟨hI, fun b hb ho hne => ?_⟩
    rw [opn_iff, mvX_at hG hS.bal.1 k4] at ho
    by_cases e1 : b = a
    · subst e1
      exact hA b hb (opn_iff.2 (by omega)) hne
    · rw [if_neg e1] at ho
      by_cases e2 : b = rv a
      · subst e2
        rw [hG.g.rvv a k4, k7]
        omega
      · rw [if_neg e2] at ho
        exact hA b hb (opn_iff.2 ho) hne
  · obtain ⟨hl, h1, l, h2, h3⟩ := str_lift h hw
    have hw2 : e.what = 2 := by rcases legI_what hl with h | h <;> omega
    obtain ⟨hvv, hp⟩ := legI_lift hl hw2
    obtain ⟨⟨g1, g2⟩, g3, g4⟩ := hvv
    obtain ⟨u, hu⟩ : ∃ u : Nat, e.u = u := ⟨e.u.toNat, by omega⟩
    rw [hu] at g2 g3 g4
    unfold nxX nxH
    rw [if_pos hl, if_pos hl]
    unfold movX movH
    rw [if_pos hw2, if_pos hw2, hu]
    rw [hu] at h2
    have hp1 := hp.1
    rw [hu] at hp1
    simp only [Int.toNat_natCast] at h2 hp1 ⊢
    have hput : ∀ v, hOf (H.set u e.h) v = if u = v then e.h else hOf H v := fun v => hOf_put (by rw [hS.lh]; omega)
    have hle := hG.g.mono u (by omega)
    obtain ⟨-, hlo⟩ := low_some h2
    have hN' := hN hw2
    have hb0 := hI.bnd u (by omega)
    refine valid_iff.2 ⟨⟨by simp [hI.len], by rw [hput, if_neg (by omega)]; exact hI.src, by rw [hput, if_neg (by omega)]; exact hI.snk, fun v hv => ?_⟩, fun b hb ho hne => ?_⟩
    · rw [hput]
      split
      · omega
      · exact hI.bnd v hv
    · rw [hput, hput]
      have hold := hA b hb ho hne
      have hnol := hG.nol b hb
      by_cases e1 : u = hd (rv b)
      · rw [if_pos e1, if_neg (fun e => hnol (by omega))]
        obtain ⟨r1, r2, -⟩ := hG.g.row hb
        rw [← e1] at r1 r2
        have := hlo b r1 (by omega) (opn_iff.1 ho)
        omega
      · rw [if_neg e1]
        split
        · rename_i e2; rw [← e2] at hold; omega
        · omega
end
end Go.Proofs.Ytanifbofjecpmaa
