/- PreRises: what a step changes, counted. -/
import Derived.Test.YtgjokddcaadjdaaPawp
namespace Go.Proofs.Ytgjokddcaadjdaa
open Go.RowKit
set_option maxRecDepth 100000

/-! Counts. -/
theorem sel_one {p : Nat → Bool} {n u : Nat} (hu : u < n) (h : p u = true) (ho : ∀ v, v < n → v ≠ u → p v = false) : (selTo p n).length = 1 := by
  have h1 : ∀ k, k ≤ u → selTo p k = [] := fun k hk => sel_nil.2 fun a ha => ho a (by omega) (by omega)
  have h2 : ∀ k, u < k → k ≤ n → (selTo p k).length = 1 := by
    intro k
    induction k with
    | zero => intro h; omega
    | succ k ih =>
      intro hk hkn
      by_cases e : k = u
      · subst e
        rw [sel_yes h, h1 k (Nat.le_refl _)]
        rfl
      · rw [sel_no (ho k (by omega) e)]
        exact ih (by omega) (by omega)
  exact h2 n hu (Nat.le_refl _)
theorem sel_two {p : Nat → Bool} {n a b : Nat} (ha : a < n) (hb : b < n) (hab : a ≠ b) (h1 : p a = true) (h2 : p b = true) (ho : ∀ v, v < n → v ≠ a → v ≠ b → p v = false) : (selTo p n).length = 2 := by
  have key : ∀ k, k ≤ n → (selTo p k).length = (if a < k then 1 else 0) + (if b < k then 1 else 0) := by
    intro k
    induction k with
    | zero => intro _; simp [selTo]
    | succ k ih =>
      intro hk
      have hi := ih (by omega)
      by_cases e1 : k = a
      · subst e1
        rw [sel_yes h1, List.length_append, hi]
        simp only [List.length_singleton]
        (repeat' split) <;> omega
      · by_cases e2 : k = b
        · subst e2
          rw [sel_yes h2, List.length_append, hi]
          simp only [List.length_singleton]
          (repeat' split) <;> omega
        · rw [sel_no (ho k (by omega) e1 e2), hi]
          (repeat' split) <;> omega
  rw [key n (Nat.le_refl _), if_pos ha, if_pos hb]

/-! What is counted. -/
def pUp (H H' : List Int) (v : Nat) : Bool := decide (hOf H v < hOf H' v)
def pGone (E E' : List Int) (v : Nat) : Bool := decide (hOf E' v - hOf E v < 0)
def pGot (E E' : List Int) (v : Nat) : Bool := decide (0 < hOf E' v - hOf E v)
def pCh (X X' : List Int) (a : Nat) : Bool := !decide (hOf X' a = hOf X a)
/-- The arc of which less is left was used up, or its begin. -/
def Used (hd rv : Nat → Nat) (X' E' : List Int) (a : Nat) : Bool := decide (hOf X' a = 0) || decide (hOf E' (hd (rv a)) = 0)
/-- What the last of the first k of which less is left says. -/
def usedTo (hd rv : Nat → Nat) (X X' E' : List Int) : Nat → Bool
  | 0 => false
  | k + 1 => if hOf X' k < hOf X k then Used hd rv X' E' k else usedTo hd rv X X' E' k
theorem same_none {L : List Int} : (∀ n, (selTo (pUp L L) n).length = 0) ∧ (∀ n, (selTo (pGone L L) n).length = 0) ∧ (∀ n, (selTo (pGot L L) n).length = 0) := by
  refine ⟨fun n => ?_, fun n => ?_, fun n => ?_⟩
  · rw [sel_nil.2 fun a _ => by simp [pUp]]; rfl
  · rw [sel_nil.2 fun a _ => by simp [pGone]]; rfl
  · rw [sel_nil.2 fun a _ => by simp [pGot]]; rfl
section
variable {N M s t : Nat} {fst hd rv ai : Nat → Nat} {cp : Nat → Int} {bk : Nat → Bool} {S S' : StN}
/-- What a lift, or a push, has changed. -/
def LiftB (N : Nat) (S S' : StN) : Prop := (selTo (pUp S.2.2 S'.2.2) N).length = 1 ∧ (selTo (pGone S.2.1 S'.2.1) N).length = 0 ∧ (selTo (pGot S.2.1 S'.2.1) N).length = 0 ∧ S'.1 = S.1
def PushB (N M : Nat) (hd rv : Nat → Nat) (S S' : StN) : Prop := (selTo (pUp S.2.2 S'.2.2) N).length = 0 ∧ (selTo (pGone S.2.1 S'.2.1) N).length = 1 ∧ (selTo (pGot S.2.1 S'.2.1) N).length = 1 ∧ (selTo (pCh S.1 S'.1) M).length = 2 ∧ usedTo hd rv S.1 S'.1 S'.2.1 M = true
theorem Nx.rises (h : Nx N M s t fst hd rv S S') (hN : PNet N M s t fst hd rv ai cp bk) (hS : OkS N M s t hd rv cp S) :
    (∀ v, v < N → hOf S.2.2 v ≤ hOf S'.2.2 v) ∧ (LiftB N S S' ∨ PushB N M hd rv S S') := by
  rcases h with ⟨a, ha, h1, h2, rfl⟩ | ⟨u, hu, h1, h2, rfl⟩
  · have hd0 : 0 < pushD hd rv S.1 S.2.1 a := by
      have := (act_iff.1 h1).2.2
      have := (adm_iff.1 h2).1
      unfold pushD
      omega
    obtain ⟨d, hd'⟩ : ∃ d, pushD hd rv S.1 S.2.1 a = d := ⟨_, rfl⟩
    have hdm : d = hOf S.1 a ∨ d = hOf S.2.1 (hd (rv a)) := by rw [← hd']; unfold pushD; omega
    rw [hd'] at hd0 ⊢
    have hXl := hS.bal.1; have hEl := hS.le
    have hX := mvX_at hN hXl ha d
    have hE := mvE_at hN hEl ha d
    have hne := hN.rne ha; have hra := hN.g.rvl a ha
    have hno := hN.nol a ha
    have hEt : hOf (mvE hd rv S.2.1 a d) (hd (rv a)) = hOf S.2.1 (hd (rv a)) - d := by rw [hE, if_neg hno, if_pos rfl]; omega
    refine ⟨fun v _ => Int.le_refl _, .inr ⟨same_none.1 N, ?_, ?_, ?_, ?_⟩⟩
    · refine sel_one (u := hd (rv a)) (hN.mN ha) (by simp only [pGone, hEt]; simp; omega) fun v hv hvn => ?_
      simp only [pGone, hE, if_neg hvn, decide_eq_false_iff_not]
      split <;> omega
    · refine sel_one (u := hd a) (hN.g.hdl a ha) (by simp only [pGot, hE, if_pos, if_neg (fun e : hd a = hd (rv a) => hno e.symm)]; simp; omega) fun v hv hvn => ?_
      simp only [pGot, hE, if_neg hvn, decide_eq_false_iff_not]
      split <;> omega
    · refine sel_two (a := a) (b := rv a) ha hra (fun e => hne e.symm) ?_ ?_ fun v hv h3 h4 => ?_
      · simp only [pCh, hX, if_pos]; simp; omega
      · simp only [pCh, hX, if_neg hne, if_pos]; simp; omega
      · simp only [pCh, hX, if_neg h3, if_neg h4]; simp
    · have hu : Used hd rv (mvX rv S.1 a d) (mvE hd rv S.2.1 a d) a = true := by
        unfold Used
        rw [hEt, hX, if_pos rfl]
        rcases hdm with e | e
        · simp only [Bool.or_eq_true, decide_eq_true_eq]; left; omega
        · simp only [Bool.or_eq_true, decide_eq_true_eq]; right; omega
      have key : ∀ k, k ≤ M → usedTo hd rv S.1 (mvX rv S.1 a d) (mvE hd rv S.2.1 a d) k = decide (a < k) := by
        intro k
        induction k with
        | zero => intro _; simp [usedTo]
        | succ k ih =>
          intro hk
          simp only [usedTo, hX]
          by_cases e1 : k = a
          · subst e1
            rw [if_pos rfl, if_pos (by omega), hu]
            simp
          · rw [if_neg e1]
            have hdk : decide (a < k) = decide (a < k + 1) := by
              by_cases h : a < k
              · rw [decide_eq_true h, decide_eq_true (by omega)]
              · rw [decide_eq_false h, decide_eq_false (by omega)]
            by_cases e2 : k = rv a
            · rw [if_pos e2, if_neg (by rw [← e2]; omega), ih (by omega), hdk]
            · rw [if_neg e2, if_neg (by omega), ih (by omega), hdk]
      rw [key M (Nat.le_refl _)]
      simpa using ha
  · obtain ⟨b, hb, e⟩ := OkS.lowV hS hN hu h1
    have hup := (hS.lift hN hu h1 ((downs_nil (hN.g.mono u hu)).1 h2) hb).2
    rw [← e] at hup
    have hHl := hS.lh
    have hH : ∀ v, hOf (S.2.2.set u (lowV fst hd S.1 S.2.2 u + 1)) v = if u = v then lowV fst hd S.1 S.2.2 u + 1 else hOf S.2.2 v := fun v => hOf_put (by omega)
    refine ⟨fun v hv => ?_, .inl ⟨?_, same_none.2.1 N, same_none.2.2 N, rfl⟩⟩
    · dsimp only
      rw [hH]
      by_cases h : u = v
      · subst h; rw [if_pos rfl]; omega
      · rw [if_neg h]; exact Int.le_refl _
    · refine sel_one hu (by simp only [pUp, hH, if_pos]; simpa using hup) fun v hv hne => ?_
      simp only [pUp, hH, if_neg (fun h : u = v => hne h.symm)]
      simp
end

end Go.Proofs.Ytgjokddcaadjdaa
