/- Layer 6: plain facts for the statements. -/
import Derived.Test.YtnhfdmfciddmaaaLabf
namespace Go.Proofs.Ytnhfdmfciddmaaa

section
variable {N M s t : Nat} {fst hd rv : Nat → Nat} {X H : List Int}
/-- No residual arc is steep: none leads down by more than one. -/
theorem steep_nil (hH : HtIs N s t H) : slps N M s t M hd rv X H qSteep = [] ↔ ∀ a, a < M → opn X a = true → hd (rv a) ≠ s → hOf H (hd (rv a)) ≤ hOf H (hd a) + 1 := by
  unfold slps
  rw [if_pos ⟨rfl, rightB_yes.2 hH⟩, sel_nil]
  constructor
  · intro h a ha ho hs
    have h1 := h a ha
    rw [Bool.eq_false_iff] at h1
    apply Classical.byContradiction
    intro hc
    exact h1 (slp_iff.2 ⟨ho, hs, by unfold qSteep; rw [decide_eq_true_eq]; omega⟩)
  · intro h a ha
    rw [Bool.eq_false_iff]
    intro hc
    obtain ⟨h1, h2, h3⟩ := slp_iff.1 hc
    have := h a ha h1 h2
    unfold qSteep at h3
    rw [decide_eq_true_eq] at h3
    omega
theorem valid_iff : validB N M s t M hd rv X H = true ↔ HtIs N s t H ∧ ∀ a, a < M → opn X a = true → hd (rv a) ≠ s → hOf H (hd (rv a)) ≤ hOf H (hd a) + 1 := by
  unfold validB
  rw [Bool.and_eq_true, Bool.and_eq_true, rightB_yes, decide_eq_true_eq, decide_eq_true_eq, List.length_eq_zero_iff]
  constructor
  · rintro ⟨⟨-, h1⟩, h2⟩
    exact ⟨h1, (steep_nil h1).1 h2⟩
  · rintro ⟨h1, h2⟩
    exact ⟨⟨rfl, h1⟩, (steep_nil h1).2 h2⟩

/-- The residual arcs of s closed, up to k. -/
def closeTo (M f0 k : Nat) (X : List Int) : List Int := tab M fun a => if f0 ≤ a ∧ a < k then 0 else (X[a]?).getD 0
theorem close_start {f0 : Nat} (h : X.length = M) : closeTo M f0 f0 X = X := by
  refine (tab_ext h fun i hi => ?_).symm
  obtain ⟨x, hx⟩ : ∃ x, X[i]? = some x := ⟨_, List.getElem?_eq_getElem (by omega)⟩
  rw [if_neg (by omega), hx]; rfl
theorem close_put {f0 k : Nat} (h0 : f0 ≤ k) : (closeTo M f0 k X).set k 0 = closeTo M f0 (k + 1) X := by
  unfold closeTo
  rw [tab_set]
  refine tab_congr fun i hi => ?_
  by_cases e : i = k
  · subst e; rw [if_pos rfl, if_pos ⟨h0, by omega⟩]
  · rw [if_neg e]
    by_cases h : f0 ≤ i ∧ i < k
    · rw [if_pos h, if_pos ⟨h.1, by omega⟩]
    · rw [if_neg h, if_neg (fun h' => h ⟨h'.1, by omega⟩)]
theorem close_opn (hG : Grid N M fst hd rv) (hs : s < N) {a : Nat} (ha : a < M) : opn (closeTo M (fst s) (fst (s + 1)) X) a = (opn X a && decide (hd (rv a) ≠ s)) := by
  have h1 : (closeTo M (fst s) (fst (s + 1)) X)[a]? = some (if fst s ≤ a ∧ a < fst (s + 1) then 0 else (X[a]?).getD 0) := tab_at ha
  rw [opn_at h1]
  by_cases h : fst s ≤ a ∧ a < fst (s + 1)
  · rw [if_pos h, hG.tail s a hs h.1 h.2]
    simp
  · rw [if_neg h]
    have hne : hd (rv a) ≠ s := by
      intro e
      have := hG.row ha
      rw [e] at this
      exact h ⟨this.1, this.2.1⟩
    simp [hne, opn]

/-- How far t is over open arcs that do not begin at s. -/
structure FarIs (N M s t : Nat) (hd rv : Nat → Nat) (X : List Int) (d : Nat → Nat) : Prop where
  le : ∀ v, v < N → d v ≤ N
  zero : d t = 0
  step : ∀ a, a < M → opn X a = true → hd (rv a) ≠ s → d (hd (rv a)) ≤ d (hd a) + 1
  near : ∀ v, v < N → d v < N → v ≠ t → ∃ a, a < M ∧ opn X a = true ∧ hd (rv a) ≠ s ∧ hd (rv a) = v ∧ d v = d (hd a) + 1
theorem far_of {d : Nat → Nat} (hG : Grid N M fst hd rv) (hs : s < N) (h : IsDist (Lk M hd rv fun a => opn (closeTo M (fst s) (fst (s + 1)) X) (rv a)) N t d) : FarIs N M s t hd rv X d := by
  refine ⟨h.le, h.zero, fun a ha ho hn => ?_, fun v hv hd1 hne => ?_⟩
  · refine h.step (hd a) (hd (rv a)) (hG.hdl a ha) (hG.hdl _ (hG.rvl a ha)) ⟨rv a, hG.rvl a ha, by rw [hG.rvv a ha], rfl, ?_⟩
    simp only
    rw [hG.rvv a ha, close_opn hG hs ha, ho]
    simp [hn]
  · obtain ⟨u, hu, ⟨b, hb, e1, e2, e3⟩, e4⟩ := h.near v hv hd1 hne
    simp only at e3
    rw [close_opn hG hs (hG.rvl b hb)] at e3
    rw [Bool.and_eq_true, decide_eq_true_eq] at e3
    rw [hG.rvv b hb] at e3
    exact ⟨rv b, hG.rvl b hb, e3.1, by rw [hG.rvv b hb]; exact e3.2, by rw [hG.rvv b hb]; exact e2, by rw [e1]; exact e4⟩
theorem FarIs.src {d : Nat → Nat} (h : FarIs N M s t hd rv X d) (hs : s < N) (hst : s ≠ t) : d s = N := by
  have h1 := h.le s hs
  apply Classical.byContradiction
  intro hc
  obtain ⟨a, -, -, h2, h3, -⟩ := h.near s hs (by omega) hst
  exact h2 h3
theorem FarIs.over {d : Nat → Nat} (h : FarIs N M s t hd rv X d) (hG : Grid N M fst hd rv) (hv : validB N M s t M hd rv X H = true) : ∀ (k v : Nat), d v ≤ k → v < N → hOf H v ≤ (d v : Int) := by
  obtain ⟨hH, hval⟩ := valid_iff.1 hv
  intro k
  induction k with
  | zero =>
    intro v hk hvN
    by_cases e : v = t
    · subst e; rw [hH.snk]; omega
    · obtain ⟨a, -, -, -, -, h5⟩ := h.near v hvN (by omega) e
      omega
  | succ k ih =>
    intro v hk hvN
    by_cases e : v = t
    · subst e; rw [hH.snk]; omega
    · by_cases hl : d v < N
      · obtain ⟨a, ha, ho, hn, h4, h5⟩ := h.near v hvN hl e
        have h6 := hval a ha ho hn
        have h7 := ih (hd a) (by omega) (hG.hdl a ha)
        rw [h4] at h6
        omega
      · have := (hH.bnd v hvN).2
        omega
def farH (N : Nat) (d : Nat → Nat) : List Int := tab N fun v => (d v : Int)
theorem far_at {d : Nat → Nat} {v : Nat} (hv : v < N) : hOf (farH N d) v = (d v : Int) := hOf_at (tab_at hv)
theorem FarIs.htis {d : Nat → Nat} (h : FarIs N M s t hd rv X d) (hs : s < N) (ht : t < N) (hst : s ≠ t) : HtIs N s t (farH N d) :=
  ⟨tab_len _ _, by rw [far_at hs, h.src hs hst], by rw [far_at ht, h.zero]; rfl, fun v hv => by have := h.le v hv; rw [far_at hv]; omega⟩
theorem FarIs.valid {d : Nat → Nat} (h : FarIs N M s t hd rv X d) (hG : Grid N M fst hd rv) (hs : s < N) (ht : t < N) (hst : s ≠ t) : validB N M s t M hd rv X (farH N d) = true := by
  refine valid_iff.2 ⟨h.htis hs ht hst, fun a ha ho hn => ?_⟩
  have := h.step a ha ho hn
  rw [far_at (hG.hdl _ (hG.rvl a ha)), far_at (hG.hdl a ha)]
  omega
theorem valid_steep (h : validB N M s t M hd rv X H = true) : slps N M s t M hd rv X H qSteep = [] := by
  obtain ⟨h1, h2⟩ := valid_iff.1 h
  exact (steep_nil h1).2 h2
end

end Go.Proofs.Ytnhfdmfciddmaaa
