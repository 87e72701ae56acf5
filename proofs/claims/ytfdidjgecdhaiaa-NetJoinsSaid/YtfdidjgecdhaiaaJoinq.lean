/- Plain facts: what a joined net is. -/
import Derived.Test.YtfdidjgecdhaiaaSump
namespace Go.Proofs.Ytfdidjgecdhaiaa

/-- What arcs of these ends have together. -/
def capOf (p : Int × Int) : List ArcN → Int
  | [] => 0
  | a :: r => (if (a.frm, a.to) = p then a.cap else 0) + capOf p r
theorem capOf_append (p : Int × Int) (l m : List ArcN) : capOf p (l ++ m) = capOf p l + capOf p m := by
  induction l with
  | nil => simp [capOf]
  | cons a r ih => simp [capOf, ih]; omega
theorem capOf_at {p : Int × Int} {l : List ArcN} {k : Nat} {a : ArcN} (h : l[k]? = some a) : capOf p (l.take (k + 1)) = capOf p (l.take k) + if (a.frm, a.to) = p then a.cap else 0 := by
  rw [take_at h, capOf_append]
  simp [capOf]
theorem capOf_nonneg {p : Int × Int} {l : List ArcN} (h : NonNeg l) : 0 ≤ capOf p l := by
  induction l with
  | nil => simp [capOf]
  | cons a r ih =>
    have h1 := h a (by simp)
    have h2 := ih fun x hx => h x (by simp [hx])
    simp only [capOf]
    split <;> omega
theorem capOf_le_total {p : Int × Int} {l : List ArcN} (h : NonNeg l) : capOf p l ≤ total l := by
  induction l with
  | nil => simp [capOf, total]
  | cons a r ih =>
    have h1 := h a (by simp)
    have h2 := ih fun x hx => h x (by simp [hx])
    simp only [capOf, total]
    split <;> omega

/-- No two arcs have the same ends; none goes from a vertex to itself. -/
structure Apart (J : List ArcN) : Prop where
  loop : ∀ a ∈ J, a.frm ≠ a.to
  uniq : ∀ (i j : Nat) (a b : ArcN), J[i]? = some a → J[j]? = some b → a.frm = b.frm → a.to = b.to → i = j

theorem idxOf_none {J : List ArcN} {p : Int × Int} (h : idxOf J p = none) {i : Nat} {a : ArcN} (ha : J[i]? = some a) : (a.frm, a.to) ≠ p := by
  unfold idxOf at h
  rw [List.findIdx?_eq_none_iff] at h
  have := h a (mem_at ha)
  intro e
  subst e
  simp [endsAt] at this
theorem Apart.snoc {J : List ArcN} (h : Apart J) {a : ArcN} (ha : a.frm ≠ a.to) (hi : idxOf J (a.frm, a.to) = none) : Apart (J ++ [a]) := by
  have hlast : ∀ (i : Nat) (b : ArcN), (J ++ [a])[i]? = some b → (i < J.length ∧ J[i]? = some b) ∨ (i = J.length ∧ b = a) := by
    intro i b hb
    rcases Nat.lt_or_ge i J.length with hlt | hge
    · rw [List.getElem?_append_left hlt] at hb
      exact .inl ⟨hlt, hb⟩
    · rw [List.getElem?_append_right hge] at hb
      have hz : i - J.length = 0 := by
        have := (List.getElem?_eq_some_iff.1 hb).1
        simp at this
        omega
      rw [hz] at hb
      simp at hb
      exact .inr ⟨by omega, hb.symm⟩
  refine ⟨fun b hb => ?_, fun i j b c hb hc h1 h2 => ?_⟩
  · rcases List.mem_append.1 hb with hb | hb
    · exact h.loop b hb
    · simp at hb; subst hb; exact ha
  · rcases hlast i b hb with ⟨_, hb'⟩ | ⟨rfl, rfl⟩ <;> rcases hlast j c hc with ⟨_, hc'⟩ | ⟨rfl, rfl⟩
    · exact h.uniq i j b c hb' hc' h1 h2
    · exact absurd (by rw [h1, h2]) (idxOf_none hi hb')
    · exact absurd (by rw [← h1, ← h2]) (idxOf_none hi hc')
    · rfl
theorem addAt_get {J : List ArcN} {i : Nat} {c : Int} {j : Nat} {b : ArcN} (h : (addAt J i c)[j]? = some b) : ∃ b0, J[j]? = some b0 ∧ b0.frm = b.frm ∧ b0.to = b.to ∧ b.cap = b0.cap + if j = i then c else 0 := by
  unfold addAt at h
  rw [List.getElem?_modify] at h
  cases hj : J[j]? with
  | none => rw [hj] at h; simp at h
  | some b0 =>
    rw [hj] at h
    simp at h
    refine ⟨b0, rfl, ?_⟩
    by_cases e : i = j
    · subst e; simp at h; subst h; simp
    · rw [if_neg e] at h
      subst h
      rw [if_neg (fun e' => e e'.symm)]
      simp
theorem Apart.addAt {J : List ArcN} (h : Apart J) (i : Nat) (c : Int) : Apart (addAt J i c) := by
  refine ⟨fun b hb => ?_, fun x y b d hb hd h1 h2 => ?_⟩
  · obtain ⟨j, hj⟩ := List.getElem?_of_mem hb
    obtain ⟨b0, h0, e1, e2, _⟩ := addAt_get hj
    rw [← e1, ← e2]
    exact h.loop b0 (mem_at h0)
  · obtain ⟨b0, g0, e1, e2, _⟩ := addAt_get hb
    obtain ⟨d0, k0, f1, f2, _⟩ := addAt_get hd
    exact h.uniq x y b0 d0 g0 k0 (by rw [e1, f1, h1]) (by rw [e2, f2, h2])
theorem Apart.idx {J : List ArcN} (h : Apart J) {i : Nat} {a : ArcN} (ha : J[i]? = some a) : idxOf J (a.frm, a.to) = some i := by
  cases hx : idxOf J (a.frm, a.to) with
  | none => exact absurd rfl (idxOf_none hx ha)
  | some j =>
    obtain ⟨b, hb, e1, e2⟩ := idxOf_at hx
    rw [h.uniq i j a b ha hb e1.symm e2.symm]

/-- Where the i-th arc's part is, and what the joined arcs have. -/
structure JoinMore (l : List ArcN) (k : Nat) (J : List ArcN) (o : List Int) : Prop where
  apart : Apart J
  caps : ∀ b ∈ J, b.cap = capOf (b.frm, b.to) (l.take k)
  verts : ∀ b ∈ J, ∃ a ∈ l, a.frm = b.frm ∧ a.to = b.to
  rest : ∀ a ∈ l.take k, a.frm ≠ a.to → ∃ i, idxOf J (a.frm, a.to) = some i

theorem JoinMore.zero (l : List ArcN) : JoinMore l 0 [] [] := ⟨⟨by simp, by simp⟩, by simp, by simp, by simp⟩
section
variable {l : List ArcN} {k : Nat} {J : List ArcN} {o : List Int} {a : ArcN}
theorem JoinMore.loop (h : JoinMore l k J o) (ha : l[k]? = some a) (e : a.frm = a.to) : JoinMore l (k + 1) J (o ++ [-1]) := by
  refine ⟨h.apart, fun b hb => ?_, h.verts, fun x hx hne => ?_⟩
  · rw [capOf_at ha, if_neg, Int.add_zero]
    · exact h.caps b hb
    · intro e'
      have := h.apart.loop b hb
      simp only [Prod.mk.injEq] at e'
      omega
  · rw [take_at ha] at hx
    rcases List.mem_append.1 hx with hx | hx
    · exact h.rest x hx hne
    · simp at hx; subst hx; exact absurd e hne
theorem JoinMore.known (h : JoinMore l k J o) (ha : l[k]? = some a) {i : Nat} (hi : idxOf J (a.frm, a.to) = some i) : JoinMore l (k + 1) (addAt J i a.cap) (o ++ [(i : Int)]) := by
  obtain ⟨bi, hbi, e1, e2⟩ := idxOf_at hi
  refine ⟨h.apart.addAt _ _, fun b hb => ?_, fun b hb => ?_, fun x hx hne => ?_⟩
  · obtain ⟨j, hj⟩ := List.getElem?_of_mem hb
    obtain ⟨b0, h0, f1, f2, f3⟩ := addAt_get hj
    rw [capOf_at ha, f3, h.caps b0 (mem_at h0), f1, f2]
    by_cases e : j = i
    · subst e
      rw [h0] at hbi
      injection hbi with hbi
      subst hbi
      rw [if_pos rfl, if_pos (by rw [← f1, ← f2, e1, e2])]
    · rw [if_neg e, if_neg]
      intro e'
      simp only [Prod.mk.injEq] at e'
      exact e (h.apart.uniq j i b0 bi h0 hbi (by rw [f1, ← e'.1, e1]) (by rw [f2, ← e'.2, e2]))
  · obtain ⟨j, hj⟩ := List.getElem?_of_mem hb
    obtain ⟨b0, h0, f1, f2, _⟩ := addAt_get hj
    rw [← f1, ← f2]
    exact h.verts b0 (mem_at h0)
  · rw [take_at ha] at hx
    rw [idxOf_addAt]
    rcases List.mem_append.1 hx with hx | hx
    · exact h.rest x hx hne
    · simp at hx; subst hx; exact ⟨i, hi⟩
theorem JoinMore.new (h : JoinMore l k J o) (ha : l[k]? = some a) (e : a.frm ≠ a.to) (hi : idxOf J (a.frm, a.to) = none) : JoinMore l (k + 1) (J ++ [a]) (o ++ [(J.length : Int)]) := by
  have hnone : capOf (a.frm, a.to) (l.take k) = 0 := by
    have : ∀ m : List ArcN, (∀ x ∈ m, (x.frm, x.to) ≠ (a.frm, a.to)) → capOf (a.frm, a.to) m = 0 := by
      intro m
      induction m with
      | nil => simp [capOf]
      | cons x r ih =>
        intro hm
        rw [capOf, if_neg (hm x (by simp)), ih fun y hy => hm y (by simp [hy])]
        rfl
    refine this _ fun x hx e' => ?_
    simp only [Prod.mk.injEq] at e'
    obtain ⟨i, hx'⟩ := h.rest x hx (by rw [e'.1, e'.2]; exact e)
    rw [e'.1, e'.2, hi] at hx'
    cases hx'
  refine ⟨h.apart.snoc e hi, fun b hb => ?_, fun b hb => ?_, fun x hx hne => ?_⟩
  · rw [capOf_at ha]
    rcases List.mem_append.1 hb with hb | hb
    · obtain ⟨j, hj⟩ := List.getElem?_of_mem hb
      rw [if_neg (fun e' => idxOf_none hi hj e'.symm), Int.add_zero]
      exact h.caps b hb
    · simp at hb; subst hb
      rw [if_pos rfl, hnone]; omega
  · rcases List.mem_append.1 hb with hb | hb
    · exact h.verts b hb
    · simp at hb; subst hb; exact ⟨b, mem_at ha, rfl, rfl⟩
  · rw [idxOf_snoc J a _ hi]
    by_cases e' : (x.frm, x.to) = (a.frm, a.to)
    · rw [if_pos e']; exact ⟨_, rfl⟩
    · rw [if_neg e']
      rw [take_at ha] at hx
      rcases List.mem_append.1 hx with hx | hx
      · exact h.rest x hx hne
      · simp at hx; subst hx; exact absurd rfl e'
end

theorem joinMore_to (l : List ArcN) : ∀ k, k ≤ l.length → JoinMore l k (joinTo l k).1 (joinTo l k).2
  | 0, _ => by rw [joinTo_zero]; exact JoinMore.zero l
  | k + 1, hk => by
    have ih := joinMore_to l k (by omega)
    have ha : l[k]? = some l[k] := List.getElem?_eq_getElem (by omega)
    rw [joinTo_succ ha]
    generalize joinTo l k = st at ih
    obtain ⟨J, o⟩ := st
    by_cases e : l[k].frm = l[k].to
    · rw [joinStep_loop e]; exact ih.loop ha e
    · cases hi : idxOf J (l[k].frm, l[k].to) with
      | some i => rw [joinStep_known e hi]; exact ih.known ha hi
      | none => rw [joinStep_new e hi]; exact ih.new ha e hi
theorem joinInv_to {l : List ArcN} (hl : NonNeg l) (hf : FitsAll l) : ∀ k, k ≤ l.length → JoinInv l k (joinTo l k).1 (joinTo l k).2
  | 0, _ => by rw [joinTo_zero]; exact JoinInv.zero l
  | k + 1, hk => by
    have ih := joinInv_to hl hf k (by omega)
    have ha : l[k]? = some l[k] := List.getElem?_eq_getElem (by omega)
    have hj := joinTo_succ ha
    by_cases e : l[k].frm = l[k].to
    · have := ih.loop hl ha e
      rw [this.eq]; exact this
    · cases hi : idxOf (joinTo l k).1 (l[k].frm, l[k].to) with
      | some i => have := ih.known hl ha e hi; rw [this.eq]; exact this
      | none => have := ih.new hl hf ha e hi; rw [this.eq]; exact this

end Go.Proofs.Ytfdidjgecdhaiaa
