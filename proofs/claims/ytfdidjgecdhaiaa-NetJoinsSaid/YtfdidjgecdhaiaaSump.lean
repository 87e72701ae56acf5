/- Plain facts of sums. -/
import Derived.Test.YtfdidjgecdhaiaaJoinp
namespace Go.Proofs.Ytfdidjgecdhaiaa

theorem sumFrom_of {s : Int} {l : List ArcN} (hn : NonNeg l) (hs : s + total l ≤ maxSum) : sumFrom s l = some (s + total l) := by
  induction l generalizing s with
  | nil => simp [sumFrom, total]
  | cons a r ih =>
    have ha := hn a (by simp)
    have hr : NonNeg r := fun x hx => hn x (by simp [hx])
    have ht := total_nonneg hr
    simp only [total] at hs ⊢
    rw [sumFrom, if_neg (by omega), ih hr (by omega)]
    congr 1; omega
theorem sum_good {l : List ArcN} (hn : NonNeg l) (hs : total l ≤ maxSum) : sumB l = true ∧ sumV l = total l := by
  have := sumFrom_of (s := 0) hn (by omega)
  unfold sumB sumV sumOf
  rw [this]
  simp
theorem sum_bad {l : List ArcN} (h : sumB l = false) : sumV l = 0 := by
  unfold sumB at h
  unfold sumV
  cases hs : sumOf l with
  | none => rfl
  | some r => rw [hs] at h; cases h
theorem sumV_total {l : List ArcN} (h : sumB l = true) : sumV l = total l := by
  obtain ⟨h1, h2⟩ := sumB_total h
  exact (sum_good h1 h2).2
theorem sum_same {l m : List ArcN} (hm : ∀ a, a ∈ m ↔ a ∈ l) (ht : total m = total l) : sumV m = sumV l ∧ sumB m = sumB l := by
  cases h : sumB l
  · have hb : sumB m = false := by
      cases h' : sumB m
      · rfl
      · obtain ⟨h1, h2⟩ := sumB_total h'
        have := (sum_good (l := l) (fun a ha => h1 a ((hm a).2 ha)) (by omega)).1
        rw [h] at this
        cases this
    exact ⟨by rw [sum_bad h, sum_bad hb], hb⟩
  · obtain ⟨h1, h2⟩ := sumB_total h
    have hg := sum_good (l := m) (fun a ha => h1 a ((hm a).1 ha)) (by omega)
    exact ⟨by rw [hg.2, sumV_total h, ht], hg.1⟩
theorem sum_rot (l : List ArcN) (k : Nat) : sumV (l.drop k ++ l.take k) = sumV l ∧ sumB (l.drop k ++ l.take k) = sumB l := by
  have e := List.take_append_drop k l
  have ht := total_append (l.take k) (l.drop k)
  rw [e] at ht
  refine sum_same (fun a => ?_) (by rw [total_append]; omega)
  rw [List.mem_append, Or.comm, ← List.mem_append, e]
theorem sum_more {l : List ArcN} {c : Int} (h : sumB l = true) (h0 : 0 ≤ c) (h1 : c ≤ maxSum - sumV l) : sumB (l ++ [⟨0, 0, c⟩]) = true ∧ sumV (l ++ [⟨0, 0, c⟩]) = sumV l + c := by
  obtain ⟨g1, g2⟩ := sumB_total h
  have e := sumV_total h
  have ht : total (l ++ [⟨0, 0, c⟩]) = total l + c := by rw [total_append]; simp [total]
  have := sum_good (l := l ++ [⟨0, 0, c⟩]) (fun a ha => by
    rcases List.mem_append.1 ha with ha | ha
    · exact g1 a ha
    · simp at ha; subst ha; exact h0) (by omega)
  exact ⟨this.1, by rw [this.2, ht, e]⟩
theorem sum_less {l : List ArcN} {c : Int} (h : sumB l = false ∨ c < 0 ∨ maxSum - sumV l < c) : sumB (l ++ [⟨0, 0, c⟩]) = false := by
  cases h' : sumB (l ++ [⟨0, 0, c⟩])
  · rfl
  · obtain ⟨g1, g2⟩ := sumB_total h'
    have ht : total (l ++ [⟨0, 0, c⟩]) = total l + c := by rw [total_append]; simp [total]
    have hc := g1 ⟨0, 0, c⟩ (by simp)
    simp only at hc
    have hg := sum_good (l := l) (fun a ha => g1 a (by simp [ha])) (by omega)
    rcases h with h | h | h
    · rw [hg.1] at h; cases h
    · omega
    · rw [hg.2] at h; omega
theorem cap_le_sum {l : List ArcN} (h : sumB l = true) {k : Nat} {a : ArcN} (ha : l[k]? = some a) : 0 ≤ a.cap ∧ a.cap ≤ sumV l := by
  obtain ⟨g1, g2⟩ := sumB_total h
  rw [sumV_total h]
  exact ⟨g1 a (mem_at ha), total_at g1 ha⟩

end Go.Proofs.Ytfdidjgecdhaiaa
