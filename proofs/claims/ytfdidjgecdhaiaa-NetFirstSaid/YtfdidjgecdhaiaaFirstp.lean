/- Plain facts: a net brought in order, condition by condition. -/
import Derived.Test.YtfdidjgecdhaiaaSump
namespace Go.Proofs.Ytfdidjgecdhaiaa

def amongF (x n : Int) : Int := (x.tmod n + n) % n
theorem amongF_bd {x n : Int} (h : 1 ≤ n) : 0 ≤ amongF x n ∧ amongF x n < n :=
  ⟨Int.emod_nonneg _ (by omega), Int.emod_lt_of_pos _ (by omega)⟩

def fixEnds (N : Int) (a : ArcN) : ArcN := ⟨amongF a.frm N, amongF a.to N, a.cap⟩
def fixCap (a : ArcN) : ArcN := ⟨a.frm, a.to, if a.cap < 0 then 0 else a.cap⟩
def fixSum (a : ArcN) : ArcN := ⟨a.frm, a.to, a.cap / 1024⟩

theorem check_fails {N S T : Int} {l : List ArcN} (h : checkF N S T l ≠ 0) : ∃ j : Nat, j < 6 ∧ checkF N S T l = 10 + (j : Int) ∧ condB N S T l j = false ∧ ∀ i, i < j → condB N S T l i = true := by
  by_cases h0 : condB N S T l 0 = true
  · by_cases h1 : condB N S T l 1 = true
    · by_cases h2 : condB N S T l 2 = true
      · by_cases h3 : condB N S T l 3 = true
        · by_cases h4 : condB N S T l 4 = true
          · by_cases h5 : condB N S T l 5 = true
            · exact absurd (check_all fun j hj => by
                have : j = 0 ∨ j = 1 ∨ j = 2 ∨ j = 3 ∨ j = 4 ∨ j = 5 := by omega
                rcases this with rfl | rfl | rfl | rfl | rfl | rfl <;> assumption) h
            · have hp : ∀ i, i < 5 → condB N S T l i = true := fun i hi => by
                have : i = 0 ∨ i = 1 ∨ i = 2 ∨ i = 3 ∨ i = 4 := by omega
                rcases this with rfl | rfl | rfl | rfl | rfl <;> assumption
              exact ⟨5, by omega, check_first (by omega) hp (by simpa using h5), by simpa using h5, hp⟩
          · have hp : ∀ i, i < 4 → condB N S T l i = true := fun i hi => by
              have : i = 0 ∨ i = 1 ∨ i = 2 ∨ i = 3 := by omega
              rcases this with rfl | rfl | rfl | rfl <;> assumption
            exact ⟨4, by omega, check_first (by omega) hp (by simpa using h4), by simpa using h4, hp⟩
        · have hp : ∀ i, i < 3 → condB N S T l i = true := fun i hi => by
            have : i = 0 ∨ i = 1 ∨ i = 2 := by omega
            rcases this with rfl | rfl | rfl <;> assumption
          exact ⟨3, by omega, check_first (by omega) hp (by simpa using h3), by simpa using h3, hp⟩
      · have hp : ∀ i, i < 2 → condB N S T l i = true := fun i hi => by
          have : i = 0 ∨ i = 1 := by omega
          rcases this with rfl | rfl <;> assumption
        exact ⟨2, by omega, check_first (by omega) hp (by simpa using h2), by simpa using h2, hp⟩
    · have hp : ∀ i, i < 1 → condB N S T l i = true := fun i hi => by
        obtain rfl : i = 0 := by omega
        exact h0
      exact ⟨1, by omega, check_first (by omega) hp (by simpa using h1), by simpa using h1, hp⟩
  · exact ⟨0, by omega, check_first (by omega) (fun i hi => absurd hi (by omega)) (by simpa using h0), by simpa using h0, fun i hi => absurd hi (by omega)⟩

theorem fix10_ok (N S T : Int) (l : List ArcN) : condB (2 + amongF N 4000) S T l 0 = true := by
  have := amongF_bd (x := N) (n := 4000) (by omega)
  simp only [condB, vertsB, decide_eq_true_eq]
  omega
theorem fix12_ok {N S T : Int} {l : List ArcN} (h : ∀ i, i < 2 → condB N S T l i = true) : ∀ i, i < 3 → condB N 0 1 l i = true := by
  intro i hi
  have h0 := h 0 (by omega)
  have h1 := h 1 (by omega)
  have : i = 0 ∨ i = 1 ∨ i = 2 := by omega
  rcases this with rfl | rfl | rfl
  · exact h0
  · exact h1
  · simp only [condB, vertsB, decide_eq_true_eq] at h0
    simp [condB, endsB, isVertB]
    omega
theorem fix13_ok {N S T : Int} {l : List ArcN} (h : ∀ i, i < 3 → condB N S T l i = true) : ∀ i, i < 4 → condB N S T (l.map (fixEnds N)) i = true := by
  intro i hi
  have h0 := h 0 (by omega)
  have h1 := h 1 (by omega)
  have h2 := h 2 (by omega)
  have : i = 0 ∨ i = 1 ∨ i = 2 ∨ i = 3 := by omega
  rcases this with rfl | rfl | rfl | rfl
  · exact h0
  · simpa [condB] using h1
  · exact h2
  · simp only [condB, vertsB, decide_eq_true_eq] at h0
    simp only [condB, betweenB, List.all_map, List.all_eq_true]
    intro a _
    have b1 := amongF_bd (x := a.frm) (n := N) (by omega)
    have b2 := amongF_bd (x := a.to) (n := N) (by omega)
    simp only [Function.comp, fixEnds, isVertB, Bool.and_eq_true]
    exact ⟨decide_eq_true b1, decide_eq_true b2⟩
theorem fix14_ok {N S T : Int} {l : List ArcN} (h : ∀ i, i < 4 → condB N S T l i = true) : ∀ i, i < 5 → condB N S T (l.map fixCap) i = true := by
  intro i hi
  have h0 := h 0 (by omega)
  have h1 := h 1 (by omega)
  have h2 := h 2 (by omega)
  have h3 := h 3 (by omega)
  have : i = 0 ∨ i = 1 ∨ i = 2 ∨ i = 3 ∨ i = 4 := by omega
  rcases this with rfl | rfl | rfl | rfl | rfl
  · exact h0
  · simpa [condB] using h1
  · exact h2
  · simp only [condB, betweenB, List.all_map, List.all_eq_true] at h3 ⊢
    exact fun a ha => h3 a ha
  · simp only [condB, capsB, List.all_map, List.all_eq_true]
    intro a _
    simp only [Function.comp, fixCap]
    exact decide_eq_true (by split <;> omega)
theorem total_le {l : List ArcN} {c : Int} (h : ∀ a ∈ l, a.cap ≤ c) : total l ≤ l.length * c := by
  induction l with
  | nil => simp [total]
  | cons a r ih =>
    have h1 := h a (by simp)
    have h2 := ih fun x hx => h x (by simp [hx])
    simp only [total, List.length_cons]
    rw [show ((r.length + 1 : Nat) : Int) = (r.length : Int) + 1 from by omega, Int.add_mul]
    omega
theorem fix15_ok {N S T : Int} {l : List ArcN} (hf : FitsAll l) (hl : l.length ≤ 300) (h : ∀ i, i < 5 → condB N S T l i = true) : ∀ i, i < 6 → condB N S T (l.map fixSum) i = true := by
  intro i hi
  have h0 := h 0 (by omega)
  have h1 := h 1 (by omega)
  have h2 := h 2 (by omega)
  have h3 := h 3 (by omega)
  have h4 := h 4 (by omega)
  have hnn : NonNeg (l.map fixSum) := by
    intro a ha
    obtain ⟨b, hb, rfl⟩ := List.mem_map.1 ha
    simp only [condB, capsB, List.all_eq_true, decide_eq_true_eq] at h4
    have := h4 b hb
    simp only [fixSum]
    omega
  have : i = 0 ∨ i = 1 ∨ i = 2 ∨ i = 3 ∨ i = 4 ∨ i = 5 := by omega
  rcases this with rfl | rfl | rfl | rfl | rfl | rfl
  · exact h0
  · simpa [condB] using h1
  · exact h2
  · simp only [condB, betweenB, List.all_map, List.all_eq_true] at h3 ⊢
    exact fun a ha => h3 a ha
  · simp only [condB, capsB, List.all_eq_true, decide_eq_true_eq]
    exact hnn
  · have hle : ∀ a ∈ l.map fixSum, a.cap ≤ 9007199254740992 := by
      intro a ha
      obtain ⟨b, hb, rfl⟩ := List.mem_map.1 ha
      have := (hf b hb).2.2.2
      simp only [fixSum]
      omega
    have ht := total_le hle
    rw [List.length_map] at ht
    have hlen : ((l.length : Nat) : Int) * 9007199254740992 ≤ 300 * 9007199254740992 := Int.mul_le_mul_of_nonneg_right (by omega) (by omega)
    simp only [condB]
    exact (sum_good hnn (by unfold maxSum; omega)).1

theorem fits_map {l : List ArcN} {f : ArcN → ArcN} (h : ∀ a ∈ l, (f a).fits) : FitsAll (l.map f) := by
  intro a ha
  obtain ⟨b, hb, rfl⟩ := List.mem_map.1 ha
  exact h b hb
theorem fits13 {N : Int} {l : List ArcN} (h1 : 1 ≤ N) (h2 : N ≤ 4096) (hf : FitsAll l) : FitsAll (l.map (fixEnds N)) := fits_map fun a ha => by
  have b1 := amongF_bd (x := a.frm) h1
  have b2 := amongF_bd (x := a.to) h1
  refine ⟨⟨?_, ?_⟩, ⟨?_, ?_⟩, (hf a ha).2.2⟩ <;> simp only [fixEnds] <;> omega
theorem fits14 {l : List ArcN} (hf : FitsAll l) : FitsAll (l.map fixCap) := fits_map fun a ha => by
  have := (hf a ha).2.2
  refine ⟨(hf a ha).1, (hf a ha).2.1, ⟨?_, ?_⟩⟩ <;> simp only [fixCap] <;> (obtain ⟨h1, h2⟩ := this; split <;> omega)
theorem fits15 {l : List ArcN} (hf : FitsAll l) : FitsAll (l.map fixSum) := fits_map fun a ha => by
  have := (hf a ha).2.2
  refine ⟨(hf a ha).1, (hf a ha).2.1, ⟨?_, ?_⟩⟩ <;> simp only [fixSum] <;> (obtain ⟨h1, h2⟩ := this; omega)

/-- What holds at the head of the k-th round: all conditions whose errors are at most 'last'. -/
structure FirstInv (n k : Nat) (last N S T : Int) (l : List ArcN) : Prop where
  len : l.length = n
  fits : FitsAll l
  inN : InR N
  done : ∀ j : Nat, j < 6 → 10 + (j : Int) ≤ last → condB N S T l j = true
  count : (last = 0 ∧ k = 0) ∨ (10 ≤ last ∧ last ≤ 15 ∧ (k : Int) + 9 ≤ last)

theorem FirstInv.rises {n k : Nat} {last N S T : Int} {l : List ArcN} (h : FirstInv n k last N S T l) (hn : n ≤ 300) (hc : checkF N S T l ≠ 0) :
    ∃ j : Nat, j < 6 ∧ checkF N S T l = 10 + (j : Int) ∧ j ≠ 1 ∧ last < 10 + (j : Int) ∧ (∀ i, i < j → condB N S T l i = true) := by
  obtain ⟨j, hj, he, hf, hp⟩ := check_fails hc
  refine ⟨j, hj, he, ?_, ?_, hp⟩
  · rintro rfl
    have := h.len
    simp only [condB, decide_eq_false_iff_not] at hf
    omega
  · rcases Int.lt_or_le last (10 + (j : Int)) with h1 | h1
    · exact h1
    · rw [h.done j hj h1] at hf
      cases hf
theorem FirstInv.next {n k : Nat} {last N S T : Int} {l : List ArcN} (h : FirstInv n k last N S T l) {j : Nat} (hj : j < 6) (hl : last < 10 + (j : Int)) {N' S' T' : Int} {l' : List ArcN} (hlen : l'.length = n) (hf : FitsAll l') (hN : InR N') (hd : ∀ i, i < j + 1 → condB N' S' T' l' i = true) :
    FirstInv n (k + 1) (10 + (j : Int)) N' S' T' l' := by
  refine ⟨hlen, hf, hN, fun i hi hle => hd i (by omega), .inr ⟨by omega, by omega, ?_⟩⟩
  rcases h.count with ⟨h1, h2⟩ | ⟨h1, h2, h3⟩
  · omega
  · push_cast
    omega

end Go.Proofs.Ytfdidjgecdhaiaa
