/- Plain facts on the residual arcs of a list of arcs: where each one stands. No word of the program. -/
import Derived.Test.YtmmafibeciaghaaPlain
namespace Go.Proofs.Ytmmafibeciaghaa

def touch (v : Int) (a : ArcN) : Bool := decide (a.frm ≠ a.to ∧ (a.frm = v ∨ a.to = v))
def deg (l : List ArcN) (v : Int) : Nat := l.countP (touch v)
/-- Where the row of a vertex begins. -/
def firstOf (l : List ArcN) : Nat → Nat
  | 0 => 0
  | k + 1 => firstOf l k + deg l (k : Int)
/-- Where arc i's residual arc at its end v stands. -/
def posOf (l : List ArcN) (i : Nat) (v : Int) : Nat := firstOf l v.toNat + deg (l.take i) v
/-- Arc i has a residual arc from v to u: b, is it the backward one; c, its capacity. -/
def Inc (l : List ArcN) (i : Nat) (v u : Int) (b : Bool) (c : Int) : Prop :=
  v ≠ u ∧ ∃ a, l[i]? = some a ∧ ((b = false ∧ a.frm = v ∧ a.to = u ∧ c = a.cap) ∨ (b = true ∧ a.to = v ∧ a.frm = u ∧ c = 0))
/-- All ends are vertices. -/
def EndsIn (N : Nat) (l : List ArcN) : Prop := ∀ a ∈ l, 0 ≤ a.frm ∧ a.frm < N ∧ 0 ≤ a.to ∧ a.to < N

section
variable {l : List ArcN} {i j N : Nat} {v u v' u' : Int} {b b' : Bool} {c c' : Int}

theorem deg_take_succ {a : ArcN} (h : l[i]? = some a) (v : Int) : deg (l.take (i + 1)) v = deg (l.take i) v + (if touch v a then 1 else 0) := by
  unfold deg
  rw [take_at h, List.countP_append]
  simp [List.countP_cons]
theorem deg_take_le (l : List ArcN) (i : Nat) (v : Int) : deg (l.take i) v ≤ deg l v := (List.take_sublist i l).countP_le
theorem deg_take_mono (l : List ArcN) (h : i ≤ j) (v : Int) : deg (l.take i) v ≤ deg (l.take j) v := by
  have := deg_take_le (l.take j) i v
  rwa [List.take_take, Nat.min_eq_left h] at this
theorem deg_le (l : List ArcN) (v : Int) : deg l v ≤ l.length := List.countP_le_length
theorem firstOf_mono (l : List ArcN) : ∀ {i j : Nat}, i ≤ j → firstOf l i ≤ firstOf l j := by
  intro i j h
  induction j with
  | zero => have : i = 0 := by omega
            subst this; exact Nat.le_refl _
  | succ j ih =>
    rcases Nat.eq_or_lt_of_le h with e | e
    · subst e; exact Nat.le_refl _
    · have := ih (by omega)
      simp only [firstOf]
      omega
theorem firstOf_le (l : List ArcN) : ∀ N, firstOf l N ≤ N * l.length
  | 0 => by simp [firstOf]
  | N + 1 => by
    have := firstOf_le l N
    have := deg_le l N
    simp only [firstOf, Nat.succ_mul]
    omega

theorem Inc.touch (h : Inc l i v u b c) : ∃ a, l[i]? = some a ∧ touch v a = true := by
  obtain ⟨hne, a, ha, h⟩ := h
  refine ⟨a, ha, ?_⟩
  simp only [Go.Proofs.Ytmmafibeciaghaa.touch, decide_eq_true_eq]
  rcases h with ⟨_, h1, h2, _⟩ | ⟨_, h1, h2, _⟩
  · exact ⟨by rw [h1, h2]; exact hne, .inl h1⟩
  · exact ⟨by rw [h1, h2]; exact fun e => hne e.symm, .inr h1⟩
theorem Inc.flip (h : Inc l i v u b c) : ∃ c', Inc l i u v (!b) c' := by
  obtain ⟨hne, a, ha, h⟩ := h
  rcases h with ⟨h0, h1, h2, _⟩ | ⟨h0, h1, h2, _⟩
  · exact ⟨0, fun e => hne e.symm, a, ha, .inr ⟨by simp [h0], h2, h1, rfl⟩⟩
  · exact ⟨a.cap, fun e => hne e.symm, a, ha, .inl ⟨by simp [h0], h2, h1, rfl⟩⟩
theorem Inc.lt (h : Inc l i v u b c) : i < l.length := by
  obtain ⟨_, a, ha, _⟩ := h
  exact (List.getElem?_eq_some_iff.1 ha).1
theorem Inc.ends (h : Inc l i v u b c) (hN : EndsIn N l) : 0 ≤ v ∧ v < N ∧ 0 ≤ u ∧ u < N := by
  obtain ⟨_, a, ha, h⟩ := h
  have := hN a (mem_at ha)
  rcases h with ⟨_, h1, h2, _⟩ | ⟨_, h1, h2, _⟩ <;> omega
theorem inc_fwd {a : ArcN} (h : l[i]? = some a) (hn : a.frm ≠ a.to) : Inc l i a.frm a.to false a.cap := ⟨hn, a, h, .inl ⟨rfl, rfl, rfl, rfl⟩⟩
theorem inc_bwd {a : ArcN} (h : l[i]? = some a) (hn : a.frm ≠ a.to) : Inc l i a.to a.frm true 0 := ⟨fun e => hn e.symm, a, h, .inr ⟨rfl, rfl, rfl, rfl⟩⟩
theorem Inc.same (h : Inc l i v u b c) (h' : Inc l i v u' b' c') : u = u' ∧ b = b' ∧ c = c' := by
  obtain ⟨hne, a, ha, h⟩ := h
  obtain ⟨hne', a', ha', h'⟩ := h'
  rw [ha] at ha'
  injection ha' with ha'
  subst ha'
  rcases h with ⟨h0, h1, h2, h3⟩ | ⟨h0, h1, h2, h3⟩ <;> rcases h' with ⟨g0, g1, g2, g3⟩ | ⟨g0, g1, g2, g3⟩
  · exact ⟨h2.symm.trans g2, h0.trans g0.symm, h3.trans g3.symm⟩
  · exact absurd (h2.symm.trans g1) (fun e => hne e.symm)
  · exact absurd (h2.symm.trans g1) (fun e => hne e.symm)
  · exact ⟨h2.symm.trans g2, h0.trans g0.symm, h3.trans g3.symm⟩

theorem deg_at (h : Inc l i v u b c) (hij : i < j) : deg (l.take i) v < deg (l.take j) v := by
  obtain ⟨a, ha, ht⟩ := h.touch
  have h1 := deg_take_succ ha v
  rw [ht] at h1
  have h2 := deg_take_mono l (show i + 1 ≤ j by omega) v
  simp at h1
  omega
theorem pos_row (h : Inc l i v u b c) (h0 : 0 ≤ v) : firstOf l v.toNat ≤ posOf l i v ∧ posOf l i v < firstOf l (v.toNat + 1) := by
  obtain ⟨a, ha, ht⟩ := h.touch
  have h1 := deg_take_succ ha v
  rw [ht] at h1
  have h2 := deg_take_le l (i + 1) v
  simp at h1
  simp only [posOf, firstOf, Int.toNat_of_nonneg h0]
  omega
theorem pos_lt (h : Inc l i v u b c) (hN : EndsIn N l) : posOf l i v < firstOf l N := by
  have he := h.ends hN
  have h1 := (pos_row h he.1).2
  have h2 := firstOf_mono l (show v.toNat + 1 ≤ N by omega)
  omega
theorem pos_inj (h : Inc l i v u b c) (h' : Inc l j v' u' b' c') (h0 : 0 ≤ v) (h0' : 0 ≤ v') (he : posOf l i v = posOf l j v') : v = v' ∧ i = j := by
  have hr := pos_row h h0
  have hr' := pos_row h' h0'
  have hv : v.toNat = v'.toNat := by
    rcases Nat.lt_trichotomy v.toNat v'.toNat with hl | hl | hl
    · have := firstOf_mono l (show v.toNat + 1 ≤ v'.toNat by omega)
      omega
    · exact hl
    · have := firstOf_mono l (show v'.toNat + 1 ≤ v.toNat by omega)
      omega
  have hv' : v = v' := by omega
  subst hv'
  refine ⟨rfl, ?_⟩
  unfold posOf at he
  rcases Nat.lt_trichotomy i j with hl | hl | hl
  · have := deg_at h hl; omega
  · exact hl
  · have := deg_at h' hl; omega

theorem deg_find : ∀ (l : List ArcN) (v : Int) (d : Nat), d < deg l v → ∃ i a, l[i]? = some a ∧ touch v a = true ∧ deg (l.take i) v = d
  | [], v, d, h => by simp [deg] at h
  | x :: r, v, d, h => by
    cases ht : touch v x with
    | true =>
      cases d with
      | zero => exact ⟨0, x, rfl, ht, by simp [deg]⟩
      | succ d =>
        obtain ⟨i, a, h1, h2, h3⟩ := deg_find r v d (by simp [deg, ht] at h ⊢; omega)
        exact ⟨i + 1, a, by simpa using h1, h2, by simp [deg, ht] at h3 ⊢; omega⟩
    | false =>
      obtain ⟨i, a, h1, h2, h3⟩ := deg_find r v d (by simp [deg, ht] at h ⊢; omega)
      exact ⟨i + 1, a, by simpa using h1, h2, by simp [deg, ht] at h3 ⊢; omega⟩
theorem first_find (l : List ArcN) : ∀ (N j : Nat), j < firstOf l N → ∃ v, v < N ∧ firstOf l v ≤ j ∧ j < firstOf l (v + 1)
  | 0, j, h => by simp [firstOf] at h
  | N + 1, j, h => by
    by_cases hj : j < firstOf l N
    · obtain ⟨v, h1, h2, h3⟩ := first_find l N j hj
      exact ⟨v, by omega, h2, h3⟩
    · exact ⟨N, by omega, by omega, h⟩
theorem row_find {k : Nat} (h1 : firstOf l k ≤ j) (h2 : j < firstOf l (k + 1)) : ∃ i u b c, Inc l i k u b c ∧ j = posOf l i k := by
  obtain ⟨i, a, ha, ht, hd⟩ := deg_find l k (j - firstOf l k) (by simp only [firstOf] at h2; omega)
  simp only [touch, decide_eq_true_eq] at ht
  have hp : j = posOf l i k := by unfold posOf; rw [hd]; simp; omega
  rcases ht with ⟨hn, hf | hf⟩
  · exact ⟨i, a.to, false, a.cap, by rw [← hf]; exact inc_fwd ha hn, hp⟩
  · exact ⟨i, a.frm, true, 0, by rw [← hf]; exact inc_bwd ha hn, hp⟩
/-- Each number below that of all residual arcs is one's. -/
theorem pos_find (h : j < firstOf l N) : ∃ i v u b c, Inc l i v u b c ∧ j = posOf l i v ∧ 0 ≤ v ∧ v < N := by
  obtain ⟨k, hk, h1, h2⟩ := first_find l N j h
  obtain ⟨i, u, b, c, hi, hp⟩ := row_find h1 h2
  exact ⟨i, k, u, b, c, hi, hp, by omega, by omega⟩

/-! Lists told by a function. -/
def tab {α : Type} (n : Nat) (g : Nat → α) : List α := (List.range n).map g
theorem tab_len {α : Type} (n : Nat) (g : Nat → α) : (tab n g).length = n := by simp [tab]
theorem tab_at {α : Type} {n : Nat} {g : Nat → α} {i : Nat} (h : i < n) : (tab n g)[i]? = some (g i) := by simp [tab, h]
theorem tab_ext {α : Type} {n : Nat} {g : Nat → α} {L : List α} (hl : L.length = n) (h : ∀ i, i < n → L[i]? = some (g i)) : L = tab n g := by
  apply List.ext_getElem?
  intro i
  by_cases hi : i < n
  · rw [h i hi, tab_at hi]
  · rw [List.getElem?_eq_none (by omega), List.getElem?_eq_none (by rw [tab_len]; omega)]
theorem tab_set {α : Type} {n : Nat} {g : Nat → α} (k : Nat) (x : α) : (tab n g).set k x = tab n (fun i => if i = k then x else g i) := by
  refine tab_ext (by simp [tab_len]) fun i hi => ?_
  rw [List.getElem?_set]
  by_cases h : k = i
  · subst h; simp [tab_len, hi]
  · rw [if_neg h, tab_at hi, if_neg (fun e => h e.symm)]
theorem tab_congr {α : Type} {n : Nat} {g h : Nat → α} (e : ∀ i, i < n → g i = h i) : tab n g = tab n h :=
  tab_ext (tab_len _ _) fun i hi => by rw [tab_at hi, e i hi]
end

end Go.Proofs.Ytmmafibeciaghaa
