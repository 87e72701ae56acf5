/- Plain functions on nets: what the program's functions of layer 1 come to, with no word of the program. -/
import Derived.WalkKit
namespace Go.Proofs.Ytmmafibeciaghaa

/-- An arc: from, to, capacity. -/
structure ArcN where
  frm : Int
  to : Int
  cap : Int
deriving DecidableEq

def InR (x : Int) : Prop := -9223372036854775808 ≤ x ∧ x ≤ 9223372036854775807
def ArcN.fits (a : ArcN) : Prop := InR a.frm ∧ InR a.to ∧ InR a.cap
def FitsAll (l : List ArcN) : Prop := ∀ a ∈ l, a.fits

def maxSum : Int := 4611686018427387904

def isVertB (N v : Int) : Bool := decide (0 ≤ v ∧ v < N)
def vertsB (N : Int) : Bool := decide (2 ≤ N ∧ N ≤ 4096)
def endsB (N S T : Int) : Bool := isVertB N S && (isVertB N T && decide (S ≠ T))
def betweenB (N : Int) (l : List ArcN) : Bool := l.all fun a => isVertB N a.frm && isVertB N a.to
def capsB (l : List ArcN) : Bool := l.all fun a => decide (0 ≤ a.cap)

/-- The sum from s on; none where a capacity is negative, or the sum above the greatest one. -/
def sumFrom (s : Int) : List ArcN → Option Int
  | [] => some s
  | a :: r => if a.cap < 0 ∨ maxSum - s < a.cap then none else sumFrom (s + a.cap) r
def sumOf (l : List ArcN) : Option Int := sumFrom 0 l
def sumV (l : List ArcN) : Int := (sumOf l).getD 0
def sumB (l : List ArcN) : Bool := (sumOf l).isSome

def checkF (N S T : Int) (l : List ArcN) : Int :=
  if vertsB N = false then 10 else if 16384 < l.length then 11 else if endsB N S T = false then 12
  else if betweenB N l = false then 13 else if capsB l = false then 14 else if sumB l = false then 15 else 0

def turnArc (a : ArcN) : ArcN := ⟨a.to, a.frm, a.cap⟩

/-! Rounds -/
theorem drop_at {α : Type} {l : List α} {k : Nat} {a : α} (h : l[k]? = some a) : l.drop k = a :: l.drop (k + 1) := by
  obtain ⟨hk, e⟩ := List.getElem?_eq_some_iff.1 h
  rw [List.drop_eq_getElem_cons hk, e]
theorem take_at {α : Type} {l : List α} {k : Nat} {a : α} (h : l[k]? = some a) : l.take (k + 1) = l.take k ++ [a] := by
  obtain ⟨hk, e⟩ := List.getElem?_eq_some_iff.1 h
  rw [List.take_succ_eq_append_getElem hk, e]
theorem mem_at {α : Type} {l : List α} {k : Nat} {a : α} (h : l[k]? = some a) : a ∈ l := List.mem_of_getElem? h

theorem all_false_at {α : Type} {l : List α} {p : α → Bool} {k : Nat} {a : α} (h : l[k]? = some a) (hp : p a = false) : l.all p = false := by
  rw [List.all_eq_false]
  exact ⟨a, mem_at h, by simp [hp]⟩
theorem all_take {α : Type} {l : List α} {p : α → Bool} {k : Nat} {a : α} (h : l[k]? = some a) (ht : (l.take k).all p = true) (hp : p a = true) : (l.take (k + 1)).all p = true := by
  rw [take_at h]; simp only [List.all_append, ht, List.all_cons, hp, List.all_nil, Bool.and_self]
theorem all_take_end {α : Type} {l : List α} {p : α → Bool} {k n : Nat} (hl : l.length = n) (hk : ¬ k < n) (ht : (l.take k).all p = true) : l.all p = true := by
  rwa [List.take_of_length_le (by omega)] at ht

theorem sum_next {l : List ArcN} {k : Nat} {a : ArcN} {s : Int} (h : l[k]? = some a) (hr : sumOf l = sumFrom s (l.drop k)) (h0 : ¬ a.cap < 0) (h1 : ¬ 4611686018427387904 - s < a.cap) : sumOf l = sumFrom (s + a.cap) (l.drop (k + 1)) := by
  rw [hr, drop_at h, sumFrom, if_neg (by unfold maxSum; omega)]
theorem sum_stop {l : List ArcN} {k : Nat} {a : ArcN} {s : Int} (h : l[k]? = some a) (hr : sumOf l = sumFrom s (l.drop k)) (hc : a.cap < 0 ∨ 4611686018427387904 - s < a.cap) : sumV l = 0 ∧ sumB l = false := by
  unfold sumV sumB
  rw [hr, drop_at h, sumFrom, if_pos (by unfold maxSum; omega)]
  exact ⟨rfl, rfl⟩
theorem sum_end {l : List ArcN} {k n : Nat} {s : Int} (hl : l.length = n) (hk : ¬ k < n) (hr : sumOf l = sumFrom s (l.drop k)) : sumV l = s ∧ sumB l = true := by
  unfold sumV sumB
  rw [hr, List.drop_eq_nil_of_le (by omega), sumFrom]
  exact ⟨rfl, rfl⟩

/-- The conditions, by their places. -/
def condB (N S T : Int) (l : List ArcN) : Nat → Bool
  | 0 => vertsB N
  | 1 => decide (l.length ≤ 16384)
  | 2 => endsB N S T
  | 3 => betweenB N l
  | 4 => capsB l
  | _ => sumB l
theorem check_all {N S T : Int} {l : List ArcN} (h : ∀ j, j < 6 → condB N S T l j = true) : checkF N S T l = 0 := by
  have h0 := h 0 (by omega); have h1 := h 1 (by omega); have h2 := h 2 (by omega); have h3 := h 3 (by omega); have h4 := h 4 (by omega); have h5 := h 5 (by omega)
  simp only [condB, decide_eq_true_eq] at h0 h1 h2 h3 h4 h5
  simp [checkF, h0, h1, h2, h3, h4, h5]
theorem check_first {N S T : Int} {l : List ArcN} {k : Nat} (hk : k < 6) (h : ∀ j, j < k → condB N S T l j = true) (hf : condB N S T l k = false) : checkF N S T l = 10 + k := by
  have e : k = 0 ∨ k = 1 ∨ k = 2 ∨ k = 3 ∨ k = 4 ∨ k = 5 := by omega
  rcases e with rfl | rfl | rfl | rfl | rfl | rfl
  · simp only [condB] at hf; simp [checkF, hf]
  · have h0 := h 0 (by omega)
    simp only [condB, decide_eq_false_iff_not] at h0 hf
    simp [checkF, h0]; omega
  · have h0 := h 0 (by omega); have h1 := h 1 (by omega)
    simp only [condB, decide_eq_true_eq] at h0 h1 hf
    simp [checkF, h0, hf]; omega
  · have h0 := h 0 (by omega); have h1 := h 1 (by omega); have h2 := h 2 (by omega)
    simp only [condB, decide_eq_true_eq] at h0 h1 h2 hf
    simp [checkF, h0, h2, hf]; omega
  · have h0 := h 0 (by omega); have h1 := h 1 (by omega); have h2 := h 2 (by omega); have h3 := h 3 (by omega)
    simp only [condB, decide_eq_true_eq] at h0 h1 h2 h3 hf
    simp [checkF, h0, h2, h3, hf]; omega
  · have h0 := h 0 (by omega); have h1 := h 1 (by omega); have h2 := h 2 (by omega); have h3 := h 3 (by omega); have h4 := h 4 (by omega)
    simp only [condB, decide_eq_true_eq] at h0 h1 h2 h3 h4 hf
    simp [checkF, h0, h2, h3, h4, hf]; omega
theorem cond_next {N S T : Int} {l : List ArcN} {k : Nat} (h : ∀ j, j < k → condB N S T l j = true) (hf : condB N S T l k = true) : ∀ j, j < k + 1 → condB N S T l j = true := by
  intro j hj
  by_cases e : j = k
  · rw [e]; exact hf
  · exact h j (by omega)

theorem sumFrom_bound {s r : Int} {l : List ArcN} (h0 : 0 ≤ s) (h1 : s ≤ maxSum) (h : sumFrom s l = some r) : s ≤ r ∧ r ≤ maxSum := by
  induction l generalizing s with
  | nil => simp only [sumFrom, Option.some.injEq] at h; omega
  | cons a t ih =>
    unfold sumFrom at h
    split at h
    · cases h
    · rename_i hc
      have := ih (by omega) (by omega) h
      omega
theorem sumV_bound (l : List ArcN) : 0 ≤ sumV l ∧ sumV l ≤ maxSum := by
  unfold sumV
  cases h : sumOf l with
  | none => simp [maxSum]
  | some r => have := sumFrom_bound (Int.le_refl 0) (by simp [maxSum]) h; simp; omega

end Go.Proofs.Ytmmafibeciaghaa
