/- Plain facts for the laws of layer 3. -/
import Derived.Test.YtmmafibeciaghaaFlowp
import Derived.Test.YtmmafibeciaghaaSomep
import Derived.Test.YtmmafibeciaghaaWithin
namespace Go.Proofs.Ytmmafibeciaghaa
open Go.RowKit

/-- A Boolean says whether. -/
def Says (r : Bool) (p : Prop) : Prop := r = true ↔ p
theorem Says.mk {r : Bool} {p : Prop} (h : r = true ↔ p) : Says r p := h
theorem Says.iff {r : Bool} {p : Prop} (h : Says r p) : r = true ↔ p := h
theorem wrap_id {n : Int} (h0 : 0 ≤ n) (h1 : n < 9223372036854775808) : IntKind.i64.wrap n = n := by
  simp [IntKind.wrap, IntKind.bits, IntKind.signed]
  omega
theorem wrap_any {n : Int} (h0 : -9223372036854775808 ≤ n) (h1 : n < 9223372036854775808) : IntKind.i64.wrap n = n := by
  simp [IntKind.wrap, IntKind.bits, IntKind.signed]
  omega
theorem total_le {c : Int} : ∀ {l : List ArcN} (_ : ∀ a ∈ l, a.cap < c), total l ≤ l.length * c
  | [], _ => by simp [total]
  | a :: r, h => by
    have h1 := h a (by simp)
    have h2 := total_le (l := r) fun b hb => h b (by simp [hb])
    simp only [total, List.length_cons, Int.natCast_add, Int.natCast_one, Int.add_mul]
    omega
/-- Numbers that Within made are within. -/
theorem WithinTo.flow {l : List ArcN} {n : Nat} {X : List Int} (h : WithinTo l n X) (hl : l.length = n) : FlowIn l X :=
  ⟨h.len, fun i a x ha hx => by
    have := h.ent i a x (by have := (List.getElem?_eq_some_iff.1 ha).1; omega) ha hx
    omega⟩
theorem someN_le (N : Int) {N1 : Nat} (h : someN N ((40 : Nat) : Int) = (N1 : Int)) : N1 ≤ 40 := by
  have := Int.emod_lt_of_pos N (show (0 : Int) < ((40 : Nat) : Int) - 1 by omega)
  unfold someN at h
  omega
theorem sumN_bound {f : Nat → Int} {c : Int} : ∀ {n : Nat} (_ : ∀ u, u < n → -c ≤ f u ∧ f u ≤ c), -((n : Int) * c) ≤ sumN f n ∧ sumN f n ≤ (n : Int) * c
  | 0, _ => by simp [sumN]
  | n + 1, h => by
    have h1 := h n (by omega)
    have h2 := sumN_bound (n := n) fun u hu => h u (by omega)
    simp only [sumN, Int.natCast_add, Int.natCast_one, Int.add_mul]
    omega
/-- Few vertices, small excesses: no sum of them is too great. -/
theorem sumN_small {f : Nat → Int} {n N : Nat} (hn : n ≤ N) (hN : N ≤ 40) (h : ∀ u, u < N → -90071992547409920 ≤ f u ∧ f u ≤ 90071992547409920) : -3602879701896396800 ≤ sumN f n ∧ sumN f n ≤ 3602879701896396800 := by
  have h1 := sumN_bound (c := 90071992547409920) fun u hu => h u (Nat.lt_of_lt_of_le hu hn)
  omega

def preD (S : Int) (l : List ArcN) (F : List Int) (k : Nat) : Bool := decide (∀ u : Nat, u < k → (u : Int) = S ∨ 0 ≤ exOf l F u)
def rightD (S T : Int) (l : List ArcN) (F : List Int) (k : Nat) : Bool := decide (∀ u : Nat, u < k → (u : Int) = S ∨ (u : Int) = T ∨ exOf l F u = 0)
section
variable {S T : Int} {l : List ArcN} {F : List Int} {k N : Nat}
theorem preD_zero : preD S l F 0 = true := by simp [preD]
theorem rightD_zero : rightD S T l F 0 = true := by simp [rightD]
theorem preD_succ : preD S l F (k + 1) = (preD S l F k && (decide (0 ≤ exOf l F k) || decide ((k : Int) = S))) := by
  rw [Bool.eq_iff_iff]
  simp only [preD, decide_eq_true_eq, Bool.and_eq_true, Bool.or_eq_true]
  constructor
  · intro h
    exact ⟨fun u hu => h u (by omega), (h k (by omega)).symm⟩
  · rintro ⟨h1, h2⟩ u hu
    by_cases e : u = k
    · subst e; exact h2.symm
    · exact h1 u (by omega)
theorem rightD_succ : rightD S T l F (k + 1) = (rightD S T l F k && (decide (exOf l F k = 0) || (decide ((k : Int) = S) || decide ((k : Int) = T)))) := by
  rw [Bool.eq_iff_iff]
  simp only [rightD, decide_eq_true_eq, Bool.and_eq_true, Bool.or_eq_true]
  constructor
  · intro h
    refine ⟨fun u hu => h u (by omega), ?_⟩
    rcases h k (by omega) with h | h | h
    · exact .inr (.inl h)
    · exact .inr (.inr h)
    · exact .inl h
  · rintro ⟨h1, h2⟩ u hu
    by_cases e : u = k
    · subst e
      rcases h2 with h | h | h
      · exact .inr (.inr h)
      · exact .inl h
      · exact .inr (.inl h)
    · exact h1 u (by omega)
theorem preD_iff : preD S l F N = true ↔ PreIn N S l F := by simp only [preD, PreIn, decide_eq_true_eq]
theorem rightD_iff : rightD S T l F N = true ↔ RightIn N S T l F := by simp only [rightD, RightIn, decide_eq_true_eq]
/-- A flow is a preflow just if it is worth something from 0 on. -/
theorem right_pre (hc : checkF N S T l = 0) (h : RightIn N S T l F) : preD S l F N = decide (0 ≤ exOf l F T) := by
  obtain ⟨_, _, _, _, hS0, hS1, hT0, hT1, hST, _, _⟩ := ends_in hc
  obtain ⟨t, rfl⟩ := Int.eq_ofNat_of_zero_le hT0
  rw [Bool.eq_iff_iff, preD_iff, decide_eq_true_eq]
  constructor
  · intro hp
    rcases hp t (by omega) with e | e
    · exact absurd e.symm hST
    · exact e
  · intro h0 u hu
    rcases h u hu with e | e | e
    · exact .inl e
    · have : u = t := by omega
      subst this
      exact .inr h0
    · exact .inr (by omega)
end

end Go.Proofs.Ytmmafibeciaghaa
