/- Layer 6: heights: plain facts; what the program's calls answer. -/
import Derived.Test.YtgjokddcaadjdaaTofrom
import Derived.Test.YtgjokddcaadjdaaSearch

namespace Go.Proofs.Ytgjokddcaadjdaa
open Go.RowKit
set_option maxRecDepth 100000

/-! Plain facts. -/
def hOf (H : List Int) (v : Nat) : Int := (H[v]?).getD 0
theorem hOf_at {H : List Int} {v : Nat} {x : Int} (h : H[v]? = some x) : hOf H v = x := by simp [hOf, h]
theorem hOf_get {H : List Int} {v n : Nat} (hl : H.length = n) (h : v < n) : H[v]? = some (hOf H v) := by
  unfold hOf
  rw [List.getElem?_eq_getElem (by omega)]; rfl
/-- These are heights. -/
structure HtIs (N s t : Nat) (H : List Int) : Prop where
  len : H.length = N
  src : hOf H s = N
  snk : hOf H t = 0
  bnd : ∀ v, v < N → 0 ≤ hOf H v ∧ hOf H v ≤ N
open Classical in
noncomputable def htsB (N s t : Nat) (H : List Int) : Bool := decide (HtIs N s t H)
theorem htsB_yes {N s t : Nat} {H : List Int} : htsB N s t H = true ↔ HtIs N s t H := by simp [htsB]
theorem htsB_no {N s t : Nat} {H : List Int} (h : ¬ HtIs N s t H) : htsB N s t H = false := by simp [htsB, h]

def selTo (p : Nat → Bool) (k : Nat) : List Nat := (List.range k).filter p
section
variable {p q : Nat → Bool} {k a : Nat}
theorem sel_yes (h : p k = true) : selTo p (k + 1) = selTo p k ++ [k] := by simp [selTo, List.range_succ, List.filter_append, h]
theorem sel_no (h : p k = false) : selTo p (k + 1) = selTo p k := by simp [selTo, List.range_succ, List.filter_append, h]
theorem sel_len (p : Nat → Bool) (k : Nat) : (selTo p k).length ≤ k := by
  have := List.length_filter_le p (List.range k)
  simpa [selTo] using this
theorem sel_mem : a ∈ selTo p k ↔ a < k ∧ p a = true := by simp [selTo]
theorem sel_nil : selTo p k = [] ↔ ∀ a, a < k → p a = false := by
  rw [List.eq_nil_iff_forall_not_mem]
  constructor
  · intro h a ha
    cases hp : p a with
    | false => rfl
    | true => exact absurd (sel_mem.2 ⟨ha, hp⟩) (h a)
  · intro h a ha
    have := sel_mem.1 ha
    rw [h a this.1] at this
    exact absurd this.2 (by simp)
theorem sel_congr (h : ∀ a, a < k → p a = q a) : selTo p k = selTo q k := by
  unfold selTo
  apply List.filter_congr
  intro a ha
  exact h a (by simpa using ha)
theorem sel_nodup : (selTo p k).Nodup := List.nodup_range.filter _
end
/-- Is residual arc a open, not of s, and leads down as asked? -/
def slp (s : Nat) (hd rv : Nat → Nat) (X H : List Int) (q : Int → Bool) (a : Nat) : Bool := opn X a && decide (hd (rv a) ≠ s) && q (hOf H (hd (rv a)) - hOf H (hd a))
theorem slp_iff {s : Nat} {hd rv : Nat → Nat} {X H : List Int} {q : Int → Bool} {a : Nat} : slp s hd rv X H q a = true ↔ opn X a = true ∧ hd (rv a) ≠ s ∧ q (hOf H (hd (rv a)) - hOf H (hd a)) = true := by
  simp [slp, and_assoc]
/-- The steep ones, or the flat ones; none if the numbers do not fit, or the heights are not right. -/
noncomputable def slps (N M s t nX : Nat) (hd rv : Nat → Nat) (X H : List Int) (q : Int → Bool) : List Nat := if nX = M ∧ htsB N s t H = true then selTo (slp s hd rv X H q) M else []
def qSteep (x : Int) : Bool := decide (1 < x)
def qFlat (x : Int) : Bool := decide (x = 1)
theorem slps_len {N M s t nX : Nat} {hd rv : Nat → Nat} {X H : List Int} {q : Int → Bool} : (slps N M s t nX hd rv X H q).length ≤ M := by
  unfold slps
  split
  · exact sel_len _ _
  · simp
/-- The lowest open end of u: the first one. -/
structure LowIs (fst hd : Nat → Nat) (X H : List Int) (u a : Nat) : Prop where
  r1 : fst u ≤ a
  r2 : a < fst (u + 1)
  op : opn X a = true
  le : ∀ b, fst u ≤ b → b < fst (u + 1) → opn X b = true → hOf H (hd a) ≤ hOf H (hd b)
  lt : ∀ b, fst u ≤ b → b < a → opn X b = true → hOf H (hd a) < hOf H (hd b)
def LowAns (N M s t nX : Nat) (fst hd : Nat → Nat) (X H : List Int) (u : Int) (a x : Int) (ok : Bool) : Prop :=
  (ok = true ∧ nX = M ∧ HtIs N s t H ∧ ∃ v b : Nat, u = v ∧ v < N ∧ a = b ∧ LowIs fst hd X H v b ∧ x = hOf H (hd b)) ∨
  (ok = false ∧ a = 0 ∧ x = 0 ∧ ¬ (nX = M ∧ HtIs N s t H ∧ ∃ v b : Nat, u = v ∧ v < N ∧ fst v ≤ b ∧ b < fst (v + 1) ∧ opn X b = true))
theorem LowIs.same {fst hd : Nat → Nat} {X H : List Int} {u a b : Nat} (h : LowIs fst hd X H u a) (h' : LowIs fst hd X H u b) : a = b := by
  rcases Nat.lt_trichotomy a b with hl | hl | hl
  · have h1 := h'.lt a h.r1 hl h.op
    have h2 := h.le b h'.r1 h'.r2 h'.op
    omega
  · exact hl
  · have h1 := h.lt b h'.r1 hl h'.op
    have h2 := h'.le a h.r1 h.r2 h.op
    omega
theorem LowAns.same {N M s t nX : Nat} {fst hd : Nat → Nat} {X H : List Int} {u a x a' x' : Int} {ok ok' : Bool} (h : LowAns N M s t nX fst hd X H u a x ok) (h' : LowAns N M s t nX fst hd X H u a' x' ok') : a = a' ∧ x = x' ∧ ok = ok' := by
  rcases h with ⟨e1, h1, h2, v, b, rfl, h3, rfl, h4, rfl⟩ | ⟨e1, rfl, rfl, h1⟩
  · rcases h' with ⟨e2, g1, g2, v', b', hv, g3, rfl, g4, rfl⟩ | ⟨e2, rfl, rfl, g1⟩
    · have : v = v' := by omega
      subst this
      have := h4.same g4
      subst this
      exact ⟨rfl, rfl, e1.trans e2.symm⟩
    · exact absurd ⟨h1, h2, v, b, rfl, h3, h4.r1, h4.r2, h4.op⟩ g1
  · rcases h' with ⟨e2, g1, g2, v', b', rfl, g3, rfl, g4, rfl⟩ | ⟨e2, rfl, rfl, g1⟩
    · exact absurd ⟨g1, g2, v', b', rfl, g3, g4.r1, g4.r2, g4.op⟩ h1
    · exact ⟨rfl, rfl, e1.trans e2.symm⟩

/-! Answers in memory. -/
/-- These numbers are answered, in a row of the call's own. -/
def RetSel (L : List Nat) (w : World) (e : Ending) (w' : World) : Prop :=
  ∃ (A : Option Addr) (c : Nat), e = .returned (.slice A L.length c) ∧ w'.ownsRow w.heap.size 3 1 (.slice A L.length c) L.length (nvs L) ∧ Below w.heap.size w w'
theorem own_nums {w : World} {base c : Nat} {A : Option Addr} {L : List Nat} (h : w.ownsRow base 3 1 (.slice A L.length c) L.length (nvs L)) : Ints w w.heap.size A L.length (L.map fun v : Nat => (v : Int)) :=
  RdBy.of_own (by simp) (int_len _) (by rw [← ivs_flat, List.map_map]; exact h)


end Go.Proofs.Ytgjokddcaadjdaa
