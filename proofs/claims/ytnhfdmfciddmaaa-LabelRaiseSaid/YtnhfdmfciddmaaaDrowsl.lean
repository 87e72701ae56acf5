/- DistRows: the walk. -/
import Derived.Test.YtnhfdmfciddmaaaDsteps
import Derived.Test.YtnhfdmfciddmaaaMaps
namespace Go.Proofs.Ytnhfdmfciddmaaa
open Go.RowKit Go.Maps
set_option maxRecDepth 100000

section
variable {N k u v i : Nat} {d : Nat → Nat} {R : Nat → Nat → Prop} {t : Nat}
theorem rowK_pw (d : Nat → Nat) (n k : Nat) : (rowK d n k).Pairwise (· < ·) := List.Pairwise.filter _ List.pairwise_lt_range
theorem rowK_lt {i j a b : Nat} (h : i < j) (ha : (rowK d N k)[i]? = some a) (hb : (rowK d N k)[j]? = some b) : a < b := by
  obtain ⟨hi, rfl⟩ := List.getElem?_eq_some_iff.1 ha
  obtain ⟨hj, rfl⟩ := List.getElem?_eq_some_iff.1 hb
  exact List.pairwise_iff_getElem.1 (rowK_pw d N k) i j hi hj h
theorem rowK_at {i a : Nat} (ha : (rowK d N k)[i]? = some a) : a < N ∧ d a = k := rowK_mem.1 (List.mem_of_getElem? ha)
theorem rowK_find {a : Nat} (h1 : a < N) (h2 : d a = k) : ∃ i : Nat, (rowK d N k)[i]? = some a := List.getElem?_of_mem (rowK_mem.2 ⟨h1, h2⟩)
/-- Up to row k, and in it up to vertex u, each vertex is met once. -/
def metF (d : Nat → Nat) (N k u : Nat) : Int → Option Int := fun x => if 0 ≤ x ∧ x < (N : Int) ∧ (d x.toNat < k ∨ (d x.toNat = k ∧ x.toNat < u)) then some 1 else none
/-- The first i of row k are those below u. -/
def Seen (d : Nat → Nat) (N k i u : Nat) : Prop := ∀ (j a : Nat), (rowK d N k)[j]? = some a → (a < u ↔ j < i)
theorem seen_zero : Seen d N k 0 0 := fun j a _ => by omega
theorem Seen.step (hv : (rowK d N k)[i]? = some v) : Seen d N k (i + 1) (v + 1) := by
  intro j a ha
  rcases Nat.lt_trichotomy j i with h | h | h
  · have := rowK_lt h ha hv
    omega
  · subst h
    rw [hv] at ha
    injection ha with ha
    omega
  · have := rowK_lt h hv ha
    omega
theorem met_new (h : Seen d N k i u) (hv : (rowK d N k)[i]? = some v) : metF d N k u (v : Int) = none := by
  unfold metF
  have h1 := (rowK_at hv).2
  have h2 := h i v hv
  rw [if_neg]
  rintro ⟨_, _, h3⟩
  rw [Int.toNat_natCast] at h3
  omega
theorem met_put (h : Seen d N k i u) (hv : (rowK d N k)[i]? = some v) (x : Int) : metF d N k (v + 1) x = (if x = (v : Int) then some 1 else metF d N k u x) := by
  obtain ⟨h1, h2⟩ := rowK_at hv
  by_cases e : x = (v : Int)
  · subst e
    rw [if_pos rfl]
    unfold metF
    rw [if_pos]
    rw [Int.toNat_natCast]
    omega
  · rw [if_neg e]
    unfold metF
    have key : (0 ≤ x ∧ x < (N : Int) ∧ (d x.toNat < k ∨ (d x.toNat = k ∧ x.toNat < v + 1))) ↔ (0 ≤ x ∧ x < (N : Int) ∧ (d x.toNat < k ∨ (d x.toNat = k ∧ x.toNat < u))) := by
      have hh : 0 ≤ x → x < (N : Int) → d x.toNat = k → (x.toNat < v + 1 ↔ x.toNat < u) := by
        intro h3 h4 h5
        obtain ⟨j, hj⟩ := rowK_find (N := N) (show x.toNat < N by omega) h5
        have h6 := h j _ hj
        have h7 := Seen.step hv j _ hj
        have h8 : j ≠ i := by
          intro e'
          subst e'
          rw [hv] at hj
          injection hj with hj
          omega
        omega
      constructor
      · rintro ⟨h3, h4, h5⟩
        refine ⟨h3, h4, ?_⟩
        rcases h5 with h5 | ⟨h5, h6⟩
        · exact .inl h5
        · exact .inr ⟨h5, (hh h3 h4 h5).1 h6⟩
      · rintro ⟨h3, h4, h5⟩
        refine ⟨h3, h4, ?_⟩
        rcases h5 with h5 | ⟨h5, h6⟩
        · exact .inl h5
        · exact .inr ⟨h5, (hh h3 h4 h5).2 h6⟩
    by_cases hc : 0 ≤ x ∧ x < (N : Int) ∧ (d x.toNat < k ∨ (d x.toNat = k ∧ x.toNat < u))
    · rw [if_pos hc, if_pos (key.2 hc)]
    · rw [if_neg hc, if_neg (fun h' => hc (key.1 h'))]
theorem met_end (h : Seen d N k i u) (hi : (rowK d N k).length = i) (x : Int) : metF d N (k + 1) 0 x = metF d N k u x := by
  unfold metF
  have key : (0 ≤ x ∧ x < (N : Int) ∧ (d x.toNat < k + 1 ∨ (d x.toNat = k + 1 ∧ x.toNat < 0))) ↔ (0 ≤ x ∧ x < (N : Int) ∧ (d x.toNat < k ∨ (d x.toNat = k ∧ x.toNat < u))) := by
    have hh : 0 ≤ x → x < (N : Int) → d x.toNat = k → x.toNat < u := by
      intro h3 h4 h5
      obtain ⟨j, hj⟩ := rowK_find (N := N) (show x.toNat < N by omega) h5
      have := (List.getElem?_eq_some_iff.1 hj).1
      exact (h j _ hj).2 (by omega)
    constructor
    · rintro ⟨h3, h4, h5⟩
      refine ⟨h3, h4, ?_⟩
      by_cases e : d x.toNat = k
      · exact .inr ⟨e, hh h3 h4 e⟩
      · exact .inl (by omega)
    · rintro ⟨h3, h4, h5⟩
      exact ⟨h3, h4, by omega⟩
  by_cases hc : 0 ≤ x ∧ x < (N : Int) ∧ (d x.toNat < k ∨ (d x.toNat = k ∧ x.toNat < u))
  · rw [if_pos hc, if_pos (key.2 hc)]
  · rw [if_neg hc, if_neg (fun h' => hc (key.1 h'))]
theorem met_none (x : Int) : metF d N 0 0 x = none := by
  unfold metF
  rw [if_neg]
  omega
theorem met_all (hv : v < N) : metF d N k 0 (v : Int) = if d v < k then some 1 else none := by
  unfold metF
  rw [Int.toNat_natCast]
  by_cases h : d v < k
  · rw [if_pos h, if_pos (by omega)]
  · rw [if_neg h, if_neg (by omega)]
/-- Each distance up to one that occurs occurs. -/
theorem IsDist.level (h : IsDist R N t d) (ht : t < N) : ∀ {j u : Nat}, u < N → d u < N → k ≤ d u → d u = k + j → ∃ x, x < N ∧ d x = k := by
  intro j
  induction j with
  | zero => intro u h1 _ _ h4; exact ⟨u, h1, h4⟩
  | succ j ih =>
    intro u h1 h2 h3 h4
    by_cases e : u = t
    · subst e
      rw [h.zero] at h4
      omega
    · obtain ⟨x, k1, _, k3⟩ := h.near u h1 h2 e
      exact ih k1 (by omega) (by omega) (by omega)
theorem row_some (h : IsDist R N t d) (ht : t < N) {L : List (List Nat)} (hR : RowsTo N d N L) (hk : k < L.length) : ∃ a, (rowK d N k)[0]? = some a ∧ 0 < (rowK d N k).length := by
  obtain ⟨u, h1, h2, h3⟩ := hR.low k hk
  obtain ⟨x, h4, h5⟩ := h.level ht h1 h2 h3 (j := d u - k) (by omega)
  obtain ⟨j, hj⟩ := rowK_find h4 h5
  have := (List.getElem?_eq_some_iff.1 hj).1
  exact ⟨_, List.getElem?_eq_getElem (by omega), by omega⟩
theorem row_first (h : IsDist R N t d) (ht : t < N) : rowK d N 0 = [t] := by
  obtain ⟨j, hj⟩ := rowK_find (N := N) ht h.zero
  have only : ∀ (j a : Nat), (rowK d N 0)[j]? = some a → a = t := fun j a ha => (h.zero_iff (rowK_at ha).1).1 (rowK_at ha).2
  have hl : (rowK d N 0).length = 1 := by
    have h1 := (List.getElem?_eq_some_iff.1 hj).1
    by_cases h2 : 1 < (rowK d N 0).length
    · have e0 := List.getElem?_eq_getElem (l := rowK d N 0) (i := 0) (by omega)
      have e1 := List.getElem?_eq_getElem h2
      have := rowK_lt (by omega) e0 e1
      have := only _ _ e0
      have := only _ _ e1
      omega
    · omega
  obtain ⟨a, ha⟩ := List.length_eq_one_iff.1 hl
  rw [ha]
  have := only 0 a (by rw [ha]; rfl)
  rw [this]
theorem rows_len {L : List (List Nat)} (hR : RowsTo N d N L) : L.length ≤ N := by
  rcases Nat.lt_or_ge N L.length with hc | hc
  · obtain ⟨u, h1, h2, h3⟩ := hR.low N hc
    omega
  · exact hc
theorem rowK_len (d : Nat → Nat) (N k : Nat) : (rowK d N k).length ≤ N := by
  have := List.length_filter_le (fun v => d v == k) (List.range N)
  simpa [rowK] using this
end

section
variable {κ : Type} {key : κ → Value} {P : Program} {kT eT : TypeId} {w w' : World} {b n : Nat} {m : κ → Option Int}
theorem MapsTo.cell_ne (h : MapsTo key P kT eT w b n m) {p : Addr} {v : Value} (hc : w.cell? p = some v) : some p.block ≠ some b := by
  intro e
  injection e with e
  obtain ⟨D, ⟨es, clock, hb, _⟩, _⟩ := h
  unfold World.cell? at hc
  rw [e, hb] at hc
  simp at hc
end
/-- All that reads in one world reads so in the other. -/
structure Keeps (w w' : World) : Prop where
  cell : ∀ (p : Addr) (v : Value), w.cell? p = some v → w'.cell? p = some v
  size : w.heap.size ≤ w'.heap.size
theorem Keeps.refl (w : World) : Keeps w w := ⟨fun _ _ h => h, Nat.le_refl _⟩
theorem Keeps.grown {κ : Type} {key : κ → Value} {P : Program} {kT eT : TypeId} {w0 w w' : World} {b n : Nat} {m : κ → Option Int} (h : Keeps w0 w) (hM : MapsTo key P kT eT w b n m) (hg : w.grownBy w' (some b)) : Keeps w0 w' :=
  ⟨fun p v hc => by have h1 := h.cell p v hc; exact hg.cell h1 (hM.cell_ne h1), Nat.le_trans h.size hg.size⟩

def intV (x : Int) : Value := .int .i64 x
theorem intV_inj : ∀ x y : Int, intV x = intV y → x = y := by
  intro x y h
  simpa [intV] using h
theorem zero_int (w : World) : (zeroValue 3).run Try.prog w = .ok (.int .i64 0) w := by kernel_rfl
theorem keyInt {x : Int} (h : InR x) : keyOf Try.prog 3 (intV x) = some (.int .i64 x) := keyOf_int_mk Try.underlying3 (wf_i64 h)


end Go.Proofs.Ytnhfdmfciddmaaa
