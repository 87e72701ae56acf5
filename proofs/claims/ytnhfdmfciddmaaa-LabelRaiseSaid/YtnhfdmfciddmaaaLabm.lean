/- Layer 6: maps for the statements; arcs that are steep or flat, one closed. -/
import Derived.Test.YtnhfdmfciddmaaaLabq
import Derived.Test.YtnhfdmfciddmaaaDrowsl
namespace Go.Proofs.Ytnhfdmfciddmaaa
open Go.RowKit Go.Maps
set_option maxRecDepth 100000

/-! Plain facts. -/
/-- The first i ones are marked by v. -/
def mkTo (L : List Nat) (v : Int) (m : Int → Option Int) (i : Nat) (x : Int) : Option Int := if x ∈ (L.take i).map (fun a : Nat => (a : Int)) then some v else m x
section
variable {L : List Nat} {v : Int} {m : Int → Option Int} {i a : Nat}
theorem mk_zero (x : Int) : mkTo L v m 0 x = m x := by simp [mkTo]
theorem mk_put (h : L[i]? = some a) (x : Int) : mkTo L v m (i + 1) x = if x = (a : Int) then some v else mkTo L v m i x := by
  unfold mkTo
  have hl := (List.getElem?_eq_some_iff.1 h).1
  have e : L.take (i + 1) = L.take i ++ [a] := by
    rw [List.take_add_one, h]; rfl
  rw [e]
  simp only [List.map_append, List.mem_append]
  by_cases hx : x = (a : Int)
  · rw [if_pos hx, if_pos (.inr (by simp [hx]))]
  · rw [if_neg hx]
    by_cases h2 : x ∈ (L.take i).map (fun a : Nat => (a : Int))
    · rw [if_pos h2, if_pos (.inl h2)]
    · rw [if_neg h2, if_neg]
      rintro (h3 | h3)
      · exact h2 h3
      · simp at h3; exact hx h3
theorem mk_all (x : Int) : mkTo L v m L.length x = if x ∈ L.map (fun a : Nat => (a : Int)) then some v else m x := by
  unfold mkTo
  rw [List.take_length]
theorem nat_mem : ((a : Nat) : Int) ∈ L.map (fun a : Nat => (a : Int)) ↔ a ∈ L := by
  rw [List.mem_map]
  constructor
  · rintro ⟨b, hb, e⟩
    have : b = a := by omega
    rwa [← this]
  · intro h; exact ⟨a, h, rfl⟩
theorem mk_new (h : L[i]? = some a) (hn : L.Nodup) : mkTo L v m i (a : Int) = m (a : Int) := by
  unfold mkTo
  rw [if_neg]
  rw [nat_mem]
  intro hc
  have h2 : a ∈ L.drop i := List.mem_of_getElem? (i := 0) (by rw [List.getElem?_drop]; exact h)
  have h3 := hn
  rw [← List.take_append_drop i L, List.nodup_append] at h3
  exact h3.2.2 a hc a h2 rfl
end

section
variable {N M s t nX k : Nat} {hd rv : Nat → Nat} {X H : List Int} {q : Int → Bool} {a : Nat}
theorem slps_nodup : (slps N M s t nX hd rv X H q).Nodup := by
  unfold slps
  split
  · exact sel_nodup
  · exact List.nodup_nil
theorem slps_in (hH : HtIs N s t H) : a ∈ slps N M s t M hd rv X H q ↔ a < M ∧ opn X a = true ∧ hd (rv a) ≠ s ∧ q (hOf H (hd (rv a)) - hOf H (hd a)) = true := by
  unfold slps
  rw [if_pos ⟨rfl, rightB_yes.2 hH⟩, sel_mem, slp_iff]
theorem slps_lt (h : a ∈ slps N M s t nX hd rv X H q) : a < M := by
  unfold slps at h
  split at h
  · exact (sel_mem.1 h).1
  · simp at h
theorem opn_set {y : Int} (hk : k < X.length) : opn (X.set k y) a = if a = k then decide (0 < y) else opn X a := by
  unfold opn
  rw [List.getElem?_set]
  by_cases e : k = a
  · subst e; simp [hk]
  · rw [if_neg e, if_neg (fun h => e h.symm)]
/-- With one arc closed: no answer names it. -/
theorem closed_out (hH : HtIs N s t H) (hk : k < X.length) (h : a ∈ slps N M s t M hd rv (X.set k 0) H q) : a ≠ k := by
  rintro rfl
  have := ((slps_in hH).1 h).2.1
  rw [opn_set hk, if_pos rfl] at this
  simp at this
/-- With one arc closed: valid just if none other was steep. -/
theorem closed_valid (hH : HtIs N s t H) (hk : k < X.length) : validB N M s t M hd rv (X.set k 0) H = true ↔ ∀ a, a ∈ slps N M s t M hd rv X H qSteep → a = k := by
  rw [valid_iff]
  constructor
  · rintro ⟨-, h⟩ a ha
    obtain ⟨h1, h2, h3, h4⟩ := (slps_in hH).1 ha
    apply Classical.byContradiction
    intro hne
    have := h a h1 (by rw [opn_set hk, if_neg hne]; exact h2) h3
    unfold qSteep at h4
    rw [decide_eq_true_eq] at h4
    omega
  · intro h
    refine ⟨hH, fun a ha ho hs => ?_⟩
    rw [opn_set hk] at ho
    by_cases e : a = k
    · rw [if_pos e] at ho; simp at ho
    · rw [if_neg e] at ho
      apply Classical.byContradiction
      intro hc
      exact e (h a ((slps_in hH).2 ⟨ha, ho, hs, by unfold qSteep; rw [decide_eq_true_eq]; omega⟩))
end

/-! Memory. -/
theorem own_map {w w' : World} {base n b : Nat} {e : TypeId} {size : Nat} {v : Value} {xs : List Value} (h : w.ownsRow base e size v n xs) (hg : w.grownBy w' (some b)) (hb : b < base) : w'.ownsRow base e size v n xs :=
  h.kept hg (by
    cases hv : v.ownBlock with
    | none => exact .inl rfl
    | some g => exact .inr (by
        have := (h.lt g hv).1
        intro e
        injection e with e
        omega))
theorem own_nat {w : World} {base c n i a : Nat} {A : Option Addr} {L : List Nat} (h : w.ownsRow base 3 1 (.slice A n c) n (nvs L)) (hn : L.length = n) (hi : L[i]? = some a) : ∃ g, A = some ⟨g, 0, none⟩ ∧ g < w.heap.size ∧ w.cell? ⟨g, i, none⟩ = some (.int .i64 (a : Int)) := by
  have hil := (List.getElem?_eq_some_iff.1 hi).1
  rcases h.2 with ⟨h0, h1⟩ | ⟨g, cap, cur, hv, _⟩
  · injection h0 with _ h2
    omega
  · injection hv with hA
    subst hA
    refine ⟨g, rfl, (h.lt g rfl).2, ?_⟩
    rw [h.cellAt i (by omega)]
    simp [nvs, hi]

end Go.Proofs.Ytnhfdmfciddmaaa
