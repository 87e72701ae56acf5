/- Layer 5: Rows. -/
import Derived.Test.YtanifbofjecpmaaLab
namespace Go.Proofs.Ytanifbofjecpmaa
open Go.RowKit
set_option maxRecDepth 100000

/-- The vertices below n at distance k. -/
def rowK (d : Nat → Nat) (n k : Nat) : List Nat := (List.range n).filter fun v => d v == k
/-- The rows of the first v vertices. -/
structure RowsTo (N : Nat) (d : Nat → Nat) (v : Nat) (L : List (List Nat)) : Prop where
  ent : ∀ (k : Nat) (r : List Nat), L[k]? = some r → r = rowK d v k
  top : ∀ u, u < v → d u < N → d u < L.length
  low : ∀ k, k < L.length → ∃ u, u < v ∧ d u < N ∧ k ≤ d u
/-- The same, with empty rows behind, up to that of v. -/
structure RowsMid (N : Nat) (d : Nat → Nat) (v : Nat) (L : List (List Nat)) : Prop where
  ent : ∀ (k : Nat) (r : List Nat), L[k]? = some r → r = rowK d v k
  top : ∀ u, u < v → d u < N → d u < L.length
  low : ∀ k, k < L.length → (∃ u, u < v ∧ d u < N ∧ k ≤ d u) ∨ k ≤ d v
section
variable {N v k : Nat} {d : Nat → Nat} {L : List (List Nat)}
theorem rowK_succ (d : Nat → Nat) (v k : Nat) : rowK d (v + 1) k = rowK d v k ++ (if d v = k then [v] else []) := by
  unfold rowK
  rw [List.range_succ, List.filter_append]
  by_cases h : d v = k <;> simp [h]
theorem rowK_mem {u : Nat} : u ∈ rowK d v k ↔ u < v ∧ d u = k := by simp [rowK]
theorem RowsTo.zero (N : Nat) (d : Nat → Nat) : RowsTo N d 0 [] := ⟨fun k r h => by simp at h, fun u h => absurd h (by omega), fun k h => by simp at h⟩
theorem RowsTo.skip (h : RowsTo N d v L) (hv : d v = N) : RowsTo N d (v + 1) L := by
  refine ⟨fun k r hr => ?_, fun u hu hd => ?_, fun k hk => ?_⟩
  · have hk := (List.getElem?_eq_some_iff.1 hr).1
    obtain ⟨u, h1, h2, h3⟩ := h.low k hk
    rw [rowK_succ, if_neg (by omega), List.append_nil]
    exact h.ent k r hr
  · have e : u ≠ v := fun e => by subst e; omega
    exact h.top u (by omega) hd
  · obtain ⟨u, h1, h2⟩ := h.low k hk
    exact ⟨u, by omega, h2⟩
theorem RowsTo.mid (h : RowsTo N d v L) : RowsMid N d v L := ⟨h.ent, h.top, fun k hk => .inl (h.low k hk)⟩
theorem RowsMid.grow (h : RowsMid N d v L) (hl : L.length ≤ d v) (hv : d v < N) : RowsMid N d v (L ++ [[]]) := by
  refine ⟨fun k r hr => ?_, fun u hu hd => ?_, fun k hk => ?_⟩
  · by_cases hk : k < L.length
    · rw [List.getElem?_append_left hk] at hr
      exact h.ent k r hr
    · have h2 := (List.getElem?_eq_some_iff.1 hr).1
      simp at h2
      have e : k = L.length := by omega
      subst e
      simp at hr
      subst hr
      symm
      rw [List.eq_nil_iff_forall_not_mem]
      intro u hu
      obtain ⟨h3, h4⟩ := rowK_mem.1 hu
      have := h.top u h3 (by omega)
      omega
  · have := h.top u hu hd
    simp; omega
  · simp at hk
    by_cases hk2 : k < L.length
    · exact h.low k hk2
    · exact .inr (by omega)
theorem RowsMid.add (h : RowsMid N d v L) (hl : d v < L.length) (hv : d v < N) : RowsTo N d (v + 1) (L.set (d v) (rowK d v (d v) ++ [v])) := by
  refine ⟨fun k r hr => ?_, fun u hu hd => ?_, fun k hk => ?_⟩
  · rw [rowK_succ]
    by_cases e : d v = k
    · subst e
      rw [List.getElem?_set_self hl] at hr
      injection hr with hr
      rw [if_pos rfl, ← hr]
    · rw [List.getElem?_set_ne e] at hr
      rw [if_neg e, List.append_nil]
      exact h.ent k r hr
  · rw [List.length_set]
    by_cases e : u = v
    · subst e; exact hl
    · exact h.top u (by omega) hd
  · rw [List.length_set] at hk
    rcases h.low k hk with ⟨u, h1, h2⟩ | h1
    · exact ⟨u, by omega, h2⟩
    · exact ⟨v, by omega, hv, h1⟩
end

/-- The rows that the numbers lie in. -/
def InnerOf (L : List (List Nat)) (inner : List Rw) : Prop := inner.length = L.length ∧ ∀ (k : Nat) (r : Rw) (l : List Nat), inner[k]? = some r → L[k]? = some l → r.t = 3 ∧ r.n = l.length ∧ r.xs = nvs l
theorem InnerOf.grow {L : List (List Nat)} {inner : List Rw} (h : InnerOf L inner) : InnerOf (L ++ [[]]) (inner ++ [⟨3, none, 0, 0, []⟩]) := by
  refine ⟨by simp [h.1], fun k r l hr hl => ?_⟩
  by_cases hk : k < inner.length
  · rw [List.getElem?_append_left hk] at hr
    rw [List.getElem?_append_left (by rw [← h.1]; exact hk)] at hl
    exact h.2 k r l hr hl
  · have h2 := (List.getElem?_eq_some_iff.1 hr).1
    simp at h2
    have e : k = inner.length := by omega
    subst e
    simp at hr
    subst hr
    rw [h.1] at hl
    simp at hl
    subst hl
    exact ⟨rfl, rfl, rfl⟩
theorem InnerOf.put {L : List (List Nat)} {inner : List Rw} {k : Nat} {l : List Nat} {r : Rw} (h : InnerOf L inner) (ht : r.t = 3) (hn : r.n = l.length) (hx : r.xs = nvs l) : InnerOf (L.set k l) (inner.set k r) := by
  refine ⟨by simp [h.1], fun j r' l' hr hl => ?_⟩
  by_cases e : k = j
  · subst e
    have h1 := (List.getElem?_eq_some_iff.1 hr).1
    have h2 := (List.getElem?_eq_some_iff.1 hl).1
    rw [List.length_set] at h1 h2
    rw [List.getElem?_set_self h1] at hr
    rw [List.getElem?_set_self h2] at hl
    injection hr with hr
    injection hl with hl
    subst hr; subst hl
    exact ⟨ht, hn, hx⟩
  · rw [List.getElem?_set_ne e] at hr hl
    exact h.2 j r' l' hr hl

/-- A slice that reads as rows of numbers. -/
def RowsAt (w : World) (x : Nat) (A : Option Addr) (n : Nat) (L : List (List Nat)) : Prop :=
  L.length = n ∧ (0 < n → ∃ b off, A = some ⟨b, off, none⟩ ∧ b < x ∧ ∀ (k : Nat) (l : List Nat), L[k]? = some l → ∃ Ak ck, w.cell? ⟨b, off + k, none⟩ = some (.slice Ak l.length ck) ∧ Ints w x Ak l.length (l.map fun v : Nat => (v : Int)))
theorem RowsAt.below {w w' : World} {x n : Nat} {A : Option Addr} {L : List (List Nat)} (h : RowsAt w x A n L) (hb : Below x w w') : RowsAt w' x A n L :=
  ⟨h.1, fun hn => by
    obtain ⟨b, off, e, h1, h2⟩ := h.2 hn
    refine ⟨b, off, e, h1, fun k l hl => ?_⟩
    obtain ⟨Ak, ck, h3, h4⟩ := h2 k l hl
    exact ⟨Ak, ck, (hb.cell (p := ⟨b, off + k, none⟩) h1).trans h3, h4.below hb⟩⟩
theorem RowsAt.more {w : World} {x y n : Nat} {A : Option Addr} {L : List (List Nat)} (h : RowsAt w x A n L) (hb : x ≤ y) : RowsAt w y A n L :=
  ⟨h.1, fun hn => by
    obtain ⟨b, off, e, h1, h2⟩ := h.2 hn
    refine ⟨b, off, e, by omega, fun k l hl => ?_⟩
    obtain ⟨Ak, ck, h3, h4⟩ := h2 k l hl
    exact ⟨Ak, ck, h3, h4.more hb⟩⟩
theorem RowsAt.on {w w' : World} {n : Nat} {A : Option Addr} {L : List (List Nat)} (h : RowsAt w w.heap.size A n L) (hb : Below w.heap.size w w') : RowsAt w' w'.heap.size A n L := (h.below hb).more hb.size
theorem Hx.rows {w0 w : World} {base c : Nat} {A : Option Addr} {L : List (List Nat)} {inner : List Rw} (h : Hx w0 w base (⟨27, A, L.length, c, inner.map Rw.v⟩ :: inner)) (hi : InnerOf L inner) : RowsAt w w.heap.size A L.length L := by
  refine ⟨rfl, fun hn => ?_⟩
  obtain ⟨g, hg, _, hgl⟩ := own_form (h.held.own 0 _ rfl) hn
  simp only at hg
  subst hg
  refine ⟨g, 0, rfl, hgl, fun k l hl => ?_⟩
  have hk := (List.getElem?_eq_some_iff.1 hl).1
  obtain ⟨r, hr⟩ : ∃ r, inner[k]? = some r := ⟨_, List.getElem?_eq_getElem (by rw [hi.1]; exact hk)⟩
  obtain ⟨h1, h2, h3⟩ := hi.2 k r l hr hl
  obtain ⟨t, A, n, c', xs⟩ := r
  simp only at h1 h2 h3
  subst h1; subst h2; subst h3
  refine ⟨A, c', ?_, ?_⟩
  · rw [Nat.zero_add]
    exact (h.cell (i := 0) rfl hk (u := .slice A l.length c') (by simp [hr])).1
  · have e : nvs l = (l.map fun v : Nat => (v : Int)).map (Value.int .i64) := by unfold nvs; rw [List.map_map]; rfl
    exact h.held.ints (i := k + 1) (by rw [← e]; simpa using hr) (by simp)

def lenR : Value → Nat
  | .slice _ n _ => n
  | _ => 0

/-- Rows are answered. -/
def RetRows (R : Nat → Nat → Prop) (N t : Nat) (w : World) (e : Ending) (w' : World) : Prop :=
  ∃ (A : Option Addr) (n c : Nat) (L : List (List Nat)) (d : Nat → Nat), e = .returned (.slice A n c) ∧ IsDist R N t d ∧ RowsTo N d N L ∧ RowsAt w' w'.heap.size A n L ∧ Below w.heap.size w w'


end Go.Proofs.Ytanifbofjecpmaa
