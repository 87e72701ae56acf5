/- DistMore: the walk. -/
import Derived.Test.YtnhfdmfciddmaaaDsteps
namespace Go.Proofs.Ytnhfdmfciddmaaa
open Go.RowKit
set_option maxRecDepth 100000

/-- What is left, more of it where the list says so; and more of it where there is some. -/
def moreL (X : List Int) (KO : List Bool) (M k : Nat) : List Int := tab M fun i => (X[i]?).getD 0 + (if i < k ∧ KO[i]? = some true then 1 else 0)
def twiceL (X : List Int) (M k : Nat) : List Int := tab M fun i => (X[i]?).getD 0 + (if i < k ∧ 0 < (X[i]?).getD 0 then ((i % 7 : Nat) : Int) else 0)
section
variable {X : List Int} {KO : List Bool} {M k : Nat} {x : Int}
theorem more_zero (h : X.length = M) : moreL X KO M 0 = X := by
  refine (tab_ext h fun i hi => ?_).symm
  obtain ⟨x, hx⟩ : ∃ x, X[i]? = some x := ⟨_, List.getElem?_eq_getElem (by omega)⟩
  simp [hx]
theorem twice_zero (h : X.length = M) : twiceL X M 0 = X := by
  refine (tab_ext h fun i hi => ?_).symm
  obtain ⟨x, hx⟩ : ∃ x, X[i]? = some x := ⟨_, List.getElem?_eq_getElem (by omega)⟩
  simp [hx]
theorem more_at (hk : k < M) (hx : X[k]? = some x) : (moreL X KO M k)[k]? = some x := by
  unfold moreL
  rw [tab_at hk, hx, if_neg (by omega)]
  simp
theorem twice_at (hk : k < M) (hx : X[k]? = some x) : (twiceL X M k)[k]? = some x := by
  unfold twiceL
  rw [tab_at hk, hx, if_neg (by omega)]
  simp
theorem more_put (hx : X[k]? = some x) (hK : KO[k]? = some true) : (moreL X KO M k).set k (x + 1) = moreL X KO M (k + 1) := by
  unfold moreL
  rw [tab_set]
  refine tab_congr fun i hi => ?_
  by_cases e : i = k
  · subst e
    rw [if_pos rfl, hx, if_pos ⟨by omega, hK⟩]; rfl
  · rw [if_neg e]
    by_cases h : i < k ∧ KO[i]? = some true
    · rw [if_pos h, if_pos ⟨by omega, h.2⟩]
    · rw [if_neg h, if_neg (fun h' => h ⟨by omega, h'.2⟩)]
theorem more_skip (hK : ¬ KO[k]? = some true) : moreL X KO M k = moreL X KO M (k + 1) := by
  unfold moreL
  refine tab_congr fun i hi => ?_
  by_cases h : i < k ∧ KO[i]? = some true
  · rw [if_pos h, if_pos ⟨by omega, h.2⟩]
  · rw [if_neg h, if_neg (fun h' => by
      by_cases e : i = k
      · subst e; exact hK h'.2
      · exact h ⟨by omega, h'.2⟩)]
theorem twice_put (hx : X[k]? = some x) (hK : 0 < x) : (twiceL X M k).set k (x + ((k % 7 : Nat) : Int)) = twiceL X M (k + 1) := by
  unfold twiceL
  rw [tab_set]
  refine tab_congr fun i hi => ?_
  by_cases e : i = k
  · subst e
    rw [if_pos rfl, hx, if_pos ⟨by omega, hK⟩]; rfl
  · rw [if_neg e]
    by_cases h : i < k ∧ 0 < (X[i]?).getD 0
    · rw [if_pos h, if_pos ⟨by omega, h.2⟩]
    · rw [if_neg h, if_neg (fun h' => h ⟨by omega, h'.2⟩)]
theorem twice_skip (hx : X[k]? = some x) (hK : ¬ 0 < x) : twiceL X M k = twiceL X M (k + 1) := by
  unfold twiceL
  refine tab_congr fun i hi => ?_
  by_cases h : i < k ∧ 0 < (X[i]?).getD 0
  · rw [if_pos h, if_pos ⟨by omega, h.2⟩]
  · rw [if_neg h, if_neg (fun h' => by
      by_cases e : i = k
      · subst e; rw [hx] at h'; exact hK h'.2
      · exact h ⟨by omega, h'.2⟩)]
theorem more_opn {a : Nat} (ha : a < M) (h : opn X a = true) : opn (moreL X KO M M) a = true := by
  unfold opn moreL at *
  rw [tab_at ha]
  simp only [Option.getD_some]
  simp only [decide_eq_true_eq] at h ⊢
  split <;> omega
theorem twice_opn {a : Nat} (ha : a < M) : opn X a = opn (twiceL X M M) a := by
  unfold opn twiceL
  rw [tab_at ha]
  simp only [Option.getD_some]
  rw [decide_eq_decide]
  generalize (X[a]?).getD 0 = x
  constructor
  · intro h; rw [if_pos ⟨ha, h⟩]; omega
  · intro h
    by_cases h' : a < M ∧ 0 < x
    · exact h'.2
    · rw [if_neg h'] at h; omega
end

section
variable {w w' : World} {base g i n c : Nat} {t : TypeId} {rs : List Rw} {xs : List Value} {e : TypeId} {A : Option Addr}
theorem Held.rcell {j : Nat} {u : Value} (h : Held w base rs) (hr : rs[i]? = some ⟨t, some ⟨g, 0, none⟩, n, c, xs⟩) (hj : j < n) (hu : xs[j]? = some u) : w.cell? ⟨g, j, none⟩ = some u ∧ w.frozen? ⟨g, j, none⟩ = false ∧ g < w.heap.size ∧ base ≤ g := by
  have hown : w.ownsRow base t 1 (.slice (some ⟨g, 0, none⟩) n c) n xs := h.own i _ hr
  exact ⟨(hown.cellAt j (by omega)).trans hu, hown.frozenAt j, (hown.lt g rfl).2, (hown.lt g rfl).1⟩
theorem Held.radr (h : Held w base rs) (hr : rs[i]? = some ⟨t, A, n, c, xs⟩) (hn : 0 < n) : ∃ g, A = some ⟨g, 0, none⟩ := by
  have hown : w.ownsRow base t 1 (.slice A n c) n xs := h.own i _ hr
  rcases hown.2 with ⟨h0, _⟩ | ⟨g, cap, cur, hv, _⟩
  · injection h0 with _ h0
    omega
  · injection hv with hA
    exact ⟨g, hA⟩
theorem Held.on (h : Held w base rs) (hb : Below w.heap.size w w') : Held w' base rs :=
  h.grown (row := none) ⟨hb.os, hb.tape, hb.output, hb.size, fun k hk _ => hb.block k hk⟩ (fun g e => by cases e)
theorem own_none8 (W : World) : (W.alloc (.cells #[] 2)).ownsRow W.heap.size 2 1 (.slice (some ⟨W.heap.size, 0, none⟩) 0 0) 0 [] := World.ownsRow_made W #[] 0 (Nat.le_refl _) (Nat.zero_le _) rfl
theorem own_none8_at {W : World} {g : Nat} (h : W.heap.size = g) : (W.alloc (.cells #[] 2)).ownsRow g 2 1 (.slice (some ⟨g, 0, none⟩) 0 0) 0 [] := by
  subst h
  exact own_none8 W
section
variable {w : World} {base g n c k : Nat} {t : TypeId} {L : List Int} {r : Rw}
theorem Held.putA (h : Held w base [⟨t, some ⟨g, 0, none⟩, n, c, L.map (Value.int .i64)⟩, r]) (k : Nat) (x : Int) : Held (w.setCell ⟨g, k, none⟩ (.int .i64 x)) base [⟨t, some ⟨g, 0, none⟩, n, c, (L.set k x).map (Value.int .i64)⟩, r] := by
  have := h.put (i := 0) rfl k (.int .i64 x)
  rw [List.map_set]
  exact this
theorem Held.putB (h : Held w base [r, ⟨t, some ⟨g, 0, none⟩, n, c, L.map (Value.int .i64)⟩]) (k : Nat) (x : Int) : Held (w.setCell ⟨g, k, none⟩ (.int .i64 x)) base [r, ⟨t, some ⟨g, 0, none⟩, n, c, (L.set k x).map (Value.int .i64)⟩] := by
  have := h.put (i := 1) rfl k (.int .i64 x)
  rw [List.map_set]
  exact this
end
/-- Two copies, each in a block of its own. -/
theorem copies_held {w5 w6 : World} {base M c5 c6 : Nat} {A5 A6 : Option Addr} {xs : List Value} (h5 : w5.ownsRow base 2 1 (.slice A5 M c5) M xs) (h6 : w6.ownsRow w5.heap.size 2 1 (.slice A6 M c6) M xs)
    (hg : (w5.alloc (.cells #[] 2)).grownBy w6 (some w5.heap.size)) (hb : base ≤ w5.heap.size) : Held w6 base [⟨2, A5, M, c5, xs⟩, ⟨2, A6, M, c6, xs⟩] := by
  have hlt : ∀ g, A5 = some ⟨g, 0, none⟩ → g < w5.heap.size := fun g e => by
    subst e
    exact (h5.lt g rfl).2
  refine Held.two (own_keptNe (h5.alloc _) hg fun g e => ?_) (own_less h6 hb) fun g h1 h2 => ?_
  · have := hlt g e
    omega
  · have h3 := (h5.lt g h1).2
    have h4 := (h6.lt g h2).1
    omega
end


end Go.Proofs.Ytnhfdmfciddmaaa
