/- Plain facts: residual arcs written one by one. -/
import Derived.Test.YtbmndghgmndgmaaCells
namespace Go.Proofs.Ytbmndghgmndgmaa
open Go.RowKit

/-- What a residual network's rows hold, once the first k arcs are written. -/
structure Part (l : List ArcN) (M k : Nat) (H R C A : List Int) (B : List Bool) : Prop where
  lens : H.length = M ∧ R.length = M ∧ C.length = M ∧ A.length = M ∧ B.length = M
  ent : ∀ i v u b c, i < k → Inc l i v u b c → H[posOf l i v]? = some u ∧ R[posOf l i v]? = some (posOf l i u : Int) ∧ C[posOf l i v]? = some c ∧ A[posOf l i v]? = some (i : Int) ∧ B[posOf l i v]? = some b

/-- What the row of free places holds. -/
def FreeAt (l : List ArcN) (N k : Nat) (cur : Array Value) : Prop := ∀ v, v ≤ N → cur[v]? = some (.int .i64 (posOf l k (v : Int) : Int))

theorem set2_other {α : Type} {L : List α} {p q r : Nat} {x y : α} (h1 : r ≠ p) (h2 : r ≠ q) : ((L.set p x).set q y)[r]? = L[r]? := by
  rw [List.getElem?_set_ne (fun e => h2 e.symm), List.getElem?_set_ne (fun e => h1 e.symm)]
theorem set2_fst {α : Type} {L : List α} {p q : Nat} {x y : α} (h : p ≠ q) (hp : p < L.length) : ((L.set p x).set q y)[p]? = some x := by
  rw [List.getElem?_set_ne (fun e => h e.symm)]; simp [hp]
theorem set2_snd {α : Type} {L : List α} {p q : Nat} {x y : α} (hq : q < L.length) : ((L.set p x).set q y)[q]? = some y := by
  simp [hq]

section
variable {l : List ArcN} {M N k : Nat} {H R C A : List Int} {B : List Bool} {f t : Nat} {z : Int}
theorem Part.zero (l : List ArcN) (M : Nat) : Part l M 0 (List.replicate M 0) (List.replicate M 0) (List.replicate M 0) (List.replicate M 0) (List.replicate M false) :=
  ⟨by simp, fun i v u b c hi => absurd hi (by omega)⟩
theorem Part.loop (h : Part l M k H R C A B) {a : ArcN} (ha : l[k]? = some a) (e : a.frm = a.to) : Part l M (k + 1) H R C A B := by
  refine ⟨h.lens, fun i v u b c hi hI => ?_⟩
  by_cases hik : i = k
  · subst hik
    obtain ⟨hne, a', ha', hh⟩ := hI
    rw [ha] at ha'
    injection ha' with ha'
    subst ha'
    rcases hh with ⟨_, h1, h2, _⟩ | ⟨_, h1, h2, _⟩ <;> omega
  · exact h.ent i v u b c (by omega) hI
theorem Part.step (h : Part l M k H R C A B) (hE : EndsIn N l) (hM : firstOf l N = M) (ha : l[k]? = some ⟨(f : Int), (t : Int), z⟩) (e : f ≠ t) :
    Part l M (k + 1) ((H.set (posOf l k f) t).set (posOf l k t) f) ((R.set (posOf l k f) (posOf l k t)).set (posOf l k t) (posOf l k f)) ((C.set (posOf l k f) z).set (posOf l k t) 0) ((A.set (posOf l k f) k).set (posOf l k t) k) ((B.set (posOf l k f) false).set (posOf l k t) true) := by
  have e' : (f : Int) ≠ (t : Int) := by omega
  have If : Inc l k f t false z := inc_fwd ha e'
  have It : Inc l k t f true 0 := inc_bwd ha e'
  have hf := pos_lt If hE
  have ht := pos_lt It hE
  rw [hM] at hf ht
  obtain ⟨l1, l2, l3, l4, l5⟩ := h.lens
  have hpq : posOf l k f ≠ posOf l k t := fun hp => e' (pos_inj If It (by omega) (by omega) hp).1
  refine ⟨by simp [l1, l2, l3, l4, l5], fun i v u b c hi hI => ?_⟩
  by_cases hik : i = k
  · subst hik
    have h0 := hI.ends hE
    obtain ⟨hne, a', ha', hh⟩ := hI
    rw [ha] at ha'
    injection ha' with ha'
    subst ha'
    rcases hh with ⟨h1, h2, h3, h4⟩ | ⟨h1, h2, h3, h4⟩
    · simp only at h2 h3 h4
      subst h1; subst h2; subst h3; subst h4
      exact ⟨set2_fst hpq (by omega), set2_fst hpq (by omega), set2_fst hpq (by omega), set2_fst hpq (by omega), set2_fst hpq (by omega)⟩
    · simp only at h2 h3 h4
      subst h1; subst h2; subst h3; subst h4
      exact ⟨set2_snd (by omega), set2_snd (by omega), set2_snd (by omega), set2_snd (by omega), set2_snd (by omega)⟩
  · have h0 := hI.ends hE
    have n1 : posOf l i v ≠ posOf l k f := fun hp => hik (pos_inj hI If h0.1 (by omega) hp).2
    have n2 : posOf l i v ≠ posOf l k t := fun hp => hik (pos_inj hI It h0.1 (by omega) hp).2
    rw [set2_other n1 n2, set2_other n1 n2, set2_other n1 n2, set2_other n1 n2, set2_other n1 n2]
    exact h.ent i v u b c (by omega) hI

theorem FreeAt.loop {cur : Array Value} (h : FreeAt l N k cur) {a : ArcN} (ha : l[k]? = some a) (e : a.frm = a.to) : FreeAt l N (k + 1) cur := by
  intro v hv
  rw [h v hv]
  have : posOf l (k + 1) (v : Int) = posOf l k (v : Int) := by
    unfold posOf
    rw [deg_take_succ ha]
    simp [touch, e]
  rw [this]
theorem FreeAt.step {cur : Array Value} (h : FreeAt l N k cur) (ha : l[k]? = some ⟨(f : Int), (t : Int), z⟩) (e : f ≠ t) :
    FreeAt l N (k + 1) ((cur.setIfInBounds f (.int .i64 ((posOf l k f : Int) + 1))).setIfInBounds t (.int .i64 ((posOf l k t : Int) + 1))) := by
  intro v hv
  have e' : (f : Int) ≠ (t : Int) := by omega
  have hlt : ∀ v, v ≤ N → v < cur.size := fun v hv => (Array.getElem?_eq_some_iff.1 (h v hv)).1
  have hstep : posOf l (k + 1) (v : Int) = posOf l k (v : Int) + (if touch v ⟨(f : Int), (t : Int), z⟩ then 1 else 0) := by
    unfold posOf
    rw [deg_take_succ ha]
    omega
  rw [hstep]
  by_cases h1 : v = t
  · subst h1
    rw [Array.getElem?_setIfInBounds, if_pos rfl, if_pos (by simpa using hlt v hv)]
    simp [touch, e']
  · rw [Array.getElem?_setIfInBounds, if_neg (fun x => h1 x.symm)]
    by_cases h2 : v = f
    · subst h2
      rw [Array.getElem?_setIfInBounds, if_pos rfl, if_pos (hlt v hv)]
      simp [touch, e']
    · rw [Array.getElem?_setIfInBounds, if_neg (fun x => h2 x.symm), h v hv]
      have h3 : (f : Int) ≠ (v : Int) := by omega
      have h4 : (t : Int) ≠ (v : Int) := by omega
      simp [touch, h3, h4]
theorem FreeAt.zero {cur : Array Value} (h : ∀ v, v ≤ N → cur[v]? = some (.int .i64 (firstOf l v : Int))) : FreeAt l N 0 cur := by
  intro v hv
  rw [h v hv]
  simp [posOf, deg]
theorem own_blk {w : World} {base n c g : Nat} {e : TypeId} {size : Nat} {xs : List Value} (h : w.ownsRow base e size (.slice (some ⟨g, 0, none⟩) n c) n xs) : ∃ cur, Blk w g e cur := by
  rcases h.2 with ⟨h0, _⟩ | ⟨g', cap, cur, hv, hb, hh, _⟩
  · cases h0
  · injection hv with hA
    injection hA with hA
    injection hA with hA
    subst hA
    exact ⟨cur, hh⟩
end

end Go.Proofs.Ytbmndghgmndgmaa
