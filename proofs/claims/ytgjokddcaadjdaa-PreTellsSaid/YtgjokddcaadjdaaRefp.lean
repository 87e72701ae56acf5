/- Plain facts: residual arcs told one behind the other, vertex by vertex. -/
import Derived.Test.YtgjokddcaadjdaaFacts
import Derived.Test.YtgjokddcaadjdaaCsrr
namespace Go.Proofs.Ytgjokddcaadjdaa

theorem tab_succ {α : Type} (n : Nat) (g : Nat → α) : tab (n + 1) g = tab n g ++ [g n] := by
  simp [tab, List.range_succ]

/-- The first m residual arcs stand in these rows. -/
structure Ent (l : List ArcN) (m : Nat) (H C Ai : List Int) (B : List Bool) : Prop where
  lH : H.length = m
  lC : C.length = m
  lA : Ai.length = m
  lB : B.length = m
  ent : ∀ (i : Nat) (v u : Int) (b : Bool) (c : Int), Inc l i v u b c → 0 ≤ v → posOf l i v < m → H[posOf l i v]? = some u ∧ C[posOf l i v]? = some c ∧ Ai[posOf l i v]? = some (i : Int) ∧ B[posOf l i v]? = some b

section
variable {l : List ArcN} {m N M : Nat} {H C Ai R : List Int} {B : List Bool} {i k p q : Nat} {v u v' u' : Int} {b b' : Bool} {c c' : Int}
theorem Ent.zero (l : List ArcN) : Ent l 0 [] [] [] [] := ⟨rfl, rfl, rfl, rfl, fun _ _ _ _ _ _ _ h => absurd h (by omega)⟩
theorem snoc_last {α : Type} {L : List α} {n : Nat} (h : L.length = n) (x : α) : (L ++ [x])[n]? = some x := by subst h; simp
theorem snoc_old {α : Type} {L : List α} {n j : Nat} (h : L.length = n) (x : α) (hj : j < n) : (L ++ [x])[j]? = L[j]? := List.getElem?_append_left (by omega)
theorem Ent.step (h : Ent l m H C Ai B) (hI : Inc l i v u b c) (hv : 0 ≤ v) (hp : posOf l i v = m) : Ent l (m + 1) (H ++ [u]) (C ++ [c]) (Ai ++ [(i : Int)]) (B ++ [b]) := by
  refine ⟨by simp [h.lH], by simp [h.lC], by simp [h.lA], by simp [h.lB], fun i' v' u' b' c' hI' hv' hlt => ?_⟩
  by_cases e : posOf l i' v' = m
  · obtain ⟨rfl, rfl⟩ := pos_inj hI' hI hv' hv (by omega)
    obtain ⟨rfl, rfl, rfl⟩ := hI'.same hI
    rw [e]
    exact ⟨snoc_last h.lH _, snoc_last h.lC _, snoc_last h.lA _, snoc_last h.lB _⟩
  · have h1 := h.ent i' v' u' b' c' hI' hv' (by omega)
    rw [snoc_old h.lH _ (by omega), snoc_old h.lC _ (by omega), snoc_old h.lA _ (by omega), snoc_old h.lB _ (by omega)]
    exact h1
/-- Where the next residual arc of v stands. -/
def nextAt (l : List ArcN) (v k : Nat) : Nat := firstOf l v + deg (l.take k) (v : Int)
theorem next_zero (l : List ArcN) (v : Nat) : nextAt l v 0 = firstOf l v := by simp [nextAt, deg]
theorem next_end {n : Nat} (hl : l.length = n) (v : Nat) : nextAt l v n = firstOf l (v + 1) := by
  subst hl
  simp [nextAt, firstOf, List.take_length]
theorem next_skip {a : ArcN} {v : Nat} (ha : l[k]? = some a) (ht : touch (v : Int) a = false) : nextAt l v (k + 1) = nextAt l v k := by
  unfold nextAt
  rw [deg_take_succ ha, ht]
  simp
theorem next_step {a : ArcN} {v : Nat} (ha : l[k]? = some a) (ht : touch (v : Int) a = true) : nextAt l v (k + 1) = nextAt l v k + 1 := by
  unfold nextAt
  rw [deg_take_succ ha, ht]
  simp; omega
theorem next_pos (v k : Nat) : posOf l k (v : Int) = nextAt l v k := by simp [posOf, nextAt]
theorem next_le (v k N : Nat) (hv : v < N) : nextAt l v k ≤ firstOf l N := by
  have h1 := deg_take_le l k (v : Int)
  have h2 := firstOf_mono l (show v + 1 ≤ N by omega)
  simp only [firstOf] at h2
  unfold nextAt
  omega

/-- The other one of each of the first i stands in R. -/
structure RevTo (l : List ArcN) (i : Nat) (R : List Int) : Prop where
  len : R.length = i
  ent : ∀ (k : Nat) (v u : Int) (b : Bool) (c : Int), Inc l k v u b c → 0 ≤ v → posOf l k v < i → R[posOf l k v]? = some (posOf l k u : Int)
theorem RevTo.zero (l : List ArcN) : RevTo l 0 [] := ⟨rfl, fun _ _ _ _ _ _ _ h => absurd h (by omega)⟩
theorem RevTo.step (h : RevTo l i R) (hI : Inc l k v u b c) (hv : 0 ≤ v) (hp : posOf l k v = i) (hq : posOf l k u = q) : RevTo l (i + 1) (R ++ [(q : Int)]) := by
  refine ⟨by simp [h.len], fun k' v' u' b' c' hI' hv' hlt => ?_⟩
  by_cases e : posOf l k' v' = i
  · obtain ⟨rfl, rfl⟩ := pos_inj hI' hI hv' hv (by omega)
    obtain ⟨rfl, rfl, rfl⟩ := hI'.same hI
    rw [e, hq]
    exact snoc_last h.len _
  · rw [snoc_old h.len _ (by omega)]
    exact h.ent k' v' u' b' c' hI' hv' (by omega)
theorem Inc.other (h : Inc l k v u b c) (h' : Inc l k v' u' b' c') : v' = v ∨ v' = u := by
  obtain ⟨hne, a, ha, h⟩ := h
  obtain ⟨hne', a', ha', h'⟩ := h'
  rw [ha] at ha'
  injection ha' with ha'
  subst ha'
  rcases h with ⟨_, h1, h2, _⟩ | ⟨_, h1, h2, _⟩ <;> rcases h' with ⟨_, g1, g2, _⟩ | ⟨_, g1, g2, _⟩
  · exact .inl (g1.symm.trans h1)
  · exact .inr (g1.symm.trans h2)
  · exact .inr (g1.symm.trans h2)
  · exact .inl (g1.symm.trans h1)
/-- Two of one arc are the other ones of one another. -/
theorem pair_is (hE : EndsIn N l) (hI : Inc l k v u b c) {k' : Nat} (hI' : Inc l k' v' u' b' c') : ((k : Int) = (k' : Int) ∧ posOf l k v ≠ posOf l k' v') ↔ posOf l k' v' = posOf l k u := by
  obtain ⟨c1, hF⟩ := hI.flip
  constructor
  · rintro ⟨hk, hne⟩
    have hk' : k = k' := by omega
    subst hk'
    rcases hI.other hI' with rfl | rfl
    · exact absurd rfl hne
    · rfl
  · intro e
    obtain ⟨rfl, rfl⟩ := pos_inj hI' hF (hI'.ends hE).1 (hF.ends hE).1 e
    exact ⟨rfl, fun e => hI.1 (pos_inj hI hI' (hI.ends hE).1 (hI'.ends hE).1 e).1⟩
end

/-- The rows of a residual network, plainly. -/
structure CsrL (N : Nat) (l : List ArcN) (F H R C Ai : List Int) (B : List Bool) : Prop where
  fst : F = tab (N + 1) fun v => (firstOf l v : Int)
  ent : Ent l (firstOf l N) H C Ai B
  rev : RevTo l (firstOf l N) R

section
variable {l : List ArcN} {m N M : Nat} {F H C Ai R f X : List Int} {B : List Bool} {i k p q : Nat} {v u v' u' : Int} {b b' : Bool} {c c' x : Int}
/-- What stands at number k. -/
theorem CsrL.at (h : CsrL N l F H R C Ai B) (hE : EndsIn N l) (hk : k < firstOf l N) :
    ∃ (i q : Nat) (v u : Int) (b : Bool) (c : Int), Inc l i v u b c ∧ posOf l i v = k ∧ posOf l i u = q ∧ q < firstOf l N ∧ H[k]? = some u ∧ R[k]? = some (q : Int) ∧ C[k]? = some c ∧ Ai[k]? = some (i : Int) ∧ B[k]? = some b := by
  obtain ⟨i, v, u, b, c, hI, rfl, hv, _⟩ := pos_find hk
  obtain ⟨c', hI'⟩ := hI.flip
  obtain ⟨e1, e2, e3, e4⟩ := h.ent.ent _ _ _ _ _ hI hv hk
  exact ⟨i, _, v, u, b, c, hI, rfl, rfl, pos_lt hI' hE, e1, h.rev.ent _ _ _ _ _ hI hv hk, e2, e3, e4⟩

/-- What is left of the first k. -/
structure LeftTo (l : List ArcN) (f : List Int) (k : Nat) (X : List Int) : Prop where
  len : X.length = k
  ent : ∀ (i : Nat) (v u : Int) (b : Bool) (c x : Int), Inc l i v u b c → 0 ≤ v → f[i]? = some x → posOf l i v < k → X[posOf l i v]? = some (if b then x else capAt l i - x)
theorem LeftTo.zero (l : List ArcN) (f : List Int) : LeftTo l f 0 [] := ⟨rfl, fun _ _ _ _ _ _ _ _ _ h => absurd h (by omega)⟩
theorem LeftTo.step (h : LeftTo l f k X) (hI : Inc l i v u b c) (hv : 0 ≤ v) (hp : posOf l i v = k) (hx : f[i]? = some x) {y : Int} (hy : y = if b then x else capAt l i - x) : LeftTo l f (k + 1) (X ++ [y]) := by
  refine ⟨by simp [h.len], fun i' v' u' b' c' x' hI' hv' hx' hlt => ?_⟩
  by_cases e : posOf l i' v' = k
  · obtain ⟨rfl, rfl⟩ := pos_inj hI' hI hv' hv (by omega)
    obtain ⟨rfl, rfl, rfl⟩ := hI'.same hI
    rw [hx] at hx'
    injection hx' with hx'
    subst hx'
    rw [e, ← hy]
    exact snoc_last h.len _
  · rw [snoc_old h.len _ (by omega)]
    exact h.ent i' v' u' b' c' x' hI' hv' hx' (by omega)
theorem LeftTo.done (h : LeftTo l f M X) (hE : EndsIn N l) (hM : firstOf l N = M) : ResOf l f M X :=
  ⟨h.len, fun i v u b c x hI hx => h.ent i v u b c x hI (hI.ends hE).1 hx (by have := pos_lt hI hE; omega)⟩
/-- Of both capacities of a pair one is 0. -/
theorem cap_both (hI : Inc l i v u b c) (hF : Inc l i u v (!b) c') : c + c' = capAt l i := by
  have hn : ∀ {v u : Int} {c : Int}, Inc l i v u true c → c = 0 := fun h => by
    obtain ⟨_, a, ha, hh⟩ := h
    rcases hh with ⟨h, _⟩ | ⟨_, _, _, h⟩
    · cases h
    · exact h
  cases b
  · rw [capAt_fwd hI, hn hF]; omega
  · rw [capAt_fwd hF, hn hI]; omega
end

end Go.Proofs.Ytgjokddcaadjdaa
