/- Layer 7: the machine: plain facts. -/
import Derived.Test.YtanifbofjecpmaaLab
namespace Go.Proofs.Ytanifbofjecpmaa
open Go.RowKit
set_option maxRecDepth 100000

/-! Sums. -/
theorem sumN_upd {f g : Nat → Int} {n a : Nat} {d : Int} (ha : a < n) (h : ∀ j, j < n → j ≠ a → g j = f j) (h' : g a = f a + d) : sumN g n = sumN f n + d := by
  induction n with
  | zero => omega
  | succ n ih =>
    simp only [sumN]
    by_cases e : a = n
    · subst e
      rw [sumN_congr (g := f) fun j hj => h j (by omega) (by omega), h']
      omega
    · rw [ih (by omega) fun j hj hne => h j (by omega) hne, h n (by omega) (by omega)]
      omega
theorem sumN_cut {f : Nat → Int} {n m : Nat} (hnm : n ≤ m) (h : ∀ j, n ≤ j → j < m → f j = 0) : sumN f m = sumN f n := by
  induction m with
  | zero => have : n = 0 := by omega
            subst this; rfl
  | succ m ih =>
    by_cases e : n = m + 1
    · subst e; rfl
    · simp only [sumN]
      rw [ih (by omega) fun j h1 h2 => h j h1 (by omega), h m (by omega) (by omega)]
      omega
theorem sumN_nonneg {f : Nat → Int} {n : Nat} (h : ∀ j, j < n → 0 ≤ f j) : 0 ≤ sumN f n := by
  induction n with
  | zero => simp [sumN]
  | succ n ih =>
    have h1 := ih fun j hj => h j (by omega)
    have h2 := h n (by omega)
    simp only [sumN]; omega
theorem sumN_nonpos {f : Nat → Int} {n : Nat} (h : ∀ j, j < n → f j ≤ 0) : sumN f n ≤ 0 := by
  induction n with
  | zero => simp [sumN]
  | succ n ih =>
    have h1 := ih fun j hj => h j (by omega)
    have h2 := h n (by omega)
    simp only [sumN]; omega
theorem sumN_pos {f : Nat → Int} {n a : Nat} (h : ∀ j, j < n → 0 ≤ f j) (ha : a < n) (hp : 0 < f a) : 0 < sumN f n := by
  induction n with
  | zero => omega
  | succ n ih =>
    simp only [sumN]
    by_cases e : a = n
    · subst e
      have := sumN_nonneg (f := f) fun j (hj : j < a) => h j (by omega)
      omega
    · have h1 := ih (fun j hj => h j (by omega)) (by omega)
      have h2 := h n (by omega)
      omega
theorem sumN_swap (f : Nat → Nat → Int) (n m : Nat) : sumN (fun i => sumN (fun j => f i j) m) n = sumN (fun j => sumN (fun i => f i j) n) m := by
  induction n with
  | zero => simp only [sumN]; rw [sumN_zero]
  | succ n ih => simp only [sumN]; rw [ih, ← sumN_add]
/-- Sums of lists, and their order. -/
def sumL : List Int → Int
  | [] => 0
  | x :: r => x + sumL r
theorem sumL_perm {a b : List Int} (h : a.Perm b) : sumL a = sumL b := by
  induction h with
  | nil => rfl
  | cons x _ ih => simp only [sumL, ih]
  | swap x y r => simp only [sumL]; omega
  | trans _ _ h1 h2 => exact h1.trans h2
theorem sumL_snoc (a : List Int) (x : Int) : sumL (a ++ [x]) = sumL a + x := by
  induction a with
  | nil => simp [sumL]
  | cons y r ih => simp only [List.cons_append, sumL, ih]; omega
theorem sumN_list (f : Nat → Int) (n : Nat) : sumN f n = sumL ((List.range n).map f) := by
  induction n with
  | zero => rfl
  | succ n ih => rw [List.range_succ, List.map_append]; simp only [sumN, List.map_cons, List.map_nil]; rw [sumL_snoc, ih]
/-- Who is turned round twice is as he was: sums do not change. -/
theorem sumN_inv {M : Nat} {rv : Nat → Nat} (h1 : ∀ a, a < M → rv a < M) (h2 : ∀ a, a < M → rv (rv a) = a) (f : Nat → Int) : sumN (fun a => f (rv a)) M = sumN f M := by
  rw [sumN_list, sumN_list]
  have hp : ((List.range M).map rv).Perm (List.range M) := by
    refine (List.perm_ext_iff_of_nodup ?_ List.nodup_range).2 fun a => ?_
    · rw [List.Nodup, List.pairwise_map]
      refine List.Pairwise.imp_of_mem ?_ List.nodup_range
      intro a b ha hb hne e
      have ha := List.mem_range.1 ha
      have hb := List.mem_range.1 hb
      exact hne (by rw [← h2 a ha, ← h2 b hb, e])
    · simp only [List.mem_map, List.mem_range]
      constructor
      · rintro ⟨b, hb, rfl⟩; exact h1 b hb
      · intro ha; exact ⟨rv a, h1 a ha, h2 a ha⟩
  have := sumL_perm (hp.map f)
  rw [List.map_map] at this
  exact this

/-! Numbers of a row. -/
theorem hOf_put {L : List Int} {i j : Nat} {x : Int} (hi : i < L.length) : hOf (L.set i x) j = if i = j then x else hOf L j := by
  unfold hOf
  rw [List.getElem?_set]
  by_cases e : i = j
  · rw [if_pos e, if_pos hi, if_pos e]; rfl
  · rw [if_neg e, if_neg e]
theorem opn_hOf (X : List Int) (a : Nat) : opn X a = decide (0 < hOf X a) := rfl
theorem opn_iff {X : List Int} {a : Nat} : opn X a = true ↔ 0 < hOf X a := by rw [opn_hOf]; simp
theorem opn_not {X : List Int} {a : Nat} : opn X a = false ↔ ¬ 0 < hOf X a := by rw [opn_hOf]; simp

/-! States. -/
/-- Of each pair as much is left as both may have together. -/
def Bal (M : Nat) (rv : Nat → Nat) (cp : Nat → Int) (X : List Int) : Prop := X.length = M ∧ ∀ a, a < M → 0 ≤ hOf X a ∧ hOf X a + hOf X (rv a) = cp a + cp (rv a)
/-- What v has more than at the start. -/
def exT (M : Nat) (hd rv : Nat → Nat) (cp : Nat → Int) (X : List Int) (v : Nat) : Int := sumN (fun j => if hd (rv j) = v then hOf X j - cp j else 0) M
structure PNet (N M s t : Nat) (fst hd rv ai : Nat → Nat) (cp : Nat → Int) (bk : Nat → Bool) : Prop where
  g : Grid N M fst hd rv
  n2 : 2 ≤ N
  nN : N ≤ 4096
  nM : M ≤ 32768
  hs : s < N
  ht : t < N
  st : s ≠ t
  nol : ∀ a, a < M → hd (rv a) ≠ hd a
  bkr : ∀ a, a < M → bk (rv a) = !bk a
  cp0 : ∀ a, a < M → 0 ≤ cp a ∧ cp a ≤ maxSum
  cpb : ∀ a, a < M → bk a = true → cp a = 0
  aib : ∀ a, a < M → ai a < 16384
  air : ∀ a, a < M → ai (rv a) = ai a
  aij : ∀ a b, a < M → b < M → ai a = ai b → bk a = bk b → a = b
  big : ∀ X, Bal M rv cp X → ∀ v, v < N → -maxSum ≤ exT M hd rv cp X v ∧ exT M hd rv cp X v ≤ maxSum
/-- A state that may be. -/
structure StIs (N M s t : Nat) (hd rv : Nat → Nat) (cp : Nat → Int) (X E H : List Int) : Prop where
  bal : Bal M rv cp X
  le : E.length = N
  lh : H.length = N
  exc : ∀ v, v < N → hOf E v = exT M hd rv cp X v
  neg : ∀ v, v < N → v ≠ s → 0 ≤ hOf E v
  src : hOf H s = N
  snk : hOf H t = 0
  bnd : ∀ v, v < N → 0 ≤ hOf H v ∧ hOf H v < 2 * N
  arc : ∀ a, a < M → 0 < hOf X a → hOf H (hd (rv a)) ≤ hOf H (hd a) + 1
section
variable {N M s t : Nat} {fst hd rv ai : Nat → Nat} {cp : Nat → Int} {bk : Nat → Bool} {X E H : List Int}
theorem PNet.rne (h : PNet N M s t fst hd rv ai cp bk) {a : Nat} (ha : a < M) : rv a ≠ a := fun e => by
  have := h.bkr a ha
  rw [e] at this
  cases hb : bk a <;> rw [hb] at this <;> cases this
theorem PNet.mN (h : PNet N M s t fst hd rv ai cp bk) {a : Nat} (ha : a < M) : hd (rv a) < N := h.g.hdl _ (h.g.rvl a ha)
/-- No more of one than both may have together. -/
theorem Bal.le (hb : Bal M rv cp X) (h : PNet N M s t fst hd rv ai cp bk) {a : Nat} (ha : a < M) : 0 ≤ hOf X a ∧ hOf X a ≤ maxSum := by
  have h1 := hb.2 a ha
  have h2 := hb.2 (rv a) (h.g.rvl a ha)
  have h3 := h.cp0 a ha
  have h4 := h.cp0 (rv a) (h.g.rvl a ha)
  have h5 := h.bkr a ha
  cases hba : bk a
  · rw [hba] at h5
    have := h.cpb (rv a) (h.g.rvl a ha) h5
    omega
  · have := h.cpb a ha hba
    omega

/-! What is moved. -/
def mvX (rv : Nat → Nat) (X : List Int) (a : Nat) (d : Int) : List Int := (X.set a (hOf X a - d)).set (rv a) (hOf X (rv a) + d)
def mvE (hd rv : Nat → Nat) (E : List Int) (a : Nat) (d : Int) : List Int := (E.set (hd (rv a)) (hOf E (hd (rv a)) - d)).set (hd a) (hOf E (hd a) + d)
theorem mvX_len (a : Nat) (d : Int) : (mvX rv X a d).length = X.length := by simp [mvX]
theorem mvE_len (a : Nat) (d : Int) : (mvE hd rv E a d).length = E.length := by simp [mvE]
theorem mvX_at (h : PNet N M s t fst hd rv ai cp bk) (hX : X.length = M) {a : Nat} (ha : a < M) (d : Int) (j : Nat) : hOf (mvX rv X a d) j = if j = a then hOf X a - d else if j = rv a then hOf X (rv a) + d else hOf X j := by
  have hr := h.g.rvl a ha
  have hne := h.rne ha
  unfold mvX
  rw [hOf_put (by simp; omega), hOf_put (by omega)]
  by_cases e1 : j = a
  · subst e1
    rw [if_neg hne, if_pos rfl, if_pos rfl]
  · by_cases e2 : j = rv a
    · subst e2
      rw [if_pos rfl, if_neg e1, if_pos rfl]
    · rw [if_neg (fun e => e2 e.symm), if_neg (fun e => e1 e.symm), if_neg e1, if_neg e2]
theorem mvE_at (h : PNet N M s t fst hd rv ai cp bk) (hE : E.length = N) {a : Nat} (ha : a < M) (d : Int) (v : Nat) : hOf (mvE hd rv E a d) v = hOf E v + ((if v = hd a then d else 0) - (if v = hd (rv a) then d else 0)) := by
  have h1 := h.mN ha
  have h2 := h.g.hdl a ha
  have h3 := h.nol a ha
  unfold mvE
  rw [hOf_put (by simp; omega), hOf_put (by omega)]
  by_cases e1 : v = hd a
  · subst e1
    rw [if_pos rfl, if_pos rfl, if_neg (fun e => h3 e.symm)]
    omega
  · by_cases e2 : v = hd (rv a)
    · subst e2
      rw [if_neg (fun e => h3 e.symm), if_pos rfl, if_neg h3, if_pos rfl]
      omega
    · rw [if_neg (fun e => e1 e.symm), if_neg (fun e => e2 e.symm), if_neg e1, if_neg e2]
      omega
theorem bal_mv (hb : Bal M rv cp X) (h : PNet N M s t fst hd rv ai cp bk) {a : Nat} (ha : a < M) {d : Int} (d0 : 0 ≤ d) (d1 : d ≤ hOf X a) : Bal M rv cp (mvX rv X a d) := by
  refine ⟨by rw [mvX_len]; exact hb.1, fun j hj => ?_⟩
  rw [mvX_at h hb.1 ha, mvX_at h hb.1 ha]
  have hr := h.g.rvl a ha
  have hrr := h.g.rvv a ha
  have hne := h.rne ha
  have b1 := hb.2 a ha
  have b2 := hb.2 (rv a) hr
  rw [hrr] at b2
  by_cases e1 : j = a
  · subst e1
    rw [if_pos rfl, if_neg hne, if_pos rfl]
    omega
  · by_cases e2 : j = rv a
    · subst e2
      rw [hrr, if_neg hne, if_pos rfl, if_pos rfl]
      omega
    · have e3 : rv j ≠ a := fun e => e2 (by rw [← e, h.g.rvv j hj])
      have e4 : rv j ≠ rv a := fun e => e1 (by rw [← h.g.rvv j hj, e, hrr])
      rw [if_neg e1, if_neg e2, if_neg e3, if_neg e4]
      exact hb.2 j hj
theorem exT_mv (hb : X.length = M) (h : PNet N M s t fst hd rv ai cp bk) {a : Nat} (ha : a < M) (d : Int) (v : Nat) : exT M hd rv cp (mvX rv X a d) v = exT M hd rv cp X v + ((if v = hd a then d else 0) - (if v = hd (rv a) then d else 0)) := by
  have hr := h.g.rvl a ha
  have hrr := h.g.rvv a ha
  have hne := h.rne ha
  unfold exT
  have e1 : sumN (fun j => if hd (rv j) = v then hOf (X.set a (hOf X a - d)) j - cp j else 0) M = sumN (fun j => if hd (rv j) = v then hOf X j - cp j else 0) M + (if v = hd (rv a) then -d else 0) := by
    refine sumN_upd ha (fun j hj hja => ?_) ?_
    · rw [hOf_put (by omega), if_neg (show ¬ a = j from fun e => hja e.symm)]
    · rw [hOf_put (by omega), if_pos (show a = a from rfl)]
      by_cases e : hd (rv a) = v
      · rw [if_pos e, if_pos e, if_pos e.symm]; omega
      · rw [if_neg e, if_neg e, if_neg (fun e' => e e'.symm)]; omega
  have e2 : sumN (fun j => if hd (rv j) = v then hOf (mvX rv X a d) j - cp j else 0) M = sumN (fun j => if hd (rv j) = v then hOf (X.set a (hOf X a - d)) j - cp j else 0) M + (if v = hd a then d else 0) := by
    refine sumN_upd hr (fun j hj hja => ?_) ?_
    · unfold mvX
      rw [hOf_put (by simp; omega), if_neg (show ¬ rv a = j from fun e => hja e.symm)]
    · unfold mvX
      rw [hOf_put (by simp; omega), if_pos (show rv a = rv a from rfl), hOf_put (by omega), if_neg (show ¬ a = rv a from fun e => hne e.symm), hrr]
      by_cases e : hd a = v
      · rw [if_pos e, if_pos e, if_pos e.symm]; omega
      · rw [if_neg e, if_neg e, if_neg (fun e' => e e'.symm)]; omega
  rw [e2, e1]
  by_cases e : v = hd (rv a)
  · rw [if_pos e, if_pos e]; omega
  · rw [if_neg e, if_neg e]; omega
theorem exc_mv (hb : X.length = M) (hE : E.length = N) (h : PNet N M s t fst hd rv ai cp bk) (hx : ∀ v, v < N → hOf E v = exT M hd rv cp X v) {a : Nat} (ha : a < M) (d : Int) : ∀ v, v < N → hOf (mvE hd rv E a d) v = exT M hd rv cp (mvX rv X a d) v := fun v hv => by
  rw [mvE_at h hE ha, exT_mv hb h ha, hx v hv]
end

/-! The first state. -/
/-- What is left, and the excesses, when the first k residual arcs of s have been moved. -/
def begX (fst rv : Nat → Nat) (cp : Nat → Int) (M s : Nat) : Nat → List Int
  | 0 => tab M cp
  | k + 1 => mvX rv (begX fst rv cp M s k) (fst s + k) (hOf (begX fst rv cp M s k) (fst s + k))
def begE (fst hd rv : Nat → Nat) (cp : Nat → Int) (M N s : Nat) : Nat → List Int
  | 0 => List.replicate N 0
  | k + 1 => mvE hd rv (begE fst hd rv cp M N s k) (fst s + k) (hOf (begX fst rv cp M s k) (fst s + k))
def begH (N s : Nat) : List Int := (List.replicate N 0).set s (N : Int)
theorem hOf_tab {M : Nat} {cp : Nat → Int} {a : Nat} (ha : a < M) : hOf (tab M cp) a = cp a := hOf_at (tab_at ha)
theorem hOf_rep (N : Nat) (v : Nat) : hOf (List.replicate N (0 : Int)) v = 0 := by
  unfold hOf
  rw [List.getElem?_replicate]
  split <;> rfl
section
variable {N M s t : Nat} {fst hd rv ai : Nat → Nat} {cp : Nat → Int} {bk : Nat → Bool} {X E H : List Int}
theorem begX_bal (h : PNet N M s t fst hd rv ai cp bk) : ∀ k, fst s + k ≤ fst (s + 1) → Bal M rv cp (begX fst rv cp M s k)
  | 0, _ => ⟨tab_len _ _, fun a ha => by
      show 0 ≤ hOf (tab M cp) a ∧ hOf (tab M cp) a + hOf (tab M cp) (rv a) = _
      rw [hOf_tab ha, hOf_tab (h.g.rvl a ha)]; exact ⟨(h.cp0 a ha).1, rfl⟩⟩
  | k + 1, hk => by
    have ih := begX_bal h k (by omega)
    have hm := h.g.fle (v := s + 1) (by have := h.hs; omega)
    exact bal_mv ih h (by omega) (ih.2 _ (by omega)).1 (Int.le_refl _)
theorem begE_len (k : Nat) : (begE fst hd rv cp M N s k).length = N := by
  induction k with
  | zero => simp [begE]
  | succ k ih => simp only [begE, mvE_len, ih]
theorem begE_exc (h : PNet N M s t fst hd rv ai cp bk) : ∀ k, fst s + k ≤ fst (s + 1) → ∀ v, v < N → hOf (begE fst hd rv cp M N s k) v = exT M hd rv cp (begX fst rv cp M s k) v
  | 0, _, v, hv => by
    show hOf (List.replicate N (0 : Int)) v = exT M hd rv cp (tab M cp) v
    rw [hOf_rep]
    unfold exT
    rw [sumN_congr (g := fun _ => 0) fun j hj => ?_, sumN_zero]
    rw [hOf_tab hj]
    split <;> omega
  | k + 1, hk, v, hv => by
    have hm := h.g.fle (v := s + 1) (by have := h.hs; omega)
    exact exc_mv (begX_bal h k (by omega)).1 (begE_len k) h (begE_exc h k (by omega)) (by omega) _ v hv
/-- Nothing is left of what was moved, all others have no less than their capacities. -/
theorem begX_at (h : PNet N M s t fst hd rv ai cp bk) : ∀ k, fst s + k ≤ fst (s + 1) → ∀ j, j < M → (fst s ≤ j → j < fst s + k → hOf (begX fst rv cp M s k) j = 0) ∧ (hd (rv j) ≠ s → cp j ≤ hOf (begX fst rv cp M s k) j)
  | 0, _, j, hj => ⟨fun h1 h2 => absurd h2 (by omega), fun _ => by
      show cp j ≤ hOf (tab M cp) j
      rw [hOf_tab hj]; exact Int.le_refl _⟩
  | k + 1, hk, j, hj => by
    have hm := h.g.fle (v := s + 1) (by have := h.hs; omega)
    have ih := begX_at h k (by omega) j hj
    have hb := begX_bal h k (by omega)
    have ht := h.g.tail s (fst s + k) h.hs (by omega) (by omega)
    have hb0 := (hb.2 (fst s + k) (by omega)).1
    simp only [begX]
    rw [mvX_at h hb.1 (by omega)]
    by_cases e1 : j = fst s + k
    · rw [if_pos e1]
      exact ⟨fun _ _ => by omega, fun hne => absurd (by rw [e1]; exact ht) hne⟩
    · rw [if_neg e1]
      by_cases e2 : j = rv (fst s + k)
      · rw [if_pos e2, ← e2]
        refine ⟨fun h1 h2 => ?_, fun hne => ?_⟩
        · have h3 := h.g.tail s j h.hs h1 (by omega)
          have h4 := h.nol (fst s + k) (by omega)
          rw [e2, h.g.rvv _ (by omega)] at h3
          exact absurd (ht.trans h3.symm) h4
        · have := ih.2 hne; omega
      · rw [if_neg e2]
        exact ⟨fun h1 h2 => ih.1 h1 (by omega), ih.2⟩
theorem beg_ok (h : PNet N M s t fst hd rv ai cp bk) {k : Nat} (hk : fst s + k = fst (s + 1)) : StIs N M s t hd rv cp (begX fst rv cp M s k) (begE fst hd rv cp M N s k) (begH N s) := by
  have hs := h.hs; have ht := h.ht; have hst := h.st; have hn2 := h.n2
  have hH : ∀ v, hOf (begH N s) v = if s = v then (N : Int) else 0 := fun v => by
    unfold begH
    rw [hOf_put (by simp; omega), hOf_rep]
  have hb := begX_bal h k (by omega)
  have hx := begE_exc h k (by omega)
  refine ⟨hb, begE_len k, by simp [begH], hx, fun v hv hne => ?_, by rw [hH, if_pos rfl], by rw [hH, if_neg hst], fun v hv => ?_, fun a ha h0 => ?_⟩
  · rw [hx v hv]
    refine sumN_nonneg fun j hj => ?_
    split
    · rename_i e
      have := (begX_at h k (by omega) j hj).2 (by rw [e]; exact hne)
      omega
    · omega
  · rw [hH]; split <;> omega
  · rw [hH, hH]
    have hne : s ≠ hd (rv a) := fun e => by
      have hr := h.g.row ha
      rw [← e] at hr
      have := (begX_at h k (by omega) a ha).1 hr.1 (by omega)
      omega
    rw [if_neg hne]
    split <;> omega
end

/-! Ways. -/
/-- v is reached from u over open residual arcs. -/
inductive Rch (M : Nat) (hd rv : Nat → Nat) (X : List Int) : Nat → Nat → Prop
  | nil (v : Nat) : Rch M hd rv X v v
  | cons {a v : Nat} (ha : a < M) (h0 : 0 < hOf X a) (h : Rch M hd rv X (hd a) v) : Rch M hd rv X (hd (rv a)) v
theorem Rch.snoc {M : Nat} {hd rv : Nat → Nat} {X : List Int} {u : Nat} {a : Nat} (ha : a < M) (h0 : 0 < hOf X a) : ∀ {v}, Rch M hd rv X u v → v = hd (rv a) → Rch M hd rv X u (hd a) := by
  intro v h
  induction h with
  | nil v => rintro rfl; exact .cons ha h0 (.nil _)
  | cons hb h1 _ ih => intro e; exact .cons hb h1 (ih e)
theorem levels {k : Nat} {N : Nat} {H : List Int} {lo : Int} (h : ∀ i : Nat, i < k → ∃ v, v < N ∧ hOf H v = lo + i) : ∃ xs : List Nat, xs.Nodup ∧ xs.length = k ∧ ∀ v ∈ xs, v < N ∧ lo ≤ hOf H v ∧ hOf H v < lo + k := by
  induction k with
  | zero => exact ⟨[], by simp, rfl, by simp⟩
  | succ k ih =>
    obtain ⟨xs, h1, h2, h3⟩ := ih fun i hi => h i (by omega)
    obtain ⟨v, hv, e⟩ := h k (by omega)
    refine ⟨v :: xs, List.nodup_cons.2 ⟨fun hm => ?_, h1⟩, by simp [h2], fun u hu => ?_⟩
    · have := h3 v hm
      omega
    · rcases List.mem_cons.1 hu with rfl | hu
      · omega
      · have := h3 u hu
        omega
section
variable {N M s t : Nat} {fst hd rv ai : Nat → Nat} {cp : Nat → Int} {bk : Nat → Bool} {X E H : List Int}
theorem StIs.way (h : StIs N M s t hd rv cp X E H) (hN : PNet N M s t fst hd rv ai cp bk) {w v : Nat} (hw : Rch M hd rv X w v) (hv : v < N) : w < N ∧ ∀ i : Int, hOf H v ≤ i → i ≤ hOf H w → ∃ u, u < N ∧ hOf H u = i := by
  induction hw with
  | nil v => exact ⟨hv, fun i h1 h2 => ⟨v, hv, by omega⟩⟩
  | @cons a v ha h0 _ ih =>
    obtain ⟨h1, h2⟩ := ih hv
    refine ⟨hN.mN ha, fun i h3 h4 => ?_⟩
    have h5 := h.arc _ ha h0
    by_cases e : i = hOf H (hd (rv a))
    · exact ⟨_, hN.mN ha, e.symm⟩
    · exact h2 i h3 (by omega)
/-- S is reached from whoever has more than 0. -/
theorem StIs.back (h : StIs N M s t hd rv cp X E H) (hN : PNet N M s t fst hd rv ai cp bk) {u : Nat} (hu : u < N) (he : 0 < hOf E u) : Rch M hd rv X u s := by
  classical
  refine Classical.byContradiction fun hns => ?_
  have hf : ∀ j, j < M → (if Rch M hd rv X u (hd (rv j)) then hOf X j - cp j else 0) + (if Rch M hd rv X u (hd (rv (rv j))) then hOf X (rv j) - cp (rv j) else 0) ≤ 0 := fun j hj => by
    rw [hN.g.rvv j hj]
    have h1 := h.bal.2 j hj
    have h2 := h.bal.2 (rv j) (hN.g.rvl j hj)
    have h3 := hN.cp0 j hj
    have h4 := hN.cp0 (rv j) (hN.g.rvl j hj)
    by_cases e1 : Rch M hd rv X u (hd (rv j))
    · by_cases e2 : Rch M hd rv X u (hd j)
      · rw [if_pos e1, if_pos e2]; omega
      · have h0 : ¬ 0 < hOf X j := fun h0 => e2 (e1.snoc hj h0 rfl)
        rw [if_pos e1, if_neg e2]; omega
    · by_cases e2 : Rch M hd rv X u (hd j)
      · have h0 : ¬ 0 < hOf X (rv j) := fun h0 => e1 (e2.snoc (hN.g.rvl j hj) h0 (by rw [hN.g.rvv j hj]))
        rw [if_neg e1, if_pos e2]; omega
      · rw [if_neg e1, if_neg e2]; omega
  have hsum : sumN (fun j => if Rch M hd rv X u (hd (rv j)) then hOf X j - cp j else 0) M ≤ 0 := by
    have h1 := sumN_nonpos hf
    rw [sumN_add (fun j => if Rch M hd rv X u (hd (rv j)) then hOf X j - cp j else 0), sumN_inv hN.g.rvl hN.g.rvv (fun j => if Rch M hd rv X u (hd (rv j)) then hOf X j - cp j else 0)] at h1
    omega
  have hE : sumN (fun v => if Rch M hd rv X u v then hOf E v else 0) N = sumN (fun j => if Rch M hd rv X u (hd (rv j)) then hOf X j - cp j else 0) M := by
    rw [sumN_congr (g := fun v => sumN (fun j => if v = hd (rv j) then (if Rch M hd rv X u (hd (rv j)) then hOf X j - cp j else 0) else 0) M) fun v hv => ?_, sumN_swap, sumN_congr fun j hj => ?_]
    · have := sumN_upd (f := fun _ => 0) (g := fun v => if v = hd (rv j) then (if Rch M hd rv X u (hd (rv j)) then hOf X j - cp j else 0) else 0) (a := hd (rv j)) (n := N) (d := if Rch M hd rv X u (hd (rv j)) then hOf X j - cp j else 0) (hN.mN hj) (fun k _ hk => by simp [hk]) (by simp)
      rw [this, sumN_zero]
      omega
    · rw [h.exc v hv]
      unfold exT
      by_cases e : Rch M hd rv X u v
      · rw [if_pos e]
        refine sumN_congr fun j hj => ?_
        by_cases e1 : hd (rv j) = v
        · rw [if_pos e1, if_pos e1.symm, if_pos (by rw [e1]; exact e)]
        · rw [if_neg e1, if_neg (fun e' => e1 e'.symm)]
      · rw [if_neg e]
        refine ((sumN_zero M).symm).trans (sumN_congr fun j hj => ?_)
        by_cases e1 : v = hd (rv j)
        · rw [if_pos e1, if_neg (by rw [← e1]; exact e)]
        · rw [if_neg e1]
  have hpos : 0 < sumN (fun v => if Rch M hd rv X u v then hOf E v else 0) N := by
    refine sumN_pos (fun v hv => ?_) hu (by rw [if_pos (.nil u)]; exact he)
    split
    · rename_i hr
      exact h.neg v hv (fun e => hns (by rw [← e]; exact hr))
    · omega
  omega
/-- An active vertex has an open residual arc whose end is lower than 2N - 1. -/
theorem StIs.low (h : StIs N M s t hd rv cp X E H) (hN : PNet N M s t fst hd rv ai cp bk) {u : Nat} (hu : u < N) (hus : u ≠ s) (he : 0 < hOf E u) : ∃ a, fst u ≤ a ∧ a < fst (u + 1) ∧ a < M ∧ 0 < hOf X a ∧ hOf H (hd a) < 2 * N - 1 := by
  have hr := h.back hN hu he
  cases hr with
  | nil => exact absurd rfl hus
  | @cons a v ha h0 hw =>
    have hrow := hN.g.row ha
    refine ⟨a, hrow.1, hrow.2.1, ha, h0, ?_⟩
    refine Classical.byContradiction fun hge => ?_
    have hb := h.bnd (hd a) (hN.g.hdl a ha)
    obtain ⟨-, hlev⟩ := h.way hN hw hN.hs
    rw [h.src] at hlev
    obtain ⟨xs, h1, h2, h3⟩ := levels (k := N) (N := N) (H := H) (lo := N) fun i hi => hlev ((N : Int) + i) (by omega) (by omega)
    have h4 : (t :: xs).Nodup := List.nodup_cons.2 ⟨fun hm => by
      have := h3 t hm
      have := h.snk
      have := hN.n2
      omega, h1⟩
    have h5 := nodup_le (N := N) h4 (fun v hv => by
      rcases List.mem_cons.1 hv with rfl | hv
      · exact hN.ht
      · exact (h3 v hv).1)
    simp only [List.length_cons] at h5
    omega
/-- T is not reached from S. -/
theorem StIs.apart (h : StIs N M s t hd rv cp X E H) (hN : PNet N M s t fst hd rv ai cp bk) : ¬ Rch M hd rv X s t := fun hr => by
  obtain ⟨-, hlev⟩ := h.way hN hr hN.ht
  rw [h.src, h.snk] at hlev
  obtain ⟨xs, h1, h2, h3⟩ := levels (k := N + 1) (N := N) (H := H) (lo := 0) fun i hi => hlev ((0 : Int) + i) (by omega) (by omega)
  have h5 := nodup_le (N := N) h1 (fun v hv => (h3 v hv).1)
  omega

/-! Pushes, lifts. -/
def actB (s t : Nat) (E : List Int) (v : Nat) : Bool := decide (v ≠ s) && (decide (v ≠ t) && decide (0 < hOf E v))
theorem act_iff {v : Nat} : actB s t E v = true ↔ v ≠ s ∧ v ≠ t ∧ 0 < hOf E v := by simp [actB]
/-- Is a open, and does it lead down by one? -/
def admB (hd rv : Nat → Nat) (X H : List Int) (a : Nat) : Bool := opn X a && decide (hOf H (hd (rv a)) = hOf H (hd a) + 1)
theorem adm_iff {a : Nat} : admB hd rv X H a = true ↔ 0 < hOf X a ∧ hOf H (hd (rv a)) = hOf H (hd a) + 1 := by simp [admB, opn_hOf]
theorem StIs.push (h : StIs N M s t hd rv cp X E H) (hN : PNet N M s t fst hd rv ai cp bk) {a : Nat} (ha : a < M) (hm : admB hd rv X H a = true) (hu : actB s t E (hd (rv a)) = true) {d : Int} (d0 : 0 ≤ d) (d1 : d ≤ hOf X a) (d2 : d ≤ hOf E (hd (rv a))) :
    StIs N M s t hd rv cp (mvX rv X a d) (mvE hd rv E a d) H := by
  obtain ⟨h0, hh⟩ := adm_iff.1 hm
  obtain ⟨hus, hut, hue⟩ := act_iff.1 hu
  refine ⟨bal_mv h.bal hN ha d0 d1, by rw [mvE_len]; exact h.le, h.lh, exc_mv h.bal.1 h.le hN h.exc ha d, fun v hv hne => ?_, h.src, h.snk, h.bnd, fun b hb h1 => ?_⟩
  · rw [mvE_at hN h.le ha]
    have := h.neg v hv hne
    by_cases e : v = hd (rv a)
    · subst e
      rw [if_neg (hN.nol a ha), if_pos rfl]
      omega
    · rw [if_neg e]
      split <;> omega
  · rw [mvX_at hN h.bal.1 ha] at h1
    by_cases e1 : b = a
    · subst e1; exact h.arc b hb h0
    · rw [if_neg e1] at h1
      by_cases e2 : b = rv a
      · subst e2
        rw [hN.g.rvv a ha]
        omega
      · rw [if_neg e2] at h1
        exact h.arc b hb h1
/-- No residual arc of u is admissible. -/
def Stuck (hd rv : Nat → Nat) (fst : Nat → Nat) (X H : List Int) (u : Nat) : Prop := ∀ a, fst u ≤ a → a < fst (u + 1) → admB hd rv X H a = false
theorem StIs.lift (h : StIs N M s t hd rv cp X E H) (hN : PNet N M s t fst hd rv ai cp bk) {u : Nat} (hu : u < N) (ha : actB s t E u = true) (hs : Stuck hd rv fst X H u) {b : Nat} (hb : LowIs fst hd X H u b) :
    StIs N M s t hd rv cp X E (H.set u (hOf H (hd b) + 1)) ∧ hOf H u < hOf H (hd b) + 1 := by
  obtain ⟨hus, hut, hue⟩ := act_iff.1 ha
  have hfl := hN.g.fle (v := u + 1) (by omega)
  have hlb := h.lh
  have hbM : b < M := by have := hb.r2; omega
  have htb := hN.g.tail u b hu hb.r1 hb.r2
  have hup : hOf H u < hOf H (hd b) + 1 := by
    have h1 := h.arc b hbM (opn_iff.1 hb.op)
    rw [htb] at h1
    have h2 := hs b hb.r1 hb.r2
    have h3 : hOf H u ≠ hOf H (hd b) + 1 := fun e => by
      rw [adm_iff.2 ⟨opn_iff.1 hb.op, by rw [htb]; exact e⟩] at h2
      cases h2
    omega
  have hlow : hOf H (hd b) + 1 < 2 * N := by
    obtain ⟨a, h1, h2, h3, h4, h5⟩ := h.low hN hu hus hue
    have := hb.le a h1 h2 (opn_iff.2 h4)
    omega
  have hH : ∀ v, hOf (H.set u (hOf H (hd b) + 1)) v = if u = v then hOf H (hd b) + 1 else hOf H v := fun v => hOf_put (by omega)
  refine ⟨⟨h.bal, h.le, by simp [hlb], h.exc, h.neg, by rw [hH, if_neg hus]; exact h.src, by rw [hH, if_neg hut]; exact h.snk, fun v hv => ?_, fun a haM h0 => ?_⟩, hup⟩
  · rw [hH]
    have h1 := h.bnd v hv
    have h2 := h.bnd (hd b) (hN.g.hdl b hbM)
    split <;> omega
  · rw [hH, hH]
    have h1 := h.arc a haM h0
    have hrow := hN.g.row haM
    by_cases e1 : u = hd (rv a)
    · rw [if_pos e1]
      have h2 : u ≠ hd a := fun e => hN.nol a haM (e1.symm.trans e)
      rw [if_neg h2]
      rw [← e1] at hrow
      have := hb.le a hrow.1 hrow.2.1 (opn_iff.2 h0)
      omega
    · rw [if_neg e1]
      by_cases e2 : u = hd a
      · rw [if_pos e2]
        rw [← e2] at h1
        omega
      · rw [if_neg e2]; exact h1
end

end Go.Proofs.Ytanifbofjecpmaa
