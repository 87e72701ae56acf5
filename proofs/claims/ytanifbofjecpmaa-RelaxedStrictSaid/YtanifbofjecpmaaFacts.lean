/- Plain facts: residual arcs, sums of capacities, flows, ways, cuts, searches. -/
import Derived.Test.YtanifbofjecpmaaGround
/-! Plain facts on the residual arcs of a list of arcs: where each one stands. No word of the program. -/
namespace Go.Proofs.Ytanifbofjecpmaa

def touch (v : Int) (a : ArcN) : Bool := decide (a.frm ≠ a.to ∧ (a.frm = v ∨ a.to = v))
def deg (l : List ArcN) (v : Int) : Nat := l.countP (touch v)
/-- Where the row of a vertex begins. -/
def firstOf (l : List ArcN) : Nat → Nat
  | 0 => 0
  | k + 1 => firstOf l k + deg l (k : Int)
/-- Where arc i's residual arc at its end v stands. -/
def posOf (l : List ArcN) (i : Nat) (v : Int) : Nat := firstOf l v.toNat + deg (l.take i) v
/-- Arc i has a residual arc from v to u: b, is it the backward one; c, its capacity. -/
def Inc (l : List ArcN) (i : Nat) (v u : Int) (b : Bool) (c : Int) : Prop :=
  v ≠ u ∧ ∃ a, l[i]? = some a ∧ ((b = false ∧ a.frm = v ∧ a.to = u ∧ c = a.cap) ∨ (b = true ∧ a.to = v ∧ a.frm = u ∧ c = 0))
/-- All ends are vertices. -/
def EndsIn (N : Nat) (l : List ArcN) : Prop := ∀ a ∈ l, 0 ≤ a.frm ∧ a.frm < N ∧ 0 ≤ a.to ∧ a.to < N

section
variable {l : List ArcN} {i j N : Nat} {v u v' u' : Int} {b b' : Bool} {c c' : Int}

theorem deg_take_succ {a : ArcN} (h : l[i]? = some a) (v : Int) : deg (l.take (i + 1)) v = deg (l.take i) v + (if touch v a then 1 else 0) := by
  unfold deg
  rw [take_at h, List.countP_append]
  simp [List.countP_cons]
theorem deg_take_le (l : List ArcN) (i : Nat) (v : Int) : deg (l.take i) v ≤ deg l v := (List.take_sublist i l).countP_le
theorem deg_take_mono (l : List ArcN) (h : i ≤ j) (v : Int) : deg (l.take i) v ≤ deg (l.take j) v := by
  have := deg_take_le (l.take j) i v
  rwa [List.take_take, Nat.min_eq_left h] at this
theorem deg_le (l : List ArcN) (v : Int) : deg l v ≤ l.length := List.countP_le_length
theorem firstOf_mono (l : List ArcN) : ∀ {i j : Nat}, i ≤ j → firstOf l i ≤ firstOf l j := by
  intro i j h
  induction j with
  | zero => have : i = 0 := by omega
            subst this; exact Nat.le_refl _
  | succ j ih =>
    rcases Nat.eq_or_lt_of_le h with e | e
    · subst e; exact Nat.le_refl _
    · have := ih (by omega)
      simp only [firstOf]
      omega
theorem firstOf_le (l : List ArcN) : ∀ N, firstOf l N ≤ N * l.length
  | 0 => by simp [firstOf]
  | N + 1 => by
    have := firstOf_le l N
    have := deg_le l N
    simp only [firstOf, Nat.succ_mul]
    omega

theorem Inc.touch (h : Inc l i v u b c) : ∃ a, l[i]? = some a ∧ touch v a = true := by
  obtain ⟨hne, a, ha, h⟩ := h
  refine ⟨a, ha, ?_⟩
  simp only [Go.Proofs.Ytanifbofjecpmaa.touch, decide_eq_true_eq]
  rcases h with ⟨_, h1, h2, _⟩ | ⟨_, h1, h2, _⟩
  · exact ⟨by rw [h1, h2]; exact hne, .inl h1⟩
  · exact ⟨by rw [h1, h2]; exact fun e => hne e.symm, .inr h1⟩
theorem Inc.flip (h : Inc l i v u b c) : ∃ c', Inc l i u v (!b) c' := by
  obtain ⟨hne, a, ha, h⟩ := h
  rcases h with ⟨h0, h1, h2, _⟩ | ⟨h0, h1, h2, _⟩
  · exact ⟨0, fun e => hne e.symm, a, ha, .inr ⟨by simp [h0], h2, h1, rfl⟩⟩
  · exact ⟨a.cap, fun e => hne e.symm, a, ha, .inl ⟨by simp [h0], h2, h1, rfl⟩⟩
theorem Inc.lt (h : Inc l i v u b c) : i < l.length := by
  obtain ⟨_, a, ha, _⟩ := h
  exact (List.getElem?_eq_some_iff.1 ha).1
theorem Inc.ends (h : Inc l i v u b c) (hN : EndsIn N l) : 0 ≤ v ∧ v < N ∧ 0 ≤ u ∧ u < N := by
  obtain ⟨_, a, ha, h⟩ := h
  have := hN a (mem_at ha)
  rcases h with ⟨_, h1, h2, _⟩ | ⟨_, h1, h2, _⟩ <;> omega
theorem inc_fwd {a : ArcN} (h : l[i]? = some a) (hn : a.frm ≠ a.to) : Inc l i a.frm a.to false a.cap := ⟨hn, a, h, .inl ⟨rfl, rfl, rfl, rfl⟩⟩
theorem inc_bwd {a : ArcN} (h : l[i]? = some a) (hn : a.frm ≠ a.to) : Inc l i a.to a.frm true 0 := ⟨fun e => hn e.symm, a, h, .inr ⟨rfl, rfl, rfl, rfl⟩⟩
theorem Inc.same (h : Inc l i v u b c) (h' : Inc l i v u' b' c') : u = u' ∧ b = b' ∧ c = c' := by
  obtain ⟨hne, a, ha, h⟩ := h
  obtain ⟨hne', a', ha', h'⟩ := h'
  rw [ha] at ha'
  injection ha' with ha'
  subst ha'
  rcases h with ⟨h0, h1, h2, h3⟩ | ⟨h0, h1, h2, h3⟩ <;> rcases h' with ⟨g0, g1, g2, g3⟩ | ⟨g0, g1, g2, g3⟩
  · exact ⟨h2.symm.trans g2, h0.trans g0.symm, h3.trans g3.symm⟩
  · exact absurd (h2.symm.trans g1) (fun e => hne e.symm)
  · exact absurd (h2.symm.trans g1) (fun e => hne e.symm)
  · exact ⟨h2.symm.trans g2, h0.trans g0.symm, h3.trans g3.symm⟩

theorem deg_at (h : Inc l i v u b c) (hij : i < j) : deg (l.take i) v < deg (l.take j) v := by
  obtain ⟨a, ha, ht⟩ := h.touch
  have h1 := deg_take_succ ha v
  rw [ht] at h1
  have h2 := deg_take_mono l (show i + 1 ≤ j by omega) v
  simp at h1
  omega
theorem pos_row (h : Inc l i v u b c) (h0 : 0 ≤ v) : firstOf l v.toNat ≤ posOf l i v ∧ posOf l i v < firstOf l (v.toNat + 1) := by
  obtain ⟨a, ha, ht⟩ := h.touch
  have h1 := deg_take_succ ha v
  rw [ht] at h1
  have h2 := deg_take_le l (i + 1) v
  simp at h1
  simp only [posOf, firstOf, Int.toNat_of_nonneg h0]
  omega
theorem pos_lt (h : Inc l i v u b c) (hN : EndsIn N l) : posOf l i v < firstOf l N := by
  have he := h.ends hN
  have h1 := (pos_row h he.1).2
  have h2 := firstOf_mono l (show v.toNat + 1 ≤ N by omega)
  omega
theorem pos_inj (h : Inc l i v u b c) (h' : Inc l j v' u' b' c') (h0 : 0 ≤ v) (h0' : 0 ≤ v') (he : posOf l i v = posOf l j v') : v = v' ∧ i = j := by
  have hr := pos_row h h0
  have hr' := pos_row h' h0'
  have hv : v.toNat = v'.toNat := by
    rcases Nat.lt_trichotomy v.toNat v'.toNat with hl | hl | hl
    · have := firstOf_mono l (show v.toNat + 1 ≤ v'.toNat by omega)
      omega
    · exact hl
    · have := firstOf_mono l (show v'.toNat + 1 ≤ v.toNat by omega)
      omega
  have hv' : v = v' := by omega
  subst hv'
  refine ⟨rfl, ?_⟩
  unfold posOf at he
  rcases Nat.lt_trichotomy i j with hl | hl | hl
  · have := deg_at h hl; omega
  · exact hl
  · have := deg_at h' hl; omega

theorem deg_find : ∀ (l : List ArcN) (v : Int) (d : Nat), d < deg l v → ∃ i a, l[i]? = some a ∧ touch v a = true ∧ deg (l.take i) v = d
  | [], v, d, h => by simp [deg] at h
  | x :: r, v, d, h => by
    cases ht : touch v x with
    | true =>
      cases d with
      | zero => exact ⟨0, x, rfl, ht, by simp [deg]⟩
      | succ d =>
        obtain ⟨i, a, h1, h2, h3⟩ := deg_find r v d (by simp [deg, ht] at h ⊢; omega)
        exact ⟨i + 1, a, by simpa using h1, h2, by simp [deg, ht] at h3 ⊢; omega⟩
    | false =>
      obtain ⟨i, a, h1, h2, h3⟩ := deg_find r v d (by simp [deg, ht] at h ⊢; omega)
      exact ⟨i + 1, a, by simpa using h1, h2, by simp [deg, ht] at h3 ⊢; omega⟩
theorem first_find (l : List ArcN) : ∀ (N j : Nat), j < firstOf l N → ∃ v, v < N ∧ firstOf l v ≤ j ∧ j < firstOf l (v + 1)
  | 0, j, h => by simp [firstOf] at h
  | N + 1, j, h => by
    by_cases hj : j < firstOf l N
    · obtain ⟨v, h1, h2, h3⟩ := first_find l N j hj
      exact ⟨v, by omega, h2, h3⟩
    · exact ⟨N, by omega, by omega, h⟩
theorem row_find {k : Nat} (h1 : firstOf l k ≤ j) (h2 : j < firstOf l (k + 1)) : ∃ i u b c, Inc l i k u b c ∧ j = posOf l i k := by
  obtain ⟨i, a, ha, ht, hd⟩ := deg_find l k (j - firstOf l k) (by simp only [firstOf] at h2; omega)
  simp only [touch, decide_eq_true_eq] at ht
  have hp : j = posOf l i k := by unfold posOf; rw [hd]; simp; omega
  rcases ht with ⟨hn, hf | hf⟩
  · exact ⟨i, a.to, false, a.cap, by rw [← hf]; exact inc_fwd ha hn, hp⟩
  · exact ⟨i, a.frm, true, 0, by rw [← hf]; exact inc_bwd ha hn, hp⟩
/-- Each number below that of all residual arcs is one's. -/
theorem pos_find (h : j < firstOf l N) : ∃ i v u b c, Inc l i v u b c ∧ j = posOf l i v ∧ 0 ≤ v ∧ v < N := by
  obtain ⟨k, hk, h1, h2⟩ := first_find l N j h
  obtain ⟨i, u, b, c, hi, hp⟩ := row_find h1 h2
  exact ⟨i, k, u, b, c, hi, hp, by omega, by omega⟩

/-! Lists told by a function. -/
def tab {α : Type} (n : Nat) (g : Nat → α) : List α := (List.range n).map g
theorem tab_len {α : Type} (n : Nat) (g : Nat → α) : (tab n g).length = n := by simp [tab]
theorem tab_at {α : Type} {n : Nat} {g : Nat → α} {i : Nat} (h : i < n) : (tab n g)[i]? = some (g i) := by simp [tab, h]
theorem tab_ext {α : Type} {n : Nat} {g : Nat → α} {L : List α} (hl : L.length = n) (h : ∀ i, i < n → L[i]? = some (g i)) : L = tab n g := by
  apply List.ext_getElem?
  intro i
  by_cases hi : i < n
  · rw [h i hi, tab_at hi]
  · rw [List.getElem?_eq_none (by omega), List.getElem?_eq_none (by rw [tab_len]; omega)]
theorem tab_set {α : Type} {n : Nat} {g : Nat → α} (k : Nat) (x : α) : (tab n g).set k x = tab n (fun i => if i = k then x else g i) := by
  refine tab_ext (by simp [tab_len]) fun i hi => ?_
  rw [List.getElem?_set]
  by_cases h : k = i
  · subst h; simp [tab_len, hi]
  · rw [if_neg h, tab_at hi, if_neg (fun e => h e.symm)]
theorem tab_congr {α : Type} {n : Nat} {g h : Nat → α} (e : ∀ i, i < n → g i = h i) : tab n g = tab n h :=
  tab_ext (tab_len _ _) fun i hi => by rw [tab_at hi, e i hi]
end

end Go.Proofs.Ytanifbofjecpmaa

/-! Plain functions: a net joined. -/
namespace Go.Proofs.Ytanifbofjecpmaa

def endsAt (x y : Int) (a : ArcN) : Bool := a.frm == x && a.to == y
def idxOf (J : List ArcN) (p : Int × Int) : Option Nat := J.findIdx? (endsAt p.1 p.2)
def addAt (J : List ArcN) (i : Nat) (c : Int) : List ArcN := J.modify i fun b => ⟨b.frm, b.to, b.cap + c⟩
def joinStep (st : List ArcN × List Int) (a : ArcN) : List ArcN × List Int :=
  if a.frm = a.to then (st.1, st.2 ++ [-1])
  else match idxOf st.1 (a.frm, a.to) with
    | some i => (addAt st.1 i a.cap, st.2 ++ [(i : Int)])
    | none => (st.1 ++ [a], st.2 ++ [(st.1.length : Int)])
def joinOf (l : List ArcN) : List ArcN × List Int := l.foldl joinStep ([], [])
def joinTo (l : List ArcN) (k : Nat) : List ArcN × List Int := joinOf (l.take k)

theorem joinTo_zero (l : List ArcN) : joinTo l 0 = ([], []) := by simp [joinTo, joinOf]
theorem joinTo_succ {l : List ArcN} {k : Nat} {a : ArcN} (h : l[k]? = some a) : joinTo l (k + 1) = joinStep (joinTo l k) a := by
  unfold joinTo joinOf
  rw [take_at h, List.foldl_append]
  rfl
theorem joinTo_end {l : List ArcN} {k n : Nat} (hl : l.length = n) (hk : ¬ k < n) : joinTo l k = joinOf l := by
  unfold joinTo
  rw [List.take_of_length_le (by omega)]

theorem joinStep_loop {J : List ArcN} {o : List Int} {a : ArcN} (h : a.frm = a.to) : joinStep (J, o) a = (J, o ++ [-1]) := by simp [joinStep, h]
theorem joinStep_known {J : List ArcN} {o : List Int} {a : ArcN} {i : Nat} (h : a.frm ≠ a.to) (hi : idxOf J (a.frm, a.to) = some i) : joinStep (J, o) a = (addAt J i a.cap, o ++ [(i : Int)]) := by simp [joinStep, h, hi]
theorem joinStep_new {J : List ArcN} {o : List Int} {a : ArcN} (h : a.frm ≠ a.to) (hi : idxOf J (a.frm, a.to) = none) : joinStep (J, o) a = (J ++ [a], o ++ [(J.length : Int)]) := by simp [joinStep, h, hi]

theorem addAt_len (J : List ArcN) (i : Nat) (c : Int) : (addAt J i c).length = J.length := by simp [addAt]
theorem idxOf_at {J : List ArcN} {p : Int × Int} {i : Nat} (h : idxOf J p = some i) : ∃ b, J[i]? = some b ∧ b.frm = p.1 ∧ b.to = p.2 := by
  unfold idxOf at h
  rw [List.findIdx?_eq_some_iff_getElem] at h
  obtain ⟨hi, hp, _⟩ := h
  refine ⟨J[i], List.getElem?_eq_getElem hi, ?_⟩
  simpa [endsAt] using hp
theorem idxOf_lt {J : List ArcN} {p : Int × Int} {i : Nat} (h : idxOf J p = some i) : i < J.length := by
  obtain ⟨b, hb, _⟩ := idxOf_at h
  exact (List.getElem?_eq_some_iff.1 hb).1
theorem idxOf_snoc (J : List ArcN) (a : ArcN) (p : Int × Int) (hn : idxOf J (a.frm, a.to) = none) : idxOf (J ++ [a]) p = if p = (a.frm, a.to) then some J.length else idxOf J p := by
  unfold idxOf at hn ⊢
  rw [List.findIdx?_append]
  by_cases e : p = (a.frm, a.to)
  · subst e
    rw [hn]
    simp [endsAt]
  · rw [if_neg e]
    have hf : endsAt p.1 p.2 a = false := by
      simp only [endsAt, Bool.and_eq_false_iff, beq_eq_false_iff_ne, ne_eq]
      rcases p with ⟨x, y⟩
      simp only [Prod.mk.injEq, not_and] at e
      by_cases h : a.frm = x
      · exact .inr fun h' => e h.symm h'.symm
      · exact .inl h
    simp [hf]
theorem findIdx?_modify {α : Type} (p : α → Bool) (f : α → α) (hf : ∀ a, p (f a) = p a) : ∀ (l : List α) (i : Nat), (l.modify i f).findIdx? p = l.findIdx? p
  | [], i => by simp
  | x :: r, 0 => by simp [List.findIdx?_cons, hf]
  | x :: r, i + 1 => by simp [List.findIdx?_cons, findIdx?_modify p f hf r i]
theorem idxOf_addAt (J : List ArcN) (i : Nat) (c : Int) (p : Int × Int) : idxOf (addAt J i c) p = idxOf J p :=
  findIdx?_modify (endsAt p.1 p.2) (fun b => ⟨b.frm, b.to, b.cap + c⟩) (fun _ => rfl) J i
theorem addAt_snoc (J : List ArcN) (a : ArcN) : addAt (J ++ [⟨a.frm, a.to, 0⟩]) J.length a.cap = J ++ [a] := by
  unfold addAt
  induction J with
  | nil => simp
  | cons x r ih => simpa using ih
theorem addAt_set {J : List ArcN} {i : Nat} {b : ArcN} (h : J[i]? = some b) (c : Int) : addAt J i c = J.set i ⟨b.frm, b.to, b.cap + c⟩ := by
  unfold addAt
  induction J generalizing i with
  | nil => simp at h
  | cons x r ih =>
    cases i with
    | zero => simp at h; subst h; rfl
    | succ i => have := ih (i := i) (by simpa using h); simpa using this

/-! What capacities come to. -/
def total : List ArcN → Int
  | [] => 0
  | a :: r => a.cap + total r
def NonNeg (l : List ArcN) : Prop := ∀ a ∈ l, 0 ≤ a.cap
theorem total_append (l m : List ArcN) : total (l ++ m) = total l + total m := by
  induction l with
  | nil => simp [total]
  | cons a r ih => simp [total, ih]; omega
theorem total_nonneg {l : List ArcN} (h : NonNeg l) : 0 ≤ total l := by
  induction l with
  | nil => simp [total]
  | cons a r ih =>
    have := h a (by simp)
    have := ih fun x hx => h x (by simp [hx])
    simp [total]; omega
theorem total_at {l : List ArcN} (h : NonNeg l) {i : Nat} {a : ArcN} (ha : l[i]? = some a) : a.cap ≤ total l := by
  induction l generalizing i with
  | nil => simp at ha
  | cons x r ih =>
    have hx := h x (by simp)
    have hr : NonNeg r := fun y hy => h y (by simp [hy])
    have hn := total_nonneg hr
    cases i with
    | zero => simp at ha; subst ha; simp [total]; omega
    | succ i => have := ih hr (i := i) (by simpa using ha); simp [total]; omega
theorem total_take {l : List ArcN} (h : NonNeg l) (k : Nat) : total (l.take k) ≤ total l := by
  have e := total_append (l.take k) (l.drop k)
  rw [List.take_append_drop] at e
  have := total_nonneg (l := l.drop k) fun a ha => h a (List.mem_of_mem_drop ha)
  omega
theorem total_set {J : List ArcN} {i : Nat} {b : ArcN} (h : J[i]? = some b) (b' : ArcN) : total (J.set i b') = total J - b.cap + b'.cap := by
  induction J generalizing i with
  | nil => simp at h
  | cons x r ih =>
    cases i with
    | zero => simp at h; subst h; simp [total]; omega
    | succ i => have := ih (i := i) (by simpa using h); simp [total, this]; omega

theorem sumFrom_total {s r : Int} {l : List ArcN} (h : sumFrom s l = some r) : r = s + total l ∧ NonNeg l := by
  induction l generalizing s with
  | nil => simp only [sumFrom, Option.some.injEq] at h; simp [total, NonNeg, h]
  | cons a t ih =>
    unfold sumFrom at h
    split at h
    · cases h
    · rename_i hc
      obtain ⟨h1, h2⟩ := ih h
      refine ⟨by simp [total]; omega, fun x hx => ?_⟩
      rcases List.mem_cons.1 hx with rfl | hx
      · omega
      · exact h2 x hx
theorem sumB_total {l : List ArcN} (h : sumB l = true) : NonNeg l ∧ total l ≤ maxSum := by
  unfold sumB at h
  obtain ⟨r, hr⟩ := Option.isSome_iff_exists.1 h
  have h1 := sumFrom_total hr
  have h2 := sumFrom_bound (Int.le_refl 0) (by simp [maxSum]) hr
  exact ⟨h1.2, by omega⟩

theorem check_ok {N S T : Int} {l : List ArcN} (h : checkF N S T l = 0) : vertsB N = true ∧ l.length ≤ 16384 ∧ endsB N S T = true ∧ betweenB N l = true ∧ capsB l = true ∧ sumB l = true := by
  unfold checkF at h
  split at h
  · cases h
  · split at h
    · cases h
    · split at h
      · cases h
      · split at h
        · cases h
        · split at h
          · cases h
          · split at h
            · cases h
            · simp_all

/-- What holds of a joined net on the way. -/
structure JoinInv (l : List ArcN) (k : Nat) (J : List ArcN) (o : List Int) : Prop where
  eq : joinTo l k = (J, o)
  olen : o.length = k
  jlen : J.length ≤ k
  nn : NonNeg J
  tot : total J ≤ total (l.take k)
  ends : ∀ a ∈ J, InR a.frm ∧ InR a.to

theorem JoinInv.zero (l : List ArcN) : JoinInv l 0 [] [] := ⟨joinTo_zero l, rfl, by simp, by simp [NonNeg], by simp [total], by simp⟩
section
variable {l : List ArcN} {k : Nat} {J : List ArcN} {o : List Int} {a : ArcN}
theorem JoinInv.bound (h : JoinInv l k J o) (hl : NonNeg l) (hm : total l ≤ maxSum) (ha : l[k]? = some a) : total J + a.cap ≤ maxSum := by
  have h1 := total_take hl (k + 1)
  rw [take_at ha, total_append] at h1
  have := h.tot
  simp [total] at h1
  omega
theorem JoinInv.loop (h : JoinInv l k J o) (hl : NonNeg l) (ha : l[k]? = some a) (e : a.frm = a.to) : JoinInv l (k + 1) J (o ++ [-1]) := by
  refine ⟨by rw [joinTo_succ ha, h.eq, joinStep_loop e], by simp [h.olen], by have := h.jlen; omega, h.nn, ?_, h.ends⟩
  have := h.tot
  have := hl a (mem_at ha)
  rw [take_at ha, total_append]
  simp [total]; omega
theorem JoinInv.known (h : JoinInv l k J o) (hl : NonNeg l) (ha : l[k]? = some a) (e : a.frm ≠ a.to) {i : Nat} (hi : idxOf J (a.frm, a.to) = some i) : JoinInv l (k + 1) (addAt J i a.cap) (o ++ [(i : Int)]) := by
  obtain ⟨b, hb, _⟩ := idxOf_at hi
  have hbn := h.nn b (mem_at hb)
  have han := hl a (mem_at ha)
  have hbe := h.ends b (mem_at hb)
  have hmem : ∀ x ∈ addAt J i a.cap, x ∈ J ∨ x = ⟨b.frm, b.to, b.cap + a.cap⟩ := by
    intro x hx
    rw [addAt_set hb] at hx
    exact List.mem_or_eq_of_mem_set hx
  refine ⟨by rw [joinTo_succ ha, h.eq, joinStep_known e hi], by simp [h.olen], by rw [addAt_len]; have := h.jlen; omega, ?_, ?_, ?_⟩
  · intro x hx
    rcases hmem x hx with hx | rfl
    · exact h.nn x hx
    · simp; omega
  · have := h.tot
    rw [addAt_set hb, total_set hb, take_at ha, total_append]
    simp [total]; omega
  · intro x hx
    rcases hmem x hx with hx | rfl
    · exact h.ends x hx
    · exact hbe
theorem JoinInv.new (h : JoinInv l k J o) (hl : NonNeg l) (hf : FitsAll l) (ha : l[k]? = some a) (e : a.frm ≠ a.to) (hi : idxOf J (a.frm, a.to) = none) : JoinInv l (k + 1) (J ++ [a]) (o ++ [(J.length : Int)]) := by
  have han := hl a (mem_at ha)
  have haf := hf a (mem_at ha)
  refine ⟨by rw [joinTo_succ ha, h.eq, joinStep_new e hi], by simp [h.olen], by simp; exact h.jlen, ?_, ?_, ?_⟩
  · intro x hx
    rcases List.mem_append.1 hx with hx | hx
    · exact h.nn x hx
    · simp at hx; subst hx; exact han
  · have := h.tot
    rw [total_append, take_at ha, total_append]
    simp [total]; omega
  · intro x hx
    rcases List.mem_append.1 hx with hx | hx
    · exact h.ends x hx
    · simp at hx; subst hx; exact ⟨haf.1, haf.2.1⟩
end

end Go.Proofs.Ytanifbofjecpmaa

/-! Plain facts: flows and their excesses. -/
namespace Go.Proofs.Ytanifbofjecpmaa

/-- Numbers within the capacities. -/
structure FlowIn (l : List ArcN) (F : List Int) : Prop where
  len : F.length = l.length
  ent : ∀ (i : Nat) (a : ArcN) (x : Int), l[i]? = some a → F[i]? = some x → 0 ≤ x ∧ x ≤ a.cap

/-- What an arc with x on it adds to u's excess. -/
def dlt (a : ArcN) (x u : Int) : Int := (if a.to = u then x else 0) - (if a.frm = u then x else 0)
/-- u's excess. -/
def exOf : List ArcN → List Int → Int → Int
  | a :: l, x :: F, u => dlt a x u + exOf l F u
  | _, _, _ => 0
def exList (N : Nat) (l : List ArcN) (F : List Int) : List Int := (List.range N).map fun u : Nat => exOf l F (u : Int)
theorem exList_len (N : Nat) (l : List ArcN) (F : List Int) : (exList N l F).length = N := by simp [exList]
theorem exList_at {N : Nat} (l : List ArcN) (F : List Int) {u : Nat} (h : u < N) : (exList N l F)[u]? = some (exOf l F u) := by
  simp [exList, h]

theorem dlt_add (a : ArcN) (x y u : Int) : dlt a (x + y) u = dlt a x u + dlt a y u := by unfold dlt; split <;> split <;> omega
theorem dlt_bound (a : ArcN) {x : Int} (h : 0 ≤ x) (u : Int) : -x ≤ dlt a x u ∧ dlt a x u ≤ x := by unfold dlt; split <;> split <;> omega
theorem exOf_nil (F : List Int) (u : Int) : exOf [] F u = 0 := by simp [exOf]
theorem exOf_append : ∀ {l : List ArcN} {F : List Int} (m : List ArcN) (G : List Int) (u : Int) (_ : F.length = l.length), exOf (l ++ m) (F ++ G) u = exOf l F u + exOf m G u
  | [], [], m, G, u, _ => by simp [exOf]
  | a :: l, x :: F, m, G, u, h => by
    have := exOf_append (l := l) (F := F) m G u (by simpa using h)
    simp only [List.cons_append, exOf, this]
    omega
theorem exOf_take {l : List ArcN} {F : List Int} {k : Nat} {a : ArcN} {x : Int} (hl : F.length = l.length) (ha : l[k]? = some a) (hx : F[k]? = some x) (u : Int) :
    exOf (l.take (k + 1)) (F.take (k + 1)) u = exOf (l.take k) (F.take k) u + dlt a x u := by
  rw [take_at ha, take_at hx, exOf_append _ _ _ (by simp [hl])]
  simp [exOf]
theorem exOf_bound : ∀ {l : List ArcN} {F : List Int} (_ : FlowIn l F) (u : Int), -(total l) ≤ exOf l F u ∧ exOf l F u ≤ total l
  | [], F, _, u => by simp [exOf, total]
  | a :: l, [], h, _ => by have := h.len; simp at this
  | a :: l, x :: F, h, u => by
    have h' : FlowIn l F := ⟨by simpa using h.len, fun i b y hb hy => h.ent (i + 1) b y (by simpa using hb) (by simpa using hy)⟩
    have h1 := exOf_bound h' u
    have h2 := h.ent 0 a x rfl rfl
    have h3 := dlt_bound a h2.1 u
    simp only [exOf, total]
    omega
theorem FlowIn.take {l : List ArcN} {F : List Int} (h : FlowIn l F) (k : Nat) : FlowIn (l.take k) (F.take k) :=
  ⟨by simp [h.len], fun i a x ha hx => by
    have hi : i < k := by have := (List.getElem?_eq_some_iff.1 ha).1; simp at this; omega
    rw [List.getElem?_take_of_lt hi] at ha hx
    exact h.ent i a x ha hx⟩
theorem FlowIn.nonneg {l : List ArcN} {F : List Int} (h : FlowIn l F) : NonNeg l := fun a ha => by
  obtain ⟨i, hi⟩ := List.getElem?_of_mem ha
  have hlt := (List.getElem?_eq_some_iff.1 hi).1
  obtain ⟨x, hx⟩ : ∃ x, F[i]? = some x := ⟨_, List.getElem?_eq_getElem (by rw [h.len]; exact hlt)⟩
  have := h.ent i a x hi hx
  omega
theorem exOf_set : ∀ {l : List ArcN} {F : List Int} {i : Nat} {a : ArcN} {x : Int} (y u : Int) (_ : l[i]? = some a) (_ : F[i]? = some x), exOf l (F.set i y) u = exOf l F u + dlt a (y - x) u
  | [], _, _, _, _, _, _, h, _ => by simp at h
  | _ :: _, [], _, _, _, _, _, _, h => by simp at h
  | b :: l, z :: F, 0, a, x, y, u, ha, hx => by
    simp at ha hx
    subst ha; subst hx
    have := dlt_add b z (y - z) u
    rw [show z + (y - z) = y by omega] at this
    simp only [List.set_cons_zero, exOf]
    omega
  | b :: l, z :: F, i + 1, a, x, y, u, ha, hx => by
    have := exOf_set (l := l) (F := F) (i := i) y u (by simpa using ha) (by simpa using hx)
    simp only [List.set_cons_succ, exOf, this]
    omega
theorem exOf_turn : ∀ (l : List ArcN) (F : List Int) (u : Int), exOf (l.map turnArc) F u = -(exOf l F u)
  | [], F, u => by simp [exOf]
  | _ :: _, [], u => by simp [exOf]
  | a :: l, x :: F, u => by
    have := exOf_turn l F u
    simp only [List.map_cons, exOf, this, dlt, turnArc]
    omega
theorem exOf_plus : ∀ {l : List ArcN} {F G H : List Int} (_ : F.length = l.length) (_ : G.length = l.length) (_ : H.length = l.length) (_ : ∀ (i : Nat) (x y z : Int), F[i]? = some x → G[i]? = some y → H[i]? = some z → z = x + y) (u : Int), exOf l H u = exOf l F u + exOf l G u
  | [], _, _, _, _, _, _, _, u => by simp [exOf]
  | a :: l, x :: F, y :: G, z :: H, h1, h2, h3, he, u => by
    have := exOf_plus (l := l) (F := F) (G := G) (H := H) (by simpa using h1) (by simpa using h2) (by simpa using h3) (fun i x y z hx hy hz => he (i + 1) x y z (by simpa using hx) (by simpa using hy) (by simpa using hz)) u
    have e := he 0 x y z rfl rfl rfl
    subst e
    simp only [exOf, this, dlt_add]
    omega
  | _ :: _, [], _, _, h, _, _, _, _ => by simp at h
  | _ :: _, _ :: _, [], _, _, h, _, _, _ => by simp at h
  | _ :: _, _ :: _, _ :: _, [], _, _, h, _, _ => by simp at h
theorem exOf_zero : ∀ (l : List ArcN) (n : Nat) (u : Int), exOf l (List.replicate n 0) u = 0
  | [], n, u => by simp [exOf]
  | a :: l, 0, u => by simp [exOf]
  | a :: l, n + 1, u => by
    have := exOf_zero l n u
    simp only [List.replicate_succ, exOf, this, dlt]
    split <;> split <;> omega

/-! Sums over all vertices. -/
def sumN (f : Nat → Int) : Nat → Int
  | 0 => 0
  | n + 1 => sumN f n + f n
theorem sumN_congr {f g : Nat → Int} {n : Nat} (h : ∀ i, i < n → f i = g i) : sumN f n = sumN g n := by
  induction n with
  | zero => rfl
  | succ n ih => simp only [sumN]; rw [ih fun i hi => h i (by omega), h n (by omega)]
theorem sumN_add (f g : Nat → Int) (n : Nat) : sumN (fun i => f i + g i) n = sumN f n + sumN g n := by
  induction n with
  | zero => rfl
  | succ n ih => simp only [sumN, ih]; omega
theorem sumN_sub (f g : Nat → Int) (n : Nat) : sumN (fun i => f i - g i) n = sumN f n - sumN g n := by
  induction n with
  | zero => rfl
  | succ n ih => simp only [sumN, ih]; omega
theorem sumN_zero (n : Nat) : sumN (fun _ => 0) n = 0 := by
  induction n with
  | zero => rfl
  | succ n ih => simp only [sumN, ih]; omega
theorem sumN_one {p : Int} (x : Int) {n : Nat} (h0 : 0 ≤ p) (h1 : p < n) : sumN (fun u => if p = (u : Int) then x else 0) n = x := by
  obtain ⟨q, rfl⟩ := Int.eq_ofNat_of_zero_le h0
  have out : ∀ m : Nat, m ≤ q → sumN (fun u => if (q : Int) = (u : Int) then x else 0) m = 0 := by
    intro m hm
    rw [sumN_congr (g := fun _ => 0) fun i hi => if_neg (by omega), sumN_zero]
  have : ∀ m : Nat, q < m → sumN (fun u => if (q : Int) = (u : Int) then x else 0) m = x := by
    intro m hm
    induction m with
    | zero => omega
    | succ m ih =>
      simp only [sumN]
      by_cases e : q = m
      · subst e
        rw [out q (Nat.le_refl _), if_pos rfl]
        omega
      · rw [ih (by omega), if_neg (by omega)]
        omega
  exact this n (by omega)
theorem sum_dlt {a : ArcN} {N : Nat} (x : Int) (h : 0 ≤ a.frm ∧ a.frm < N ∧ 0 ≤ a.to ∧ a.to < N) : sumN (fun u => dlt a x (u : Int)) N = 0 := by
  unfold dlt
  rw [sumN_sub, sumN_one x h.2.2.1 h.2.2.2, sumN_one x h.1 h.2.1]
  omega
theorem sum_ex {N : Nat} : ∀ {l : List ArcN} (F : List Int) (_ : EndsIn N l), sumN (fun u => exOf l F (u : Int)) N = 0
  | [], F, _ => by simp only [exOf_nil]; exact sumN_zero N
  | _ :: _, [], _ => by simp only [exOf]; exact sumN_zero N
  | a :: l, x :: F, h => by
    simp only [exOf]
    rw [sumN_add, sum_dlt x (h a (by simp)), sum_ex F fun b hb => h b (by simp [hb])]
    rfl
theorem sumN_two {f : Nat → Int} {N s t : Nat} (hs : s < N) (ht : t < N) (hne : s ≠ t) (h : ∀ u, u < N → u ≠ s → u ≠ t → f u = 0) : sumN f N = f s + f t := by
  rw [sumN_congr (g := fun u => (if (s : Int) = (u : Int) then f s else 0) + (if (t : Int) = (u : Int) then f t else 0)) fun u hu => ?_]
  · rw [sumN_add, sumN_one _ (by omega) (by omega), sumN_one _ (by omega) (by omega)]
  · by_cases e1 : u = s
    · subst e1
      rw [if_pos rfl, if_neg (by omega)]
      omega
    · by_cases e2 : u = t
      · subst e2
        rw [if_pos rfl, if_neg (by omega)]
        omega
      · rw [if_neg (by omega), if_neg (by omega), h u hu e1 e2]
        rfl

theorem ends_in {N : Nat} {S T : Int} {l : List ArcN} (h : checkF N S T l = 0) : 2 ≤ N ∧ N ≤ 4096 ∧ l.length ≤ 16384 ∧ EndsIn N l ∧ 0 ≤ S ∧ S < N ∧ 0 ≤ T ∧ T < N ∧ S ≠ T ∧ NonNeg l ∧ total l ≤ maxSum := by
  obtain ⟨h1, h2, h3, h4, _, h6⟩ := check_ok h
  simp only [vertsB, decide_eq_true_eq] at h1
  simp only [endsB, isVertB, Bool.and_eq_true, decide_eq_true_eq] at h3
  obtain ⟨h7, h8⟩ := sumB_total h6
  refine ⟨by omega, by omega, h2, fun a ha => ?_, h3.1.1, h3.1.2, h3.2.1.1, h3.2.1.2, h3.2.2, h7, h8⟩
  have := List.all_eq_true.1 h4 a ha
  simp only [isVertB, Bool.and_eq_true, decide_eq_true_eq] at this
  omega

/-! Preflows, flows. -/
def PreIn (N : Nat) (S : Int) (l : List ArcN) (F : List Int) : Prop := ∀ u : Nat, u < N → (u : Int) = S ∨ 0 ≤ exOf l F u
def RightIn (N : Nat) (S T : Int) (l : List ArcN) (F : List Int) : Prop := ∀ u : Nat, u < N → (u : Int) = S ∨ (u : Int) = T ∨ exOf l F u = 0
/-- A flow's worth: what T has more, S has less. -/
theorem right_value {N : Nat} {S T : Int} {l : List ArcN} {F : List Int} (hc : checkF N S T l = 0) (h : RightIn N S T l F) : exOf l F S = -(exOf l F T) := by
  obtain ⟨_, _, _, hE, hS0, hS1, hT0, hT1, hST, _, _⟩ := ends_in hc
  obtain ⟨s, rfl⟩ := Int.eq_ofNat_of_zero_le hS0
  obtain ⟨t, rfl⟩ := Int.eq_ofNat_of_zero_le hT0
  have h1 := sum_ex F hE
  rw [sumN_two (s := s) (t := t) (by omega) (by omega) (by omega) fun u hu e1 e2 => ?_] at h1
  · omega
  · rcases h u hu with h' | h' | h'
    · omega
    · omega
    · exact h'

end Go.Proofs.Ytanifbofjecpmaa

/-! Plain facts: ways, and what is sent along them. -/
namespace Go.Proofs.Ytanifbofjecpmaa

/-- A hop: an arc, along it or back. -/
structure HopN where
  arc : Int
  back : Bool
deriving DecidableEq

def hBegin (a : ArcN) (b : Bool) : Int := if b = true then a.to else a.frm
def hEnd (a : ArcN) (b : Bool) : Int := if b = true then a.frm else a.to
/-- Hop h goes along an arc of l from v to w. -/
def HopAt (l : List ArcN) (h : HopN) (v w : Int) : Prop := 0 ≤ h.arc ∧ ∃ a, l[h.arc.toNat]? = some a ∧ hBegin a h.back = v ∧ hEnd a h.back = w
/-- A way from v to w. -/
def Way (l : List ArcN) : Int → List HopN → Int → Prop
  | v, [], w => v = w
  | v, h :: t, w => ∃ x, HopAt l h v x ∧ Way l x t w
section
variable {l : List ArcN} {v w x y : Int} {h : HopN} {H K : List HopN}
theorem HopAt.lt (hh : HopAt l h v w) : h.arc < l.length := by
  obtain ⟨h0, a, ha, _⟩ := hh
  have := (List.getElem?_eq_some_iff.1 ha).1
  omega
theorem HopAt.same (h1 : HopAt l h v w) (h2 : HopAt l h x y) : v = x ∧ w = y := by
  obtain ⟨_, a, ha, e1, e2⟩ := h1
  obtain ⟨_, b, hb, e3, e4⟩ := h2
  rw [ha] at hb
  injection hb with hb
  subst hb
  exact ⟨e1.symm.trans e3, e2.symm.trans e4⟩
theorem HopAt.flip (hh : HopAt l h v w) : HopAt l ⟨h.arc, !h.back⟩ w v := by
  obtain ⟨h0, a, ha, e1, e2⟩ := hh
  refine ⟨h0, a, ha, ?_, ?_⟩
  · rw [← e2]; unfold hBegin hEnd; cases h.back <;> rfl
  · rw [← e1]; unfold hBegin hEnd; cases h.back <;> rfl
theorem HopAt.ends {N : Nat} (hE : EndsIn N l) (hh : HopAt l h v w) : 0 ≤ v ∧ v < N ∧ 0 ≤ w ∧ w < N := by
  obtain ⟨_, a, ha, e1, e2⟩ := hh
  have := hE a (mem_at ha)
  subst e1; subst e2
  unfold hBegin hEnd
  cases h.back <;> simp <;> omega
theorem Way.snoc (hw : Way l v H w) (hh : HopAt l h w x) : Way l v (H ++ [h]) x := by
  induction H generalizing v with
  | nil => simp only [Way] at hw; subst hw; exact ⟨x, hh, rfl⟩
  | cons k t ih =>
    obtain ⟨y, h1, h2⟩ := hw
    exact ⟨y, h1, ih h2⟩
theorem Way.append (h1 : Way l v H w) (h2 : Way l w K x) : Way l v (H ++ K) x := by
  induction H generalizing v with
  | nil => simp only [Way] at h1; subst h1; exact h2
  | cons k t ih =>
    obtain ⟨y, h3, h4⟩ := h1
    exact ⟨y, h3, ih h4⟩
theorem Way.unsnoc (hw : Way l v (H ++ [h]) x) : ∃ y, Way l v H y ∧ HopAt l h y x := by
  induction H generalizing v with
  | nil =>
    obtain ⟨y, h1, h2⟩ := hw
    simp only [Way] at h2
    subst h2
    exact ⟨v, rfl, h1⟩
  | cons k t ih =>
    obtain ⟨y, h1, h2⟩ := hw
    obtain ⟨z, h3, h4⟩ := ih h2
    exact ⟨z, ⟨y, h1, h3⟩, h4⟩
theorem Way.end_eq (h1 : Way l v H w) (h2 : Way l x H y) (hne : H ≠ []) : v = x ∧ w = y := by
  induction H generalizing v x with
  | nil => exact absurd rfl hne
  | cons k t ih =>
    obtain ⟨a, h3, h4⟩ := h1
    obtain ⟨b, h5, h6⟩ := h2
    obtain ⟨e1, e2⟩ := h3.same h5
    subst e1; subst e2
    refine ⟨rfl, ?_⟩
    cases t with
    | nil => simp only [Way] at h4 h6; omega
    | cons m t => exact (ih h4 h6 (by simp)).2
/-- The way back. -/
def backWay (H : List HopN) : List HopN := (H.map fun h => ⟨h.arc, !h.back⟩).reverse
theorem backWay_cons : backWay (h :: H) = backWay H ++ [⟨h.arc, !h.back⟩] := by simp [backWay]
theorem backWay_snoc : backWay (H ++ [h]) = ⟨h.arc, !h.back⟩ :: backWay H := by simp [backWay]
theorem Way.back (hw : Way l v H w) : Way l w (backWay H) v := by
  induction H generalizing v with
  | nil => simp only [Way] at hw; subst hw; rfl
  | cons k t ih =>
    obtain ⟨y, h1, h2⟩ := hw
    rw [backWay_cons]
    exact (ih h2).snoc h1.flip
theorem Way.ends {N : Nat} (hE : EndsIn N l) (hw : Way l v H w) (hv : 0 ≤ v ∧ v < N) : 0 ≤ w ∧ w < N := by
  induction H generalizing v with
  | nil => simp only [Way] at hw; subst hw; exact hv
  | cons k t ih =>
    obtain ⟨y, h1, h2⟩ := hw
    have := h1.ends hE
    exact ih h2 ⟨this.2.2.1, this.2.2.2⟩
theorem Way.arcs (hw : Way l v H w) : ∀ h ∈ H, 0 ≤ h.arc ∧ h.arc < l.length := by
  induction H generalizing v with
  | nil => simp
  | cons k t ih =>
    obtain ⟨y, h1, h2⟩ := hw
    intro h hh
    rcases List.mem_cons.1 hh with rfl | hh
    · exact ⟨h1.1, h1.lt⟩
    · exact ih h2 h hh
end

/-! How often a way goes along an arc, more than back. -/
def sgn (h : HopN) (i : Int) : Int := if h.arc = i then (if h.back = true then -1 else 1) else 0
def surp : List HopN → Int → Int
  | [], _ => 0
  | h :: t, i => sgn h i + surp t i
theorem surp_append (H K : List HopN) (i : Int) : surp (H ++ K) i = surp H i + surp K i := by
  induction H with
  | nil => simp [surp]
  | cons h t ih => simp only [List.cons_append, surp, ih]; omega
theorem surp_snoc (H : List HopN) (h : HopN) (i : Int) : surp (H ++ [h]) i = surp H i + sgn h i := by
  rw [surp_append]
  simp [surp]
theorem sgn_flip (h : HopN) (i : Int) : sgn ⟨h.arc, !h.back⟩ i = -(sgn h i) := by
  unfold sgn
  cases h.back <;> simp <;> split <;> rfl
theorem surp_back (H : List HopN) (i : Int) : surp (backWay H) i = -(surp H i) := by
  induction H with
  | nil => rfl
  | cons h t ih =>
    rw [backWay_cons, surp_snoc, ih, sgn_flip]
    simp only [surp]
    omega
theorem surp_bound (H : List HopN) (i : Int) : -(H.length : Int) ≤ surp H i ∧ surp H i ≤ H.length := by
  induction H with
  | nil => simp [surp]
  | cons h t ih =>
    have : -1 ≤ sgn h i ∧ sgn h i ≤ 1 := by unfold sgn; split; split <;> omega; omega
    simp only [surp, List.length_cons]
    omega
theorem surp_none {H : List HopN} {i : Int} (h : ∀ k ∈ H, k.arc ≠ i) : surp H i = 0 := by
  induction H with
  | nil => rfl
  | cons k t ih =>
    simp only [surp, sgn, if_neg (h k (by simp)), ih fun x hx => h x (by simp [hx])]
    rfl

/-- The numbers, d sent along the way. -/
def sent (F : List Int) (H : List HopN) (d : Int) : List Int := F.mapIdx fun i x => x + d * surp H (i : Int)
theorem sent_len (F : List Int) (H : List HopN) (d : Int) : (sent F H d).length = F.length := by simp [sent]
theorem sent_at {F : List Int} {i : Nat} {x : Int} (H : List HopN) (d : Int) (hx : F[i]? = some x) : (sent F H d)[i]? = some (x + d * surp H (i : Int)) := by
  simp [sent, hx]
theorem sent_inv {F : List Int} {H : List HopN} {d : Int} {i : Nat} {y : Int} (hy : (sent F H d)[i]? = some y) : ∃ x, F[i]? = some x ∧ y = x + d * surp H (i : Int) := by
  have hlt := (List.getElem?_eq_some_iff.1 hy).1
  rw [sent_len] at hlt
  have hx : F[i]? = some F[i] := List.getElem?_eq_getElem hlt
  rw [sent_at H d hx] at hy
  injection hy with hy
  exact ⟨_, hx, hy.symm⟩
theorem sent_ext {F G : List Int} {H : List HopN} {d : Int} (hl : G.length = F.length) (h : ∀ (i : Nat) (x : Int), F[i]? = some x → G[i]? = some (x + d * surp H (i : Int))) : G = sent F H d := by
  apply List.ext_getElem?
  intro i
  by_cases hi : i < F.length
  · have hx : F[i]? = some F[i] := List.getElem?_eq_getElem hi
    rw [h i _ hx, sent_at H d hx]
  · rw [List.getElem?_eq_none (by omega), List.getElem?_eq_none (by rw [sent_len]; omega)]
theorem sent_none (F : List Int) (H : List HopN) (d : Int) (h : ∀ i : Int, surp H i = 0) : sent F H d = F := by
  symm
  refine sent_ext rfl fun i x hx => ?_
  rw [h, Int.mul_zero, Int.add_zero]
  exact hx
theorem sent_nil (F : List Int) (d : Int) : sent F [] d = F := sent_none F [] d fun _ => rfl
theorem sent_zero (F : List Int) (H : List HopN) : sent F H 0 = F := by
  symm
  refine sent_ext rfl fun i x hx => ?_
  rw [Int.zero_mul, Int.add_zero]
  exact hx
theorem sent_back (F : List Int) (H : List HopN) (d : Int) : sent (sent F H d) (backWay H) d = F := by
  symm
  refine sent_ext (by rw [sent_len]) fun i y hy => ?_
  obtain ⟨x, hx, rfl⟩ := sent_inv hy
  rw [hx, surp_back, Int.mul_neg]
  congr 1
  omega
theorem surp_both (H : List HopN) (i : Int) : surp (H ++ backWay H) i = 0 := by
  rw [surp_append, surp_back]; omega

theorem sent_cons {F : List Int} {h : HopN} {t : List HopN} {d y : Int} (h0 : 0 ≤ h.arc) (hy : (sent F t d)[h.arc.toNat]? = some y) : sent F (h :: t) d = (sent F t d).set h.arc.toNat (y + d * (if h.back = true then -1 else 1)) := by
  symm
  refine sent_ext (by simp [sent_len]) fun i x hx => ?_
  have hlt := (List.getElem?_eq_some_iff.1 hx).1
  have hs := sent_at t d hx
  simp only [surp, sgn]
  by_cases e : h.arc = (i : Int)
  · have ei : h.arc.toNat = i := by omega
    rw [ei] at hy ⊢
    rw [hs] at hy
    injection hy with hy
    rw [List.getElem?_set_self (by rw [sent_len]; exact hlt), if_pos e]
    congr 1
    rw [← hy, Int.mul_add]
    omega
  · have ei : h.arc.toNat ≠ i := by omega
    rw [List.getElem?_set_ne ei, hs, if_neg e, Int.zero_add]

theorem dlt_hop {a : ArcN} (b : Bool) (d u : Int) : dlt a (d * (if b = true then -1 else 1)) u = (if hEnd a b = u then d else 0) - (if hBegin a b = u then d else 0) := by
  unfold dlt hEnd hBegin
  cases b
  · simp
  · simp only [if_true, Int.mul_neg, Int.mul_one]
    split <;> split <;> omega
/-- What is sent along a way moves the excess of its begin and its end alone. -/
theorem ex_sent {l : List ArcN} {F : List Int} (hl : F.length = l.length) {H : List HopN} {v w : Int} (hw : Way l v H w) (d u : Int) : exOf l (sent F H d) u = exOf l F u + ((if w = u then d else 0) - (if v = u then d else 0)) := by
  induction H generalizing v with
  | nil => simp only [Way] at hw; subst hw; rw [sent_nil]; omega
  | cons h t ih =>
    obtain ⟨x, ⟨h0, a, ha, e1, e2⟩, hw'⟩ := hw
    have hlt := (List.getElem?_eq_some_iff.1 ha).1
    obtain ⟨y, hy⟩ : ∃ y, (sent F t d)[h.arc.toNat]? = some y := ⟨_, List.getElem?_eq_getElem (by rw [sent_len, hl]; exact hlt)⟩
    rw [sent_cons h0 hy, exOf_set _ _ ha hy, ih hw']
    rw [show ∀ p q : Int, p + q - p = q from fun p q => by omega, dlt_hop, e1, e2]
    omega

/-- How much may be sent. -/
def IsRoom (l : List ArcN) (F : List Int) (H : List HopN) (r : Int) : Prop := 0 ≤ r ∧ r ≤ maxSum ∧ ∀ d, 0 ≤ d → d ≤ maxSum → (d ≤ r ↔ FlowIn l (sent F H d))
section
variable {l : List ArcN} {F : List Int} {H : List HopN} {r d : Int}
theorem IsRoom.sent (h : IsRoom l F H r) (h0 : 0 ≤ d) (h1 : d ≤ r) : FlowIn l (sent F H d) := (h.2.2 d h0 (by have := h.2.1; omega)).1 h1
theorem IsRoom.back (h : IsRoom l (Proofs.Ytanifbofjecpmaa.sent F H d) (backWay H) r) (hF : FlowIn l F) (h0 : 0 ≤ d) (h1 : d ≤ maxSum) : d ≤ r := (h.2.2 d h0 h1).2 (by rw [sent_back]; exact hF)
theorem IsRoom.both (h : IsRoom l F (H ++ backWay H) r) (hF : FlowIn l F) : r = maxSum := by
  have h1 := h.2.1
  have := (h.2.2 maxSum (by unfold maxSum; omega) (Int.le_refl _)).2 (by rw [sent_none F _ _ (surp_both H)]; exact hF)
  omega
end

end Go.Proofs.Ytanifbofjecpmaa

/-! Plain facts: sides, cuts, what they are worth. -/
namespace Go.Proofs.Ytanifbofjecpmaa

/-- Is v in the side? -/
def inS (K : List Bool) (v : Int) : Bool := (K[v.toNat]?).getD false
/-- The side is a cut. -/
structure IsCut (N : Nat) (S T : Int) (K : List Bool) : Prop where
  len : K.length = N
  src : inS K S = true
  snk : inS K T = false
theorem inS_at {K : List Bool} {v : Nat} {b : Bool} (h : K[v]? = some b) : inS K (v : Int) = b := by simp [inS, h]
theorem at_inS {K : List Bool} {v : Nat} (h : v < K.length) : K[v]? = some (inS K (v : Int)) := by
  simp [inS, h]
theorem side_ext {K L : List Bool} (hl : K.length = L.length) (h : ∀ v : Nat, v < K.length → inS K (v : Int) = inS L (v : Int)) : K = L := by
  apply List.ext_getElem?
  intro i
  by_cases hi : i < K.length
  · rw [at_inS hi, at_inS (by omega), h i hi]
  · rw [List.getElem?_eq_none (by omega), List.getElem?_eq_none (by omega)]

def outB (K : List Bool) (a : ArcN) : Bool := inS K a.frm && !inS K a.to
def innB (K : List Bool) (a : ArcN) : Bool := !inS K a.frm && inS K a.to
/-- The capacity of a side. -/
def capX (K : List Bool) : List ArcN → Int
  | [] => 0
  | a :: r => (if outB K a then a.cap else 0) + capX K r
/-- What goes across a side. -/
def accX (K : List Bool) : List ArcN → List Int → Int
  | a :: l, x :: F => ((if outB K a then x else 0) - (if innB K a then x else 0)) + accX K l F
  | _, _ => 0
def TightFor (K : List Bool) (l : List ArcN) (F : List Int) : Prop :=
  ∀ (i : Nat) (a : ArcN) (x : Int), l[i]? = some a → F[i]? = some x → (outB K a = true → x = a.cap) ∧ (innB K a = true → x = 0)

theorem FlowIn.tail {a : ArcN} {l : List ArcN} {x : Int} {F : List Int} (h : FlowIn (a :: l) (x :: F)) : FlowIn l F :=
  ⟨by simpa using h.len, fun i b y hb hy => h.ent (i + 1) b y (by simpa using hb) (by simpa using hy)⟩

section
variable {K : List Bool} {l : List ArcN} {F : List Int} {N : Nat} {S T : Int}

theorem capX_append (l m : List ArcN) : capX K (l ++ m) = capX K l + capX K m := by
  induction l with
  | nil => simp [capX]
  | cons a r ih => simp only [List.cons_append, capX, ih]; omega
theorem capX_take {k : Nat} {a : ArcN} (ha : l[k]? = some a) : capX K (l.take (k + 1)) = capX K (l.take k) + (if outB K a then a.cap else 0) := by
  rw [take_at ha, capX_append]
  simp [capX]
theorem capX_bound (h : NonNeg l) : 0 ≤ capX K l ∧ capX K l ≤ total l := by
  induction l with
  | nil => simp [capX, total]
  | cons a r ih =>
    have h1 := ih fun b hb => h b (by simp [hb])
    have h2 := h a (by simp)
    simp only [capX, total]
    split <;> omega
theorem accX_append : ∀ {l : List ArcN} {F : List Int} (m : List ArcN) (G : List Int) (_ : F.length = l.length), accX K (l ++ m) (F ++ G) = accX K l F + accX K m G
  | [], [], m, G, _ => by simp [accX]
  | a :: l, x :: F, m, G, h => by
    have := accX_append (l := l) (F := F) m G (by simpa using h)
    simp only [List.cons_append, accX, this]
    omega
theorem accX_take {k : Nat} {a : ArcN} {x : Int} (hl : F.length = l.length) (ha : l[k]? = some a) (hx : F[k]? = some x) :
    accX K (l.take (k + 1)) (F.take (k + 1)) = accX K (l.take k) (F.take k) + ((if outB K a then x else 0) - (if innB K a then x else 0)) := by
  rw [take_at ha, take_at hx, accX_append _ _ (by simp [hl])]
  simp [accX]
theorem accX_bound : ∀ {l : List ArcN} {F : List Int} (_ : FlowIn l F), -(total l) ≤ accX K l F ∧ accX K l F ≤ total l
  | [], F, _ => by simp [accX, total]
  | a :: l, [], h => by have := h.len; simp at this
  | a :: l, x :: F, h => by
    have h1 := accX_bound h.tail
    have h2 := h.ent 0 a x rfl rfl
    simp only [accX, total]
    split <;> split <;> omega

/-- What goes across is what those beyond have. -/
def beyond (K : List Bool) (l : List ArcN) (F : List Int) (u : Nat) : Int := if inS K (u : Int) then 0 else exOf l F (u : Int)
theorem sum_pick {p : Int} (x : Int) {n : Nat} (h0 : 0 ≤ p) (h1 : p < n) : sumN (fun u : Nat => if inS K (u : Int) then 0 else if p = (u : Int) then x else 0) n = if inS K p then 0 else x := by
  rw [← sumN_one (p := p) (if inS K p then 0 else x) h0 h1]
  refine sumN_congr fun u _ => ?_
  by_cases e : p = (u : Int)
  · subst e; simp
  · rw [if_neg e, if_neg e]; simp
theorem acc_sum : ∀ {l : List ArcN} (F : List Int) (_ : EndsIn N l), accX K l F = sumN (beyond K l F) N
  | [], F, _ => by
    rw [sumN_congr (g := fun _ => 0) fun u _ => by simp [beyond, exOf], sumN_zero]
    simp [accX]
  | _ :: _, [], _ => by
    rw [sumN_congr (g := fun _ => 0) fun u _ => by simp [beyond, exOf], sumN_zero]
    simp [accX]
  | a :: l, x :: F, h => by
    have ih := acc_sum (l := l) F fun b hb => h b (by simp [hb])
    have ha := h a (by simp)
    have e1 := sum_pick (K := K) x ha.2.2.1 ha.2.2.2
    have e2 := sum_pick (K := K) x ha.1 ha.2.1
    rw [sumN_congr (g := fun u : Nat => ((if inS K (u : Int) then 0 else if a.to = (u : Int) then x else 0) - (if inS K (u : Int) then 0 else if a.frm = (u : Int) then x else 0)) + beyond K l F u) fun u _ => by
      simp only [beyond, exOf, dlt]; split <;> omega]
    rw [sumN_add, sumN_sub, e1, e2, ← ih]
    simp only [accX, outB, innB]
    rcases Bool.eq_false_or_eq_true (inS K a.frm) with h1 | h1 <;> rcases Bool.eq_false_or_eq_true (inS K a.to) with h2 | h2 <;> simp [h1, h2]
theorem acc_value (hc : checkF N S T l = 0) (hk : IsCut N S T K) (h : RightIn N S T l F) : accX K l F = exOf l F T := by
  obtain ⟨_, _, _, hE, hS0, hS1, hT0, hT1, hST, _, _⟩ := ends_in hc
  rw [acc_sum F hE, ← sumN_one (p := T) (exOf l F T) hT0 hT1]
  refine sumN_congr fun u hu => ?_
  unfold beyond
  by_cases e : T = (u : Int)
  · rw [if_pos e, ← e, hk.snk]; rfl
  · rw [if_neg e]
    split
    · rfl
    · rename_i hn
      rcases h u hu with e1 | e1 | e1
      · rw [e1, hk.src] at hn; exact absurd rfl hn
      · exact absurd e1.symm e
      · exact e1

theorem acc_cap : ∀ {l : List ArcN} {F : List Int} (_ : FlowIn l F), accX K l F ≤ capX K l ∧ (accX K l F = capX K l ↔ TightFor K l F)
  | [], F, h => by
    refine ⟨by simp [accX, capX], fun _ i a x ha => by simp at ha, fun _ => by simp [accX, capX]⟩
  | a :: l, [], h => by have := h.len; simp at this
  | a :: l, x :: F, h => by
    have h1 := acc_cap (l := l) (F := F) h.tail
    have h2 := h.ent 0 a x rfl rfl
    have hb : (if outB K a then x else 0) - (if innB K a then x else 0) ≤ (if outB K a then a.cap else 0) := by split <;> split <;> omega
    have he : (if outB K a then x else 0) - (if innB K a then x else 0) = (if outB K a then a.cap else 0) ↔ ((outB K a = true → x = a.cap) ∧ (innB K a = true → x = 0)) := by
      unfold outB innB
      rcases Bool.eq_false_or_eq_true (inS K a.frm) with h1 | h1 <;> rcases Bool.eq_false_or_eq_true (inS K a.to) with h2 | h2 <;> simp [h1, h2] <;> omega
    simp only [accX, capX]
    refine ⟨by omega, fun e => ?_, fun ht => ?_⟩
    · have e1 : accX K l F = capX K l := by omega
      have t1 := h1.2.1 e1
      have t2 := he.1 (by omega)
      intro i b y hb' hy
      cases i with
      | zero => simp at hb' hy; subst hb'; subst hy; exact t2
      | succ i => exact t1 i b y (by simpa using hb') (by simpa using hy)
    · have t1 := h1.2.2 fun i b y hb' hy => ht (i + 1) b y (by simpa using hb') (by simpa using hy)
      have t2 := he.2 (ht 0 a x rfl rfl)
      omega
end

/-! Two sides. -/
def sideOf (f : Bool → Bool → Bool) (K L : List Bool) : List Bool := tab (max K.length L.length) fun v => f (inS K (v : Int)) (inS L (v : Int))
theorem sideOf_len (f : Bool → Bool → Bool) (K L : List Bool) : (sideOf f K L).length = max K.length L.length := tab_len _ _
theorem inS_sideOf {f : Bool → Bool → Bool} (hf : f false false = false) (K L : List Bool) (v : Int) : inS (sideOf f K L) v = f (inS K v) (inS L v) := by
  unfold inS sideOf
  by_cases h : v.toNat < max K.length L.length
  · rw [tab_at h]
    simp only [inS, Option.getD_some, Int.toNat_natCast]
  · rw [List.getElem?_eq_none (by rw [tab_len]; omega), List.getElem?_eq_none (show K.length ≤ v.toNat by omega), List.getElem?_eq_none (show L.length ≤ v.toNat by omega)]
    simpa using hf.symm
theorem pair_cap {l : List ArcN} (h : NonNeg l) (K L : List Bool) : capX (sideOf (· && ·) K L) l + capX (sideOf (· || ·) K L) l ≤ capX K l + capX L l := by
  induction l with
  | nil => simp [capX]
  | cons a r ih =>
    have h1 := ih fun b hb => h b (by simp [hb])
    have h2 := h a (by simp)
    simp only [capX, outB, inS_sideOf (f := (· && ·)) rfl, inS_sideOf (f := (· || ·)) rfl]
    rcases Bool.eq_false_or_eq_true (inS K a.frm) with e1 | e1 <;> rcases Bool.eq_false_or_eq_true (inS K a.to) with e2 | e2 <;> rcases Bool.eq_false_or_eq_true (inS L a.frm) with e3 | e3 <;> rcases Bool.eq_false_or_eq_true (inS L a.to) with e4 | e4 <;> simp [e1, e2, e3, e4] <;> omega
theorem pair_and {N : Nat} {S T : Int} {K L : List Bool} (h1 : IsCut N S T K) (h2 : IsCut N S T L) : IsCut N S T (sideOf (· && ·) K L) :=
  ⟨by rw [sideOf_len, h1.len, h2.len]; omega, by rw [inS_sideOf rfl, h1.src, h2.src]; rfl, by rw [inS_sideOf rfl, h1.snk]; rfl⟩
theorem pair_or {N : Nat} {S T : Int} {K L : List Bool} (h1 : IsCut N S T K) (h2 : IsCut N S T L) : IsCut N S T (sideOf (· || ·) K L) :=
  ⟨by rw [sideOf_len, h1.len, h2.len]; omega, by rw [inS_sideOf rfl, h1.src]; rfl, by rw [inS_sideOf rfl, h1.snk, h2.snk]; rfl⟩
theorem and_same (K : List Bool) : sideOf (· && ·) K K = K :=
  side_ext (by rw [sideOf_len]; omega) fun v _ => by rw [inS_sideOf rfl]; simp
theorem or_turn (K L : List Bool) : sideOf (· || ·) K L = sideOf (· || ·) L K :=
  side_ext (by rw [sideOf_len, sideOf_len]; omega) fun v _ => by rw [inS_sideOf rfl, inS_sideOf rfl]; exact Bool.or_comm _ _

end Go.Proofs.Ytanifbofjecpmaa

/-! Plain facts: who is reached, and a search for them. -/
namespace Go.Proofs.Ytanifbofjecpmaa

/-- Steps of R lead from v to x. -/
inductive Star (R : Int → Int → Prop) : Int → Int → Prop
  | here (v : Int) : Star R v v
  | more {v u x : Int} : Star R v u → R u x → Star R v x
section
variable {R R' : Int → Int → Prop} {v u x : Int}
theorem Star.mono (h : ∀ v u, R v u → R' v u) (hs : Star R v x) : Star R' v x := by
  induction hs with
  | here => exact .here _
  | more _ h2 ih => exact .more ih (h _ _ h2)
theorem Star.ahead (h : R v u) (hs : Star R u x) : Star R v x := by
  induction hs with
  | here => exact .more (.here _) h
  | more _ h2 ih => exact .more ih h2
theorem Star.flip (hs : Star R v x) : Star (fun a b => R b a) x v := by
  induction hs with
  | here => exact .here _
  | more _ h2 ih => exact Star.ahead h2 ih
theorem Star.shut {p : Int → Prop} (hs : Star R v x) (hv : p v) (h : ∀ a b, p a → R a b → p b) : p x := by
  induction hs with
  | here => exact hv
  | more _ h2 ih => exact h _ _ ih h2
end

/-- A residual arc that is let pass leads from v to u. -/
def Via (l : List ArcN) (p : Nat → Bool) (v u : Int) : Prop := ∃ (i : Nat) (b : Bool) (c : Int), Inc l i v u b c ∧ p (posOf l i v) = true

theorem inS_set {K : List Bool} {v : Nat} {u : Int} (hu : 0 ≤ u) (hv : v < K.length) : inS (K.set v true) u = (inS K u || decide (u = (v : Int))) := by
  obtain ⟨q, rfl⟩ := Int.eq_ofNat_of_zero_le hu
  unfold inS
  simp only [Int.toNat_natCast, List.getElem?_set]
  by_cases e : v = q
  · subst e; simp [hv]
  · rw [if_neg e]
    have : ¬ (q : Int) = (v : Int) := by omega
    simp [this]
theorem set_there {K : List Bool} {v : Nat} (h : inS K (v : Int) = true) : K.set v true = K := by
  apply List.ext_getElem?
  intro i
  rw [List.getElem?_set]
  by_cases e : v = i
  · subst e
    rw [if_pos rfl]
    simp only [inS, Int.toNat_natCast] at h
    cases hk : K[v]? with
    | none => rw [hk] at h; cases h
    | some b =>
      rw [hk] at h
      have := (List.getElem?_eq_some_iff.1 hk).1
      simp only [Option.getD_some] at h
      subst h
      simp [this]
  · rw [if_neg e]

/-- A search, its first i vertices gone through. -/
structure SeekInv (R : Int → Int → Prop) (N : Nat) (s : Int) (i : Nat) (K : List Bool) (xs : List Int) : Prop where
  len : K.length = N
  cnt : K.count true = xs.length
  mem : ∀ v : Int, 0 ≤ v → inS K v = true → v ∈ xs
  ent : ∀ v ∈ xs, 0 ≤ v ∧ v < N ∧ inS K v = true ∧ Star R s v
  src : inS K s = true
  done : ∀ (j : Nat) (v : Int), j < i → xs[j]? = some v → ∀ u, 0 ≤ u → R v u → inS K u = true
section
variable {R : Int → Int → Prop} {N i : Nat} {s : Int} {K : List Bool} {xs : List Int}
theorem SeekInv.le (h : SeekInv R N s i K xs) : xs.length ≤ N := by
  rw [← h.cnt, ← h.len]
  exact List.count_le_length
theorem SeekInv.start {s : Nat} (hs : s < N) : SeekInv R N s 0 ((List.replicate N false).set s true) [(s : Int)] := by
  have h0 : ∀ u : Int, inS (List.replicate N false) u = false := fun u => by
    unfold inS
    cases h : (List.replicate N false)[u.toNat]? with
    | none => rfl
    | some b =>
      have := List.mem_of_getElem? h
      simp only [List.mem_replicate] at this
      rw [this.2]; rfl
  have hset : ∀ u : Int, 0 ≤ u → inS ((List.replicate N false).set s true) u = decide (u = (s : Int)) := fun u hu => by
    rw [inS_set hu (by simpa using hs), h0]; simp
  refine ⟨by simp, ?_, fun v hv h => ?_, fun v hv => ?_, ?_, fun j v hj => absurd hj (by omega)⟩
  · rw [List.count_set (by simpa using hs)]
    simp [List.count_replicate]
  · rw [hset v hv] at h
    simpa using h
  · obtain rfl := List.mem_singleton.1 hv
    exact ⟨by omega, by omega, by rw [hset _ (by omega)]; simp, .here _⟩
  · rw [hset _ (by omega)]; simp
theorem SeekInv.add {v : Nat} (h : SeekInv R N s i K xs) (hs : 0 ≤ s) (hv : v < N) (hR : Star R s v) (hK : inS K (v : Int) = false) (hi : i ≤ xs.length) : SeekInv R N s i (K.set v true) (xs ++ [(v : Int)]) := by
  have hl := h.len
  have hset : ∀ u : Int, 0 ≤ u → inS (K.set v true) u = (inS K u || decide (u = (v : Int))) := fun u hu => inS_set hu (by omega)
  have hkv : K[v]'(by omega) = false := by
    have := at_inS (K := K) (v := v) (by omega)
    rw [List.getElem?_eq_getElem (by omega), hK] at this
    injection this
  refine ⟨by simp [hl], ?_, fun u hu hk => ?_, fun u hu => ?_, ?_, fun j u hj hju x hx hR' => ?_⟩
  · rw [List.count_set (by omega), hkv, h.cnt]
    simp
  · rw [hset u hu] at hk
    simp only [Bool.or_eq_true, decide_eq_true_eq] at hk
    rcases hk with hk | hk
    · exact List.mem_append_left _ (h.mem u hu hk)
    · subst hk; simp
  · rcases List.mem_append.1 hu with hu | hu
    · obtain ⟨e1, e2, e3, e4⟩ := h.ent u hu
      exact ⟨e1, e2, by rw [hset u e1, e3]; rfl, e4⟩
    · obtain rfl := List.mem_singleton.1 hu
      exact ⟨by omega, by omega, by rw [hset _ (by omega)]; simp, hR⟩
  · rw [hset s hs, h.src]; rfl
  · rw [List.getElem?_append_left (by omega)] at hju
    rw [hset x hx, h.done j u hj hju x hx hR']; rfl
theorem SeekInv.next {v : Int} (h : SeekInv R N s i K xs) (hv : xs[i]? = some v) (hd : ∀ u, 0 ≤ u → R v u → inS K u = true) : SeekInv R N s (i + 1) K xs :=
  ⟨h.len, h.cnt, h.mem, h.ent, h.src, fun j x hj hjx u hu hR => by
    by_cases e : j = i
    · subst e
      rw [hv] at hjx
      injection hjx with hjx
      subst hjx
      exact hd u hu hR
    · exact h.done j x (by omega) hjx u hu hR⟩
theorem SeekInv.all (h : SeekInv R N s i K xs) (hi : ¬ i < xs.length) (hs : 0 ≤ s) (hN : ∀ v u, R v u → 0 ≤ u) {v : Int} (hv : 0 ≤ v) : inS K v = true ↔ Star R s v := by
  constructor
  · intro hk
    exact (h.ent v (h.mem v hv hk)).2.2.2
  · intro hs'
    have := hs'.shut (p := fun x => 0 ≤ x ∧ inS K x = true) ⟨hs, h.src⟩ fun a b ha hR => by
      obtain ⟨j, hj⟩ := List.getElem?_of_mem (h.mem a ha.1 ha.2)
      have hjl := (List.getElem?_eq_some_iff.1 hj).1
      exact ⟨hN _ _ hR, h.done j a (by omega) hj b (hN _ _ hR) hR⟩
    exact this.2
end

end Go.Proofs.Ytanifbofjecpmaa
