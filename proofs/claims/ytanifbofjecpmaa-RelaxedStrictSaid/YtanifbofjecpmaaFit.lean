/- Several rows of a call's own beside a struct that names them: append to one of them, store into the struct. Plain facts: residual arcs told one behind the other, vertex by vertex. Plain facts: a residual network by its rows, distances, a search in width. No word of the program. The document's own answer for layer 1: vertex, Sum, Check of a right net. The document's own answer for layer 2: Make. (Written by wip/gen_make.py.) The document's own answer for layer 2: Res. math/bits.Mul, slices.Repeat of one number, cmp.Less, slices.IsSorted. Layer 5: fit. -/
import Derived.Test.YtanifbofjecpmaaChecks
import Derived.Test.YtanifbofjecpmaaCells
import Derived.Test.YtanifbofjecpmaaFacts
import Derived.Test.YtanifbofjecpmaaCsrr
import Derived.Deep.QuietTactic
import Derived.BigQuiet
import Derived.Deep.DeepCutAuto
import Derived.Deep.CutBlock
import Derived.Lib.Mul64
import Derived.Laws.Bits64b
import Derived.Laws.CopyOwn
import Derived.Shelf.Bits.Mul64
import Derived.Deep.RegionHeld3
/-! Held -/
namespace Go.Proofs.Ytanifbofjecpmaa
open Go.RowKit

/-- A row of one-cell elements. -/
structure Rw where
  t : TypeId
  A : Option Addr
  n : Nat
  c : Nat
  xs : List Value
abbrev Rw.v (r : Rw) : Value := .slice r.A r.n r.c

/-- These rows are the call's own, each in a block of its own. -/
structure Held (w : World) (base : Nat) (rs : List Rw) : Prop where
  own : ∀ (i : Nat) (r : Rw), rs[i]? = some r → w.ownsRow base r.t 1 r.v r.n r.xs
  ne : ∀ (i j : Nat) (r s : Rw), i ≠ j → rs[i]? = some r → rs[j]? = some s → ∀ g, r.v.ownBlock = some g → s.v.ownBlock ≠ some g

section
variable {w w' W : World} {base gc : Nat} {rs : List Rw}
theorem Held.grown {row : Option Nat} (h : Held w base rs) (hg : w.grownBy w' row) (hr : ∀ g, row = some g → ∀ (i : Nat) (r : Rw), rs[i]? = some r → r.v.ownBlock ≠ some g) : Held w' base rs :=
  ⟨fun i r hi => (h.own i r hi).kept hg (by
    cases hb : r.v.ownBlock with
    | none => exact .inl rfl
    | some g =>
      refine .inr fun e => ?_
      exact hr g e.symm i r hi hb), h.ne⟩
theorem Held.alloc (h : Held w base rs) (o : Obj) : Held (w.alloc o) base rs := h.grown (World.grownBy_alloc w o none) fun g e => by cases e
theorem Held.app {i m c' : Nat} {r : Rw} {A' : Option Addr} {news : List Value} (h : Held w base rs) (hr : rs[i]? = some r) (ho : w'.ownsRow base r.t 1 (.slice A' (r.n + m) c') (r.n + m) (r.xs ++ news))
    (hg : w.grownBy w' r.v.ownBlock) (hx : (Value.slice A' (r.n + m) c').ownBlock = r.v.ownBlock ∨ (Value.slice A' (r.n + m) c').ownBlock = some w.heap.size) :
    Held w' base (rs.set i ⟨r.t, A', r.n + m, c', r.xs ++ news⟩) := by
  have hi := (List.getElem?_eq_some_iff.1 hr).1
  have hnew : ∀ (j : Nat) (s : Rw), j ≠ i → rs[j]? = some s → ∀ g, (Value.slice A' (r.n + m) c').ownBlock = some g → s.v.ownBlock ≠ some g := by
    intro j s hj hs g hgg e
    rcases hx with hx | hx
    · exact h.ne i j r s (fun e => hj e.symm) hr hs g (hx ▸ hgg) e
    · rw [hx] at hgg
      have := ((h.own j s hs).lt g e).2
      injection hgg with hgg
      omega
  refine ⟨fun j s hs => ?_, fun j k s t hjk hs ht g hgs e => ?_⟩
  · by_cases hj : j = i
    · subst hj
      rw [List.getElem?_set_self hi] at hs
      injection hs with hs
      subst hs
      exact ho
    · rw [List.getElem?_set_ne (fun e => hj e.symm)] at hs
      refine (h.own j s hs).kept hg ?_
      cases hb : s.v.ownBlock with
      | none => exact .inl rfl
      | some g => exact .inr fun e => h.ne i j r s (fun e => hj e.symm) hr hs g e.symm hb
  · by_cases hj : j = i
    · subst hj
      rw [List.getElem?_set_self hi] at hs
      injection hs with hs
      subst hs
      rw [List.getElem?_set_ne hjk] at ht
      exact hnew k t (fun e => hjk e.symm) ht g hgs e
    · rw [List.getElem?_set_ne (fun e => hj e.symm)] at hs
      by_cases hk : k = i
      · subst hk
        rw [List.getElem?_set_self hi] at ht
        injection ht with ht
        subst ht
        exact hnew j s hj hs g e hgs
      · rw [List.getElem?_set_ne (fun e => hk e.symm)] at ht
        exact h.ne j k s t hjk hs ht g hgs e

/-- A struct in the block gc, the rows, other blocks of other types; nothing below base was touched since w0. -/
structure Cx (w0 w : World) (base gc : Nat) (tc : TypeId) (vc : Array Value) (rs : List Rw) (oth : List (Nat × TypeId × Array Value)) : Prop where
  kc : Blk w gc tc vc
  held : Held w base rs
  oth : ∀ o ∈ oth, Blk w o.1 o.2.1 o.2.2 ∧ o.1 ≠ gc ∧ ∀ r ∈ rs, r.t ≠ o.2.1
  tne : ∀ r ∈ rs, r.t ≠ tc
  bas : base ≤ gc ∧ base ≤ w.heap.size
  bel : Below base w0 w
variable {w0 : World} {tc : TypeId} {vc : Array Value} {oth : List (Nat × TypeId × Array Value)}
theorem Cx.alloc (h : Cx w0 w base gc tc vc rs oth) (o : Obj) : Cx w0 (w.alloc o) base gc tc vc rs oth :=
  ⟨h.kc.alloc o, h.held.alloc o, fun x hx => ⟨(h.oth x hx).1.alloc o, (h.oth x hx).2⟩, h.tne, ⟨h.bas.1, by simp; have := h.bas.2; omega⟩, h.bel.alloc h.bas.2 o⟩
theorem Cx.store (h : Cx w0 w base gc tc vc rs oth) (i : Nat) (u : Value) : Cx w0 (w.setCell ⟨gc, i, none⟩ u) base gc tc (vc.setIfInBounds i u) rs oth := by
  refine ⟨h.kc.set i u, ?_, fun x hx => ⟨(h.oth x hx).1.far (h.oth x hx).2.1 u, (h.oth x hx).2⟩, h.tne, ⟨h.bas.1, by simpa using h.bas.2⟩, h.bel.setCell h.bas.1 u⟩
  refine h.held.grown (row := some gc) ⟨rfl, rfl, rfl, by simp, fun k _ hk => heap_setCell_other w ⟨gc, i, none⟩ k u (fun e => hk (by simp [e]))⟩ ?_
  intro g e i r hr hb
  injection e with e
  subst e
  have ho := h.held.own i r hr
  rcases ho.2 with ⟨h0, _⟩ | ⟨g', cap, cur, hv, _, hh, _⟩
  · rw [h0] at hb; simp [Value.ownBlock] at hb
  · rw [hv] at hb
    simp [Value.ownBlock] at hb
    subst hb
    have hk := h.kc
    unfold Blk at hk
    rw [hh] at hk
    injection hk with hk
    injection hk with _ ht
    exact h.tne r (List.mem_of_getElem? hr) ht
theorem Cx.more (h : Cx w0 w base gc tc vc rs oth) {b : Nat} {t : TypeId} {cs : Array Value} (hb : Blk w b t cs) (hne : b ≠ gc) (ht : ∀ r ∈ rs, r.t ≠ t) : Cx w0 w base gc tc vc rs ((b, t, cs) :: oth) :=
  ⟨h.kc, h.held, fun o ho => by
    rcases List.mem_cons.1 ho with rfl | ho
    · exact ⟨hb, hne, ht⟩
    · exact h.oth o ho, h.tne, h.bas, h.bel⟩
theorem Cx.less (h : Cx w0 w base gc tc vc rs oth) {oth' : List (Nat × TypeId × Array Value)} (hs : ∀ o ∈ oth', o ∈ oth) : Cx w0 w base gc tc vc rs oth' := ⟨h.kc, h.held, fun o ho => h.oth o (hs o ho), h.tne, h.bas, h.bel⟩

/-- The program's elements of one cell. -/
structure OneCell (P : Program) (t e : TypeId) (bytes : Nat) : Prop where
  und : P.underlying t = some (.slice e)
  info : ∃ i z, P.info? e = some i ∧ i.zero = some z ∧ i.size = 1 ∧ i.bytes = bytes ∧ z.cells.size = 1
  small : bytes ≤ 8

theorem Cx.appended (h : Cx w0 w base gc tc vc rs oth) {k n c m c' : Nat} {e : TypeId} {A A' : Option Addr} {xs news : List Value} (hr : rs[k]? = some ⟨e, A, n, c, xs⟩)
    (ho : w'.ownsRow base e 1 (.slice A' (n + m) c') (n + m) (xs ++ news)) (hg : w.grownBy w' (Value.slice A n c).ownBlock)
    (hx : (Value.slice A' (n + m) c').ownBlock = (Value.slice A n c).ownBlock ∨ (Value.slice A' (n + m) c').ownBlock = some w.heap.size) :
    Cx w0 w' base gc tc vc (rs.set k ⟨e, A', n + m, c', xs ++ news⟩) oth := by
  have hown : w.ownsRow base e 1 (.slice A n c) n xs := h.held.own k _ hr
  have hmem := List.mem_of_getElem? hr
  have hts : ∀ r ∈ rs.set k ⟨e, A', n + m, c', xs ++ news⟩, ∀ t, (∀ s ∈ rs, s.t ≠ t) → r.t ≠ t := by
    intro r hr' t ht
    rcases List.mem_or_eq_of_mem_set hr' with hr' | rfl
    · exact ht r hr'
    · have h1 := ht _ hmem
      exact h1
  exact ⟨h.kc.grownO hg hown (h.tne _ hmem), Held.app (r := ⟨e, A, n, c, xs⟩) h.held hr ho hg hx,
    fun o ho' => ⟨(h.oth o ho').1.grownO hg hown ((h.oth o ho').2.2 _ hmem), (h.oth o ho').2.1, fun r hr' => hts r hr' _ (h.oth o ho').2.2⟩,
    fun r hr' => hts r hr' _ h.tne, ⟨h.bas.1, Nat.le_trans h.bas.2 hg.size⟩, below_grown h.bel hg hown (Nat.le_refl _) h.bas.2⟩
end

/-- append of one value to a row. -/
theorem wp_app {P : Program} {ops : Array Oper} {rest : List Oper} {o : Oper} {a : Act} {Q : Exit → Act → World → Prop} {w0 W : World} {base gc : Nat} {tc : TypeId} {vc : Array Value} {rs : List Rw} {oth : List (Nat × TypeId × Array Value)}
    (C : Cx w0 W base gc tc vc rs oth) (hgd : o.guard = none) (s x : Operand) (t e : TypeId) (bytes : Nat)
    (ho : o.op = .call { callee := .builtin .append, args := #[s, x], argTypes := #[t, t] }) (E : OneCell P t e bytes)
    (k n c : Nat) (A : Option Addr) (xs : List Value) (v : Value) (hr : rs[k]? = some ⟨e, A, n, c, xs⟩) (hs : a.eval s = .slice A n c) {g : Nat} (hx : a.eval x = .slice (some ⟨g, 0, none⟩) 1 1) (hv : v.oneCell' = true)
    (hn : n ≤ 1000000000) (hg : W.heap.size = g) (h : ∀ A' c' w', Hid (Cx w0 w' base gc tc vc (rs.set k ⟨e, A', n + 1, c', xs ++ [v]⟩) oth) → wpList P ops Q rest (a.put o.dst (.slice A' (n + 1) c')) w') :
    wpList P ops Q (o :: rest) a (W.alloc (.cells #[v] e)) := by
  subst hg
  obtain ⟨i, z, hi, hz, h1, h2, h3⟩ := E.info
  have C1 := C.alloc (.cells #[v] e)
  have hB : Blk (W.alloc (.cells #[v] e)) W.heap.size e #[v] := Blk.new rfl
  refine wpList_append_row _ hgd s x t ho base e i z 1 bytes E.und hi hz h1 h2 h3 (by omega) A n c xs hs (C1.held.own k _ hr) (some ⟨W.heap.size, 0, none⟩) 1 1 [v] hx rfl ?_ ?_ ?_ ?_ C1.bas.2 ?_
  · intro _
    refine ⟨_, rfl, fun j u hu => ?_⟩
    rw [addr_add, Nat.zero_add]
    exact (hB.cell j).trans (by simpa using hu)
  · intro u hu
    simp only [List.mem_singleton] at hu
    rw [hu]; exact hv
  · unfold maxLen; omega
  · have := E.small
    have h4 := Nat.mul_le_mul (show n + 1 ≤ 1000000001 by omega) this
    omega
  · intro A' c' w' ho' hg hxx
    exact h A' c' w' (Lib.hid (C1.appended hr ho'.out hg hxx.out))

theorem one_int : OneCell Try.prog 27 3 8 := ⟨Try.underlying27, by
  have h := int_info
  obtain ⟨i, hi, h2⟩ := Option.map_eq_some_iff.1 h
  simp only [Prod.mk.injEq] at h2
  exact ⟨i, _, hi, h2.1, h2.2.1, h2.2.2, rfl⟩, by omega⟩
theorem one_long : OneCell Try.prog 26 2 8 := ⟨Try.underlying26, by
  have h := long_info
  obtain ⟨i, hi, h2⟩ := Option.map_eq_some_iff.1 h
  simp only [Prod.mk.injEq] at h2
  exact ⟨i, _, hi, h2.1, h2.2.1, h2.2.2, rfl⟩, by omega⟩
theorem one_bool : OneCell Try.prog 30 4 1 := ⟨Try.underlying30, by
  have h := bool_info
  obtain ⟨i, hi, h2⟩ := Option.map_eq_some_iff.1 h
  simp only [Prod.mk.injEq] at h2
  exact ⟨i, _, hi, h2.1, h2.2.1, h2.2.2, rfl⟩, by omega⟩

end Go.Proofs.Ytanifbofjecpmaa

/-! Refp -/
namespace Go.Proofs.Ytanifbofjecpmaa

theorem tab_succ {α : Type} (n : Nat) (g : Nat → α) : tab (n + 1) g = tab n g ++ [g n] := by
  simp [tab, List.range_succ]

/-- The first m residual arcs stand in these rows. -/
structure Ent (l : List ArcN) (m : Nat) (H C Ai : List Int) (B : List Bool) : Prop where
  lH : H.length = m
  lC : C.length = m
  lA : Ai.length = m
  lB : B.length = m
  ent : ∀ (i : Nat) (v u : Int) (b : Bool) (c : Int), Inc l i v u b c → 0 ≤ v → posOf l i v < m → H[posOf l i v]? = some u ∧ C[posOf l i v]? = some c ∧ Ai[posOf l i v]? = some (i : Int) ∧ B[posOf l i v]? = some b

section
variable {l : List ArcN} {m N M : Nat} {H C Ai R : List Int} {B : List Bool} {i k p q : Nat} {v u v' u' : Int} {b b' : Bool} {c c' : Int}
theorem Ent.zero (l : List ArcN) : Ent l 0 [] [] [] [] := ⟨rfl, rfl, rfl, rfl, fun _ _ _ _ _ _ _ h => absurd h (by omega)⟩
theorem snoc_last {α : Type} {L : List α} {n : Nat} (h : L.length = n) (x : α) : (L ++ [x])[n]? = some x := by subst h; simp
theorem snoc_old {α : Type} {L : List α} {n j : Nat} (h : L.length = n) (x : α) (hj : j < n) : (L ++ [x])[j]? = L[j]? := List.getElem?_append_left (by omega)
theorem Ent.step (h : Ent l m H C Ai B) (hI : Inc l i v u b c) (hv : 0 ≤ v) (hp : posOf l i v = m) : Ent l (m + 1) (H ++ [u]) (C ++ [c]) (Ai ++ [(i : Int)]) (B ++ [b]) := by
  refine ⟨by simp [h.lH], by simp [h.lC], by simp [h.lA], by simp [h.lB], fun i' v' u' b' c' hI' hv' hlt => ?_⟩
  by_cases e : posOf l i' v' = m
  · obtain ⟨rfl, rfl⟩ := pos_inj hI' hI hv' hv (by omega)
    obtain ⟨rfl, rfl, rfl⟩ := hI'.same hI
    rw [e]
    exact ⟨snoc_last h.lH _, snoc_last h.lC _, snoc_last h.lA _, snoc_last h.lB _⟩
  · have h1 := h.ent i' v' u' b' c' hI' hv' (by omega)
    rw [snoc_old h.lH _ (by omega), snoc_old h.lC _ (by omega), snoc_old h.lA _ (by omega), snoc_old h.lB _ (by omega)]
    exact h1
/-- Where the next residual arc of v stands. -/
def nextAt (l : List ArcN) (v k : Nat) : Nat := firstOf l v + deg (l.take k) (v : Int)
theorem next_zero (l : List ArcN) (v : Nat) : nextAt l v 0 = firstOf l v := by simp [nextAt, deg]
theorem next_end {n : Nat} (hl : l.length = n) (v : Nat) : nextAt l v n = firstOf l (v + 1) := by
  subst hl
  simp [nextAt, firstOf, List.take_length]
theorem next_skip {a : ArcN} {v : Nat} (ha : l[k]? = some a) (ht : touch (v : Int) a = false) : nextAt l v (k + 1) = nextAt l v k := by
  unfold nextAt
  rw [deg_take_succ ha, ht]
  simp
theorem next_step {a : ArcN} {v : Nat} (ha : l[k]? = some a) (ht : touch (v : Int) a = true) : nextAt l v (k + 1) = nextAt l v k + 1 := by
  unfold nextAt
  rw [deg_take_succ ha, ht]
  simp; omega
theorem next_pos (v k : Nat) : posOf l k (v : Int) = nextAt l v k := by simp [posOf, nextAt]
theorem next_le (v k N : Nat) (hv : v < N) : nextAt l v k ≤ firstOf l N := by
  have h1 := deg_take_le l k (v : Int)
  have h2 := firstOf_mono l (show v + 1 ≤ N by omega)
  simp only [firstOf] at h2
  unfold nextAt
  omega

/-- The other one of each of the first i stands in R. -/
structure RevTo (l : List ArcN) (i : Nat) (R : List Int) : Prop where
  len : R.length = i
  ent : ∀ (k : Nat) (v u : Int) (b : Bool) (c : Int), Inc l k v u b c → 0 ≤ v → posOf l k v < i → R[posOf l k v]? = some (posOf l k u : Int)
theorem RevTo.zero (l : List ArcN) : RevTo l 0 [] := ⟨rfl, fun _ _ _ _ _ _ _ h => absurd h (by omega)⟩
theorem RevTo.step (h : RevTo l i R) (hI : Inc l k v u b c) (hv : 0 ≤ v) (hp : posOf l k v = i) (hq : posOf l k u = q) : RevTo l (i + 1) (R ++ [(q : Int)]) := by
  refine ⟨by simp [h.len], fun k' v' u' b' c' hI' hv' hlt => ?_⟩
  by_cases e : posOf l k' v' = i
  · obtain ⟨rfl, rfl⟩ := pos_inj hI' hI hv' hv (by omega)
    obtain ⟨rfl, rfl, rfl⟩ := hI'.same hI
    rw [e, hq]
    exact snoc_last h.len _
  · rw [snoc_old h.len _ (by omega)]
    exact h.ent k' v' u' b' c' hI' hv' (by omega)
theorem Inc.other (h : Inc l k v u b c) (h' : Inc l k v' u' b' c') : v' = v ∨ v' = u := by
  obtain ⟨hne, a, ha, h⟩ := h
  obtain ⟨hne', a', ha', h'⟩ := h'
  rw [ha] at ha'
  injection ha' with ha'
  subst ha'
  rcases h with ⟨_, h1, h2, _⟩ | ⟨_, h1, h2, _⟩ <;> rcases h' with ⟨_, g1, g2, _⟩ | ⟨_, g1, g2, _⟩
  · exact .inl (g1.symm.trans h1)
  · exact .inr (g1.symm.trans h2)
  · exact .inr (g1.symm.trans h2)
  · exact .inl (g1.symm.trans h1)
/-- Two of one arc are the other ones of one another. -/
theorem pair_is (hE : EndsIn N l) (hI : Inc l k v u b c) {k' : Nat} (hI' : Inc l k' v' u' b' c') : ((k : Int) = (k' : Int) ∧ posOf l k v ≠ posOf l k' v') ↔ posOf l k' v' = posOf l k u := by
  obtain ⟨c1, hF⟩ := hI.flip
  constructor
  · rintro ⟨hk, hne⟩
    have hk' : k = k' := by omega
    subst hk'
    rcases hI.other hI' with rfl | rfl
    · exact absurd rfl hne
    · rfl
  · intro e
    obtain ⟨rfl, rfl⟩ := pos_inj hI' hF (hI'.ends hE).1 (hF.ends hE).1 e
    exact ⟨rfl, fun e => hI.1 (pos_inj hI hI' (hI.ends hE).1 (hI'.ends hE).1 e).1⟩
end

/-- The rows of a residual network, plainly. -/
structure CsrL (N : Nat) (l : List ArcN) (F H R C Ai : List Int) (B : List Bool) : Prop where
  fst : F = tab (N + 1) fun v => (firstOf l v : Int)
  ent : Ent l (firstOf l N) H C Ai B
  rev : RevTo l (firstOf l N) R

section
variable {l : List ArcN} {m N M : Nat} {F H C Ai R f X : List Int} {B : List Bool} {i k p q : Nat} {v u v' u' : Int} {b b' : Bool} {c c' x : Int}
/-- What stands at number k. -/
theorem CsrL.at (h : CsrL N l F H R C Ai B) (hE : EndsIn N l) (hk : k < firstOf l N) :
    ∃ (i q : Nat) (v u : Int) (b : Bool) (c : Int), Inc l i v u b c ∧ posOf l i v = k ∧ posOf l i u = q ∧ q < firstOf l N ∧ H[k]? = some u ∧ R[k]? = some (q : Int) ∧ C[k]? = some c ∧ Ai[k]? = some (i : Int) ∧ B[k]? = some b := by
  obtain ⟨i, v, u, b, c, hI, rfl, hv, _⟩ := pos_find hk
  obtain ⟨c', hI'⟩ := hI.flip
  obtain ⟨e1, e2, e3, e4⟩ := h.ent.ent _ _ _ _ _ hI hv hk
  exact ⟨i, _, v, u, b, c, hI, rfl, rfl, pos_lt hI' hE, e1, h.rev.ent _ _ _ _ _ hI hv hk, e2, e3, e4⟩

/-- What is left of the first k. -/
structure LeftTo (l : List ArcN) (f : List Int) (k : Nat) (X : List Int) : Prop where
  len : X.length = k
  ent : ∀ (i : Nat) (v u : Int) (b : Bool) (c x : Int), Inc l i v u b c → 0 ≤ v → f[i]? = some x → posOf l i v < k → X[posOf l i v]? = some (if b then x else capAt l i - x)
theorem LeftTo.zero (l : List ArcN) (f : List Int) : LeftTo l f 0 [] := ⟨rfl, fun _ _ _ _ _ _ _ _ _ h => absurd h (by omega)⟩
theorem LeftTo.step (h : LeftTo l f k X) (hI : Inc l i v u b c) (hv : 0 ≤ v) (hp : posOf l i v = k) (hx : f[i]? = some x) {y : Int} (hy : y = if b then x else capAt l i - x) : LeftTo l f (k + 1) (X ++ [y]) := by
  refine ⟨by simp [h.len], fun i' v' u' b' c' x' hI' hv' hx' hlt => ?_⟩
  by_cases e : posOf l i' v' = k
  · obtain ⟨rfl, rfl⟩ := pos_inj hI' hI hv' hv (by omega)
    obtain ⟨rfl, rfl, rfl⟩ := hI'.same hI
    rw [hx] at hx'
    injection hx' with hx'
    subst hx'
    rw [e, ← hy]
    exact snoc_last h.len _
  · rw [snoc_old h.len _ (by omega)]
    exact h.ent i' v' u' b' c' x' hI' hv' hx' (by omega)
theorem LeftTo.done (h : LeftTo l f M X) (hE : EndsIn N l) (hM : firstOf l N = M) : ResOf l f M X :=
  ⟨h.len, fun i v u b c x hI hx => h.ent i v u b c x hI (hI.ends hE).1 hx (by have := pos_lt hI hE; omega)⟩
/-- Of both capacities of a pair one is 0. -/
theorem cap_both (hI : Inc l i v u b c) (hF : Inc l i u v (!b) c') : c + c' = capAt l i := by
  have hn : ∀ {v u : Int} {c : Int}, Inc l i v u true c → c = 0 := fun h => by
    obtain ⟨_, a, ha, hh⟩ := h
    rcases hh with ⟨h, _⟩ | ⟨_, _, _, h⟩
    · cases h
    · exact h
  cases b
  · rw [capAt_fwd hI, hn hF]; omega
  · rw [capAt_fwd hF, hn hI]; omega
end

end Go.Proofs.Ytanifbofjecpmaa

/-! Gridp -/
namespace Go.Proofs.Ytanifbofjecpmaa

/-- A residual network, by numbers: where rows begin, heads, the other ones. -/
structure Grid (N M : Nat) (fst hd rv : Nat → Nat) : Prop where
  f0 : fst 0 = 0
  fN : fst N = M
  mono : ∀ v, v < N → fst v ≤ fst (v + 1)
  hdl : ∀ a, a < M → hd a < N
  rvl : ∀ a, a < M → rv a < M
  rvv : ∀ a, a < M → rv (rv a) = a
  tail : ∀ v a, v < N → fst v ≤ a → a < fst (v + 1) → hd (rv a) = v

/-- A residual arc that p takes leads from v to u. -/
def Lk (M : Nat) (hd rv : Nat → Nat) (p : Nat → Bool) (v u : Nat) : Prop := ∃ a, a < M ∧ hd (rv a) = v ∧ hd a = u ∧ p a = true

section
variable {N M : Nat} {fst hd rv : Nat → Nat} {p q : Nat → Bool}
theorem Grid.monoN (h : Grid N M fst hd rv) : ∀ {i j : Nat}, i ≤ j → j ≤ N → fst i ≤ fst j := by
  intro i j hij
  induction j with
  | zero => intro _; have : i = 0 := by omega
            subst this; exact Nat.le_refl _
  | succ j ih =>
    intro hj
    by_cases e : i = j + 1
    · subst e; exact Nat.le_refl _
    · have := ih (by omega) (by omega)
      have := h.mono j (by omega)
      omega
theorem Grid.fle (h : Grid N M fst hd rv) {v : Nat} (hv : v ≤ N) : fst v ≤ M := by
  have := h.monoN hv (Nat.le_refl N)
  rwa [h.fN] at this
/-- Each residual arc stands in the row of its tail. -/
theorem Grid.row (h : Grid N M fst hd rv) {a : Nat} (ha : a < M) : fst (hd (rv a)) ≤ a ∧ a < fst (hd (rv a) + 1) ∧ hd (rv a) < N := by
  have key : ∀ n, n ≤ N → a < fst n → ∃ v, v < n ∧ fst v ≤ a ∧ a < fst (v + 1) := by
    intro n
    induction n with
    | zero => intro _ hl; rw [h.f0] at hl; omega
    | succ n ih =>
      intro hn hl
      by_cases hc : a < fst n
      · obtain ⟨v, h1, h2⟩ := ih (by omega) hc
        exact ⟨v, by omega, h2⟩
      · exact ⟨n, by omega, by omega, hl⟩
  obtain ⟨v, h1, h2, h3⟩ := key N (Nat.le_refl _) (by rw [h.fN]; exact ha)
  rw [h.tail v a h1 h2 h3]
  exact ⟨h2, h3, h1⟩
theorem lk_row (h : Grid N M fst hd rv) {v u : Nat} (hk : Lk M hd rv p v u) : v < N ∧ u < N ∧ ∃ a, fst v ≤ a ∧ a < fst (v + 1) ∧ hd a = u ∧ p a = true := by
  obtain ⟨a, ha, rfl, rfl, hp⟩ := hk
  have := h.row ha
  exact ⟨this.2.2, h.hdl a ha, a, this.1, this.2.1, rfl, hp⟩
theorem row_lk (h : Grid N M fst hd rv) {v a : Nat} (hv : v < N) (h1 : fst v ≤ a) (h2 : a < fst (v + 1)) (hp : p a = true) : Lk M hd rv p v (hd a) := by
  have := h.fle (show v + 1 ≤ N by omega)
  exact ⟨a, by omega, h.tail v a hv h1 h2, rfl, hp⟩
/-- What is left of the other ones leads the other way. -/
theorem lk_flip (h : Grid N M fst hd rv) (hq : ∀ a, a < M → q a = p (rv a)) {v u : Nat} : Lk M hd rv q v u ↔ Lk M hd rv p u v := by
  constructor
  · rintro ⟨a, ha, h1, h2, h3⟩
    refine ⟨rv a, h.rvl a ha, by rw [h.rvv a ha]; exact h2, h1, ?_⟩
    rw [← hq a ha]; exact h3
  · rintro ⟨a, ha, h1, h2, h3⟩
    refine ⟨rv a, h.rvl a ha, by rw [h.rvv a ha]; exact h2, h1, ?_⟩
    rw [hq _ (h.rvl a ha), h.rvv a ha]; exact h3
theorem lk_mono (hq : ∀ a, a < M → p a = true → q a = true) {v u : Nat} (h : Lk M hd rv p v u) : Lk M hd rv q v u := by
  obtain ⟨a, ha, h1, h2, h3⟩ := h
  exact ⟨a, ha, h1, h2, hq a ha h3⟩
end

/-- How many steps each vertex is away from t, along R. -/
structure IsDist (R : Nat → Nat → Prop) (N t : Nat) (d : Nat → Nat) : Prop where
  le : ∀ v, v < N → d v ≤ N
  zero : d t = 0
  step : ∀ u v, u < N → v < N → R u v → d v ≤ d u + 1
  near : ∀ v, v < N → d v < N → v ≠ t → ∃ u, u < N ∧ R u v ∧ d v = d u + 1

section
variable {R R' : Nat → Nat → Prop} {N s t : Nat} {d d' f g : Nat → Nat}
theorem IsDist.sub (h : IsDist R N t d) (h' : IsDist R' N t d') (hR : ∀ u v, u < N → v < N → R u v → R' u v) : ∀ v, v < N → d' v ≤ d v := by
  have key : ∀ k v, v < N → d v = k → d' v ≤ k := by
    intro k
    induction k with
    | zero =>
      intro v hv hk
      by_cases e : v = t
      · rw [e, h'.zero]; exact Nat.le_refl _
      · obtain ⟨u, _, _, h3⟩ := h.near v hv (by omega) e
        omega
    | succ k ih =>
      intro v hv hk
      by_cases e : v = t
      · rw [e, h'.zero]; omega
      · by_cases hN : d v < N
        · obtain ⟨u, h1, h2, h3⟩ := h.near v hv hN e
          have := ih u h1 (by omega)
          have := h'.step u v h1 hv (hR u v h1 hv h2)
          omega
        · have := h'.le v hv
          omega
  exact fun v hv => key _ v hv rfl
theorem IsDist.same (h : IsDist R N t d) (h' : IsDist R' N t d') (hR : ∀ u v, u < N → v < N → (R u v ↔ R' u v)) : ∀ v, v < N → d v = d' v := fun v hv =>
  Nat.le_antisymm (h'.sub h (fun u v hu hv k => (hR u v hu hv).2 k) v hv) (h.sub h' (fun u v hu hv k => (hR u v hu hv).1 k) v hv)
theorem IsDist.zero_iff (h : IsDist R N t d) {v : Nat} (hv : v < N) : d v = 0 ↔ v = t := by
  constructor
  · intro e
    by_cases hc : v = t
    · exact hc
    · obtain ⟨u, _, _, h3⟩ := h.near v hv (by omega) hc
      omega
  · rintro rfl; exact h.zero
/-- Over a third one it is no nearer. -/
theorem IsDist.over (hf : IsDist R N s f) (hg : IsDist (fun u v => R v u) N t g) : ∀ w, w < N → f w < N → g s ≤ f w + g w := by
  have key : ∀ k w, w < N → f w < N → f w = k → g s ≤ k + g w := by
    intro k
    induction k with
    | zero =>
      intro w hw _ hk
      rw [(hf.zero_iff hw).1 hk]; omega
    | succ k ih =>
      intro w hw hN hk
      by_cases e : w = s
      · rw [e]; omega
      · obtain ⟨u, h1, h2, h3⟩ := hf.near w hw hN e
        have := ih u h1 (by omega) (by omega)
        have := hg.step w u hw h1 h2
        omega
  exact fun w hw hN => key _ w hw hN rfl
theorem IsDist.both (hf : IsDist R N s f) (hg : IsDist (fun u v => R v u) N t g) (hs : s < N) (ht : t < N) : g s = f t := by
  refine Nat.le_antisymm ?_ ?_
  · by_cases h : f t < N
    · have := hf.over hg t ht h
      rw [hg.zero] at this
      omega
    · have := hg.le s hs
      omega
  · by_cases h : g s < N
    · have := IsDist.over (R := fun u v => R v u) hg hf s hs h
      rw [hf.zero] at this
      omega
    · have := hf.le t ht
      omega
end

/-- A function changed at one number. -/
def nupd (f : Nat → Nat) (u x : Nat) : Nat → Nat := fun v => if v = u then x else f v
theorem nupd_at (f : Nat → Nat) (u x : Nat) : nupd f u x u = x := by simp [nupd]
theorem nupd_ne {f : Nat → Nat} {u x v : Nat} (h : v ≠ u) : nupd f u x v = f v := by simp [nupd, h]

/-- A search in width: the first i of the queue xs are done. -/
structure Bfs (R : Nat → Nat → Prop) (N s i : Nat) (far : Nat → Nat) (xs : List Nat) : Prop where
  hd : xs[0]? = some s
  lt : ∀ v ∈ xs, v < N
  nodup : xs.Nodup
  mem : ∀ v, v < N → (far v ≠ N ↔ v ∈ xs)
  idx : ∀ (j v : Nat), xs[j]? = some v → far v ≤ j
  zero : far s = 0
  mono : ∀ (j k v u : Nat), j ≤ k → xs[j]? = some v → xs[k]? = some u → far v ≤ far u
  cap : ∀ (v u : Nat), xs[i]? = some v → u ∈ xs → far u ≤ far v + 1
  done : ∀ (j v u : Nat), j < i → xs[j]? = some v → R v u → u < N → far u ≤ far v + 1
  near : ∀ v ∈ xs, v ≠ s → ∃ u, u ∈ xs ∧ R u v ∧ far v = far u + 1
  le : ∀ v, v < N → far v ≤ N

section
variable {R : Nat → Nat → Prop} {N s i v u : Nat} {far : Nat → Nat} {xs : List Nat}
theorem nodup_le : ∀ {N : Nat} {xs : List Nat} (_ : xs.Nodup) (_ : ∀ v ∈ xs, v < N), xs.length ≤ N
  | 0, xs, _, hl => by
    cases xs with
    | nil => simp
    | cons x r => exact absurd (hl x (by simp)) (by omega)
  | N + 1, xs, hn, hl => by
    have h1 := nodup_le (N := N) (xs := xs.erase N) (hn.erase N) (fun v hv => by
      have h2 := (hn.mem_erase_iff).1 hv
      have := hl v h2.2
      have := h2.1
      omega)
    have h3 : xs.length ≤ (xs.erase N).length + 1 := by
      rw [List.length_erase]
      split <;> omega
    omega
theorem Bfs.len (h : Bfs R N s i far xs) : xs.length ≤ N := nodup_le h.nodup h.lt
theorem Bfs.start (hs : s < N) : Bfs R N s 0 (nupd (fun _ => N) s 0) [s] := by
  have hu : ∀ v, nupd (fun _ => N) s 0 v = if v = s then 0 else N := fun _ => rfl
  refine ⟨rfl, by simpa using hs, by simp, fun v hv => ?_, fun j v hj => ?_, nupd_at _ _ _, fun j k v u _ hj hk => ?_, fun v u hv hu' => ?_, fun j v u hj => absurd hj (by omega), fun v hv hne => ?_, fun v hv => ?_⟩
  · rw [hu]; by_cases e : v = s
    · simp [e]; omega
    · simp [e]
  · cases j with
    | zero => simp at hj; subst hj; rw [nupd_at]; exact Nat.le_refl _
    | succ j => simp at hj
  · have e1 : v = s := by
      have := List.mem_of_getElem? hj
      simpa using this
    rw [e1, nupd_at]; omega
  · have e1 : u = s := by simpa using hu'
    rw [e1, nupd_at]; omega
  · simp at hv; exact absurd hv hne
  · rw [hu]; split <;> omega
theorem Bfs.add (h : Bfs R N s i far xs) (hv : xs[i]? = some v) (hu : u < N) (hf : far u = N) (hR : R v u) : Bfs R N s i (nupd far u (far v + 1)) (xs ++ [u]) := by
  have hmem : u ∉ xs := fun hc => ((h.mem u hu).2 hc) hf
  have hne : ∀ w, w ∈ xs → w ≠ u := fun w hw e => hmem (e ▸ hw)
  have hvm := List.mem_of_getElem? hv
  have hnd : (xs ++ [u]).Nodup := by
    rw [List.nodup_append]
    exact ⟨h.nodup, by simp, fun a ha b hb => by
      simp at hb
      subst hb
      exact hne a ha⟩
  have hlt : ∀ w ∈ xs ++ [u], w < N := fun w hw => by
    rcases List.mem_append.1 hw with hw | hw
    · exact h.lt w hw
    · simp at hw; omega
  have hlen := nodup_le hnd hlt
  simp at hlen
  have hil := (List.getElem?_eq_some_iff.1 hv).1
  have hvi := h.idx i v hv
  have hold : ∀ w, w ∈ xs → nupd far u (far v + 1) w = far w := fun w hw => nupd_ne (hne w hw)
  have hmm : ∀ (j w : Nat), (xs ++ [u])[j]? = some w → (w ∈ xs ∧ xs[j]? = some w) ∨ (w = u ∧ j = xs.length) := by
    intro j w hj
    by_cases hjl : j < xs.length
    · rw [List.getElem?_append_left hjl] at hj
      exact .inl ⟨List.mem_of_getElem? hj, hj⟩
    · have hj2 := (List.getElem?_eq_some_iff.1 hj).1
      simp at hj2
      have e : j = xs.length := by omega
      rw [e] at hj
      simp at hj
      exact .inr ⟨hj.symm, e⟩
  have hiv : ∀ w, (xs ++ [u])[i]? = some w → w = v := fun w hw => by
    rw [List.getElem?_append_left hil, hv] at hw
    injection hw with hw
    exact hw.symm
  refine ⟨?_, hlt, hnd, fun w hw => ?_, fun j w hj => ?_, ?_, fun j k a b hjk ha hb => ?_, fun a b ha hb => ?_, fun j a b hj ha hR' hb => ?_, fun a ha hne' => ?_, fun w hw => ?_⟩
  · rw [List.getElem?_append_left (by omega)]; exact h.hd
  · by_cases e : w = u
    · subst e; rw [nupd_at]; simp; omega
    · rw [nupd_ne e, h.mem w hw]
      simp [e]
  · rcases hmm j w hj with ⟨h1, h2⟩ | ⟨h1, h2⟩
    · rw [hold w h1]; exact h.idx j w h2
    · subst h1; rw [nupd_at]; omega
  · rw [nupd_ne]
    · exact h.zero
    · exact hne s (List.mem_of_getElem? h.hd)
  · rcases hmm j a ha with ⟨h1, h2⟩ | ⟨h1, h2⟩
    · rw [hold a h1]
      rcases hmm k b hb with ⟨g1, g2⟩ | ⟨g1, g2⟩
      · rw [hold b g1]; exact h.mono j k a b hjk h2 g2
      · subst g1; rw [nupd_at]; exact h.cap v a hv h1
    · rcases hmm k b hb with ⟨g1, g2⟩ | ⟨g1, g2⟩
      · have := (List.getElem?_eq_some_iff.1 g2).1
        omega
      · subst h1; subst g1; exact Nat.le_refl _
  · have := hiv a ha
    subst this
    rw [hold a hvm]
    rcases List.mem_append.1 hb with hb | hb
    · rw [hold b hb]; exact h.cap a b hv hb
    · simp at hb; subst hb; rw [nupd_at]; exact Nat.le_refl _
  · rcases hmm j a ha with ⟨h1, h2⟩ | ⟨h1, h2⟩
    · rw [hold a h1]
      have := h.done j a b hj h2 hR' hb
      by_cases e : b = u
      · subst e; rw [nupd_at]; omega
      · rw [nupd_ne e]; exact this
    · omega
  · rcases List.mem_append.1 ha with ha | ha
    · obtain ⟨w, h1, h2, h3⟩ := h.near a ha hne'
      exact ⟨w, by simp [h1], h2, by rw [hold a ha, hold w h1]; exact h3⟩
    · simp at ha
      subst ha
      exact ⟨v, by simp [hvm], hR, by rw [nupd_at, hold v hvm]⟩
  · by_cases e : w = u
    · subst e; rw [nupd_at]; omega
    · rw [nupd_ne e]; exact h.le w hw
theorem Bfs.next (h : Bfs R N s i far xs) (hv : xs[i]? = some v) (hd : ∀ u, u < N → R v u → far u ≤ far v + 1) : Bfs R N s (i + 1) far xs := by
  refine ⟨h.hd, h.lt, h.nodup, h.mem, h.idx, h.zero, h.mono, fun a b ha hb => ?_, fun j a b hj ha hR hb => ?_, h.near, h.le⟩
  · have h1 := h.cap v b hv hb
    have h2 := h.mono i (i + 1) v a (by omega) hv ha
    omega
  · by_cases e : j = i
    · subst e
      rw [hv] at ha
      injection ha with ha
      subst ha
      exact hd b hb hR
    · exact h.done j a b (by omega) ha hR hb
theorem Bfs.all (h : Bfs R N s i far xs) (hi : xs.length ≤ i) : IsDist R N s far := by
  refine ⟨h.le, h.zero, fun a b ha hb hR => ?_, fun a ha hlt hne => ?_⟩
  · by_cases e : far a = N
    · have := h.le b hb
      omega
    · obtain ⟨j, hj⟩ := List.getElem?_of_mem ((h.mem a ha).1 e)
      have := (List.getElem?_eq_some_iff.1 hj).1
      exact h.done j a b (by omega) hj hR hb
  · obtain ⟨w, h1, h2, h3⟩ := h.near a ((h.mem a ha).1 (by omega)) hne
    exact ⟨w, h.lt w h1, h2, h3⟩
end

/-- The grid of a residual network's rows. -/
def hdOf (H : List Int) (a : Nat) : Nat := ((H[a]?).getD 0).toNat
theorem hdOf_at {H : List Int} {a : Nat} {x : Int} (h : H[a]? = some x) (h0 : 0 ≤ x) : (hdOf H a : Int) = x := by
  unfold hdOf
  rw [h]
  simp
  omega
theorem hdOf_eq {H : List Int} {a x : Nat} (h : H[a]? = some (x : Int)) : hdOf H a = x := by
  unfold hdOf
  rw [h]
  simp

theorem CsrL.grid {N : Nat} {l : List ArcN} {F H R C Ai : List Int} {B : List Bool} (h : CsrL N l F H R C Ai B) (hE : EndsIn N l) :
    Grid N (firstOf l N) (firstOf l) (hdOf H) (hdOf R) ∧ H = tab (firstOf l N) (fun a => (hdOf H a : Int)) ∧ R = tab (firstOf l N) (fun a => (hdOf R a : Int)) := by
  have key : ∀ a, a < firstOf l N → ∃ (i : Nat) (v u : Int) (b : Bool) (c : Int), Inc l i v u b c ∧ posOf l i v = a ∧ (hdOf H a : Int) = u ∧ hdOf R a = posOf l i u ∧ hdOf R a < firstOf l N ∧ hdOf R (hdOf R a) = a ∧ (hdOf H (hdOf R a) : Int) = v := by
    intro a ha
    obtain ⟨i, q, v, u, b, c, hI, hp, hq, hql, e1, e2, _⟩ := h.at hE ha
    obtain ⟨c', hI'⟩ := hI.flip
    have hR : hdOf R a = q := hdOf_eq e2
    have f1 := h.ent.ent _ _ _ _ _ hI' (hI'.ends hE).1 (pos_lt hI' hE)
    have f2 := h.rev.ent _ _ _ _ _ hI' (hI'.ends hE).1 (pos_lt hI' hE)
    rw [hq] at f1 f2
    rw [hp] at f2
    refine ⟨i, v, u, b, c, hI, hp, hdOf_at e1 (hI.ends hE).2.2.1, by rw [hR, hq], by rw [hR]; exact hql, by rw [hR]; exact hdOf_eq f2, by rw [hR]; exact hdOf_at f1.1 (hI.ends hE).1⟩
  refine ⟨⟨rfl, rfl, fun v _ => firstOf_mono l (by omega), fun a ha => ?_, fun a ha => ?_, fun a ha => ?_, fun v a hv h1 h2 => ?_⟩, ?_, ?_⟩
  · obtain ⟨i, v, u, b, c, hI, _, e, _⟩ := key a ha
    have := hI.ends hE
    omega
  · obtain ⟨i, v, u, b, c, hI, _, _, _, e, _⟩ := key a ha
    exact e
  · obtain ⟨i, v, u, b, c, hI, _, _, _, _, e, _⟩ := key a ha
    exact e
  · have hm := firstOf_mono l (show v + 1 ≤ N by omega)
    obtain ⟨i, v', u, b, c, hI, hp, _, _, _, _, e⟩ := key a (by omega)
    have hr := pos_row hI (hI.ends hE).1
    rw [hp] at hr
    have h0 := (hI.ends hE).1
    have hv' : v = v'.toNat := by
      rcases Nat.lt_trichotomy v v'.toNat with hl | hl | hl
      · have := firstOf_mono l (show v + 1 ≤ v'.toNat by omega)
        omega
      · exact hl
      · have := firstOf_mono l (show v'.toNat + 1 ≤ v by omega)
        omega
    omega
  · refine tab_ext h.ent.lH fun a ha => ?_
    obtain ⟨i, q, v, u, b, c, hI, hp, hq, hql, e1, e2, _⟩ := h.at hE ha
    rw [e1, hdOf_at e1 (hI.ends hE).2.2.1]
  · refine tab_ext h.rev.len fun a ha => ?_
    obtain ⟨i, q, v, u, b, c, hI, hp, hq, hql, e1, e2, _⟩ := h.at hE ha
    rw [e2, hdOf_eq e2]

end Go.Proofs.Ytanifbofjecpmaa

/-! Refb -/
/-! Refa -/
namespace Go.Proofs.Ytanifbofjecpmaa
open Go.RowKit
set_option maxRecDepth 100000

set_option maxHeartbeats 400000 in
theorem rvertex_any (N S T v : Int) (A : Option Addr) (n c : Nat) (w : World) :
    Calls Try.prog 90 #[.agg #[.int .i64 N, .int .i64 S, .int .i64 T, .slice A n c], .int .i64 v] w fun e w' => e = .returned (.bool (isVertB N v)) ∧ Below w.heap.size w w' := by
  go_enter Try.func90, Try.ntmps90
  go_wp2
  all_goals go_ret
  all_goals refine ⟨ret_bool ?_, below_alloc _⟩
  all_goals (simp [isVertB]; try omega)

theorem rvertex_yes {N S T v : Int} {A : Option Addr} {n c : Nat} (h : 0 ≤ v ∧ v < N) (w : World) :
    Calls Try.prog 90 #[.agg #[.int .i64 N, .int .i64 S, .int .i64 T, .slice A n c], .int .i64 v] w fun e w' => e = .returned (.bool true) ∧ Below w.heap.size w w' :=
  (rvertex_any N S T v A n c w).mono fun e w' ⟨h1, h2⟩ => ⟨by rw [h1]; simp [isVertB, h], h2⟩

set_option maxHeartbeats 1000000 in
theorem rsum_any (N S T : Int) (A : Option Addr) (n c : Nat) (l : List ArcN) (w : World) (hA : Arcs w w.heap.size A n l) (hn : n ≤ 1000000000000) :
    Calls Try.prog 91 #[.agg #[.int .i64 N, .int .i64 S, .int .i64 T, .slice A n c]] w fun e w' => e = .returned (.tuple #[.int .i64 (sumV l), .bool (sumB l)]) ∧ Below w.heap.size w w' := by
  go_enter Try.func91, Try.ntmps91
  go_wp2
  go_loopw [4, 5, 6] (fun t i v wr => ∃ (k : Nat) (s : Int), k ≤ n ∧ i = .int .i64 k ∧ t = .int .i64 s ∧ 0 ≤ s ∧ s ≤ 4611686018427387904 ∧ sumOf l = sumFrom s (l.drop k) ∧ Below w.heap.size w wr ∧ wr.cell? ⟨w.heap.size, 3, none⟩ = some (.slice A n c) ∧ w.heap.size < wr.heap.size) (fun _ i _ _ => n - (intOf i).toNat)
  case atStart => exact ⟨0, 0, Nat.zero_le _, rfl, rfl, by omega, by omega, rfl, below_alloc _, by simp, by simp⟩
  case round =>
    obtain ⟨k, s, hk, rfl, rfl, hs0, hs1, hp, hb, h3, hz⟩ := hrel
    have HP := Lib.hid hp; clear hp
    by_cases hlt : k < n
    · obtain ⟨b, off, a, rfl, hbl, hla, c0, c1, c2⟩ := arcs_at (hA.below hb) hlt
      have HL := Lib.hid hla; clear hla
      by_cases hc : a.cap < 0
      · go_wp2
        go_ret2
        have h := sum_stop HL.out HP.out (.inl hc)
        exact ⟨ret_int_bool h.1.symm h.2.symm, hb⟩
      · by_cases hc' : 4611686018427387904 - s < a.cap
        · go_wp2
          go_ret2
          have h := sum_stop HL.out HP.out (.inr hc')
          exact ⟨ret_int_bool h.1.symm h.2.symm, hb⟩
        · go_wp2
          go_roundw
          case rel => exact ⟨k + 1, s + a.cap, by omega, by go_num, rfl, by omega, by omega, sum_next HL.out HP.out hc hc', hb, h3, hz⟩
          case measure => simp [intOf]; omega
    · go_wp2
      go_ret2
      have h := sum_end hA.len hlt HP.out
      exact ⟨ret_int_bool h.1.symm h.2.symm, hb⟩

set_option maxHeartbeats 4000000 in
theorem rcheck_good (N : Nat) (S T : Int) (A : Option Addr) (n c : Nat) (l : List ArcN) (w : World) (hA : Arcs w w.heap.size A n l) (hck : checkF N S T l = 0) :
    Calls Try.prog 65 #[.agg #[.int .i64 N, .int .i64 S, .int .i64 T, .slice A n c]] w fun e w' => e = .returned (.int .i64 0) ∧ Below w.heap.size w w' := by
  obtain ⟨-, -, -, -, hcb, hsb⟩ := check_ok hck
  obtain ⟨hN2, hN3, hn3, hE, hS0, hS1, hT0, hT1, hST, hnn, -⟩ := ends_in hck
  rw [hA.len] at hn3
  have HE := Lib.hid hE; have HNN := Lib.hid hnn; have HSB := Lib.hid hsb
  have hN2' : ¬ (N : Int) < 2 := by omega
  have hN3' : ¬ (4096 : Int) < (N : Int) := by omega
  have hn3' : ¬ (16384 : Int) < (n : Int) := by omega
  have hdst : (S == T) = false := beq_false_of_ne hST
  clear hE hnn hsb hcb hck
  go_enter Try.func65, Try.ntmps65
  go_wp2_with fail
  refine (rvertex_yes ⟨hS0, hS1⟩ _).mono ?_
  rintro e w1 ⟨rfl, B1⟩
  have K1 : Blk w1 w.heap.size 24 #[.int .i64 N, .int .i64 S, .int .i64 T, .slice A n c] := (Blk.new rfl).below B1 (by simp)
  have Bw1 := below_step (below_alloc _) B1
  clear B1
  obtain ⟨r0, r1, r2, r3⟩ := K1.at4
  have hz1 := K1.lt
  go_wp2_with fail
  refine (rvertex_yes ⟨hT0, hT1⟩ _).mono ?_
  rintro e w2 ⟨rfl, B2⟩
  have K2 := K1.below B2 K1.lt
  have Bw2 := below_step Bw1 B2
  clear B2 Bw1 K1 r0 r1 r2 r3 hz1
  obtain ⟨r0, r1, r2, r3⟩ := K2.at4
  have hz2 := K2.lt
  go_wp2_with fail
  clear r0 r1 r2 r3 hz2
  have hz0 : w.heap.size ≤ w2.heap.size := Bw2.size
  go_loopw [3, 4, 5] (fun t i v wr => ∃ (k : Nat), k ≤ n ∧ i = .int .i64 k ∧ t = .bool false ∧ Below w.heap.size w wr ∧ Blk wr w.heap.size 24 #[.int .i64 N, .int .i64 S, .int .i64 T, .slice A n c]) (fun _ i _ _ => n - (intOf i).toNat)
  case atStart => exact ⟨0, Nat.zero_le _, rfl, rfl, Bw2, K2⟩
  case round =>
    obtain ⟨k, hk, rfl, rfl, hb, K⟩ := hrel
    clear K2 Bw2 hz0
    obtain ⟨r0, r1, r2, r3⟩ := K.at4
    have hzr := K.lt
    by_cases hlt : k < n
    · obtain ⟨b, off, a, rfl, hbl, hla, c0, c1, c2⟩ := arcs_at (hA.below hb) hlt
      have he := HE.out _ (mem_at hla)
      have hc0 := HNN.out _ (mem_at hla)
      have hc0' : decide (a.cap < 0) = false := decide_eq_false (by omega)
      clear hla
      go_wp2_with fail
      refine (rvertex_yes ⟨he.1, he.2.1⟩ _).mono ?_
      rintro e w3 ⟨rfl, B3⟩
      have K3 := (K.alloc (.cells #[.int .i64 a.frm, .int .i64 a.to, .int .i64 a.cap] 68)).below B3 (K.alloc _).lt
      have A3 : Blk w3 wr.heap.size 68 #[.int .i64 a.frm, .int .i64 a.to, .int .i64 a.cap] := (Blk.new rfl).below B3 (by simp)
      have Bw3 := below_step (hb.alloc hb.size (.cells #[.int .i64 a.frm, .int .i64 a.to, .int .i64 a.cap] 68)) B3
      clear B3 K r0 r1 r2 r3
      obtain ⟨r0, r1, r2, r3⟩ := K3.at4
      have q0 := A3.cell 0; have q1 := A3.cell 1; have q2 := A3.cell 2
      simp only [List.getElem?_toArray, List.getElem?_cons_zero, List.getElem?_cons_succ] at q0 q1 q2
      have hz3 := K3.lt; have hz4 := A3.lt
      go_wp2_with fail
      refine (rvertex_yes ⟨he.2.2.1, he.2.2.2⟩ _).mono ?_
      rintro e w4 ⟨rfl, B4⟩
      have K4 := K3.below B4 K3.lt
      have A4 := A3.below B4 A3.lt
      have Bw4 := below_step Bw3 B4
      clear B4 K3 A3 Bw3 r0 r1 r2 r3 q0 q1 q2 hz3 hz4
      have q2 := A4.cell 2
      simp only [List.getElem?_toArray, List.getElem?_cons_zero, List.getElem?_cons_succ] at q2
      have hz4 := A4.lt
      go_wp2_with fail
      go_roundw
      case rel => exact ⟨k + 1, by omega, by go_num, rfl, Bw4, K4⟩
      case measure => simp [intOf]; omega
    · go_wp2_with fail
      refine (rsum_any N S T A n c l _ ((hA.below hb).more hb.size) (by omega)).mono ?_
      rintro e w5 ⟨rfl, B5⟩
      rw [HSB.out]
      go_wp2_with fail
      go_ret
      exact ⟨rfl, below_step hb B5⟩

end Go.Proofs.Ytanifbofjecpmaa

/-! Refb -/
namespace Go.Proofs.Ytanifbofjecpmaa
open Go.RowKit
set_option maxRecDepth 100000

/-- Where the rows of a residual network lie. -/
structure CsrS where
  AF : Option Addr
  cF : Nat
  AH : Option Addr
  cH : Nat
  AR : Option Addr
  cR : Nat
  AC : Option Addr
  cC : Nat
  AA : Option Addr
  cA : Nat
  AB : Option Addr
  cB : Nat
abbrev csrW (N M : Nat) (S T : Int) (K : CsrS) : Value :=
  .agg #[.int .i64 N, .int .i64 S, .int .i64 T, .slice K.AF (N + 1) K.cF, .slice K.AH M K.cH, .slice K.AR M K.cR, .slice K.AC M K.cC, .slice K.AA M K.cA, .slice K.AB M K.cB]
/-- These rows stand there. -/
structure CsrIn (w : World) (x N M : Nat) (K : CsrS) (F H R C Ai : List Int) (B : List Bool) : Prop where
  iF : Ints w x K.AF (N + 1) F
  iH : Ints w x K.AH M H
  iR : Ints w x K.AR M R
  iC : Ints w x K.AC M C
  iA : Ints w x K.AA M Ai
  iB : Bools w x K.AB M B
section
variable {w w' : World} {x y N M : Nat} {K : CsrS} {F H R C Ai : List Int} {B : List Bool}
theorem CsrIn.below (h : CsrIn w x N M K F H R C Ai B) (hb : Below x w w') : CsrIn w' x N M K F H R C Ai B := ⟨h.iF.below hb, h.iH.below hb, h.iR.below hb, h.iC.below hb, h.iA.below hb, h.iB.below hb⟩
theorem CsrIn.more (h : CsrIn w x N M K F H R C Ai B) (hb : x ≤ y) : CsrIn w y N M K F H R C Ai B := ⟨h.iF.more hb, h.iH.more hb, h.iR.more hb, h.iC.more hb, h.iA.more hb, h.iB.more hb⟩
theorem CsrIn.on (h : CsrIn w w.heap.size N M K F H R C Ai B) (hb : Below w.heap.size w w') : CsrIn w' w'.heap.size N M K F H R C Ai B := (h.below hb).more hb.size
theorem CsrIn.onAlloc (h : CsrIn w w.heap.size N M K F H R C Ai B) (o : Obj) : CsrIn (w.alloc o) (w.alloc o).heap.size N M K F H R C Ai B := h.on (below_alloc o)
end
theorem Ints.adr {w : World} {B n : Nat} {A : Option Addr} {L : List Int} (h : Ints w B A n L) (hn : 0 < n) : ∃ b off, A = some ⟨b, off, none⟩ := by
  obtain ⟨b, off, e, _⟩ := h.2 hn
  exact ⟨b, off, e⟩
theorem Ints.cel {w : World} {B n b off k : Nat} {L : List Int} {x : Int} (h : Ints w B (some ⟨b, off, none⟩) n L) (hx : L[k]? = some x) : b < B ∧ w.cell? ⟨b, off + k, none⟩ = some (.int .i64 x) := by
  have hk := (List.getElem?_eq_some_iff.1 hx).1
  obtain ⟨b', off', y, e, hb, hy, hc⟩ := intl_at h (k := k) (by have := h.len; omega)
  injection e with e
  injection e with e1 e2 _
  subst e1; subst e2
  rw [hx] at hy
  injection hy with hy
  subst hy
  exact ⟨hb, hc⟩

/-- A row, if it is any, lies at x or above. -/
def Abv (x : Nat) (A : Option Addr) : Prop := ∀ a, A = some a → x ≤ a.block
theorem RdBy.farB {α : Type} {f : α → List Value} {size : Nat} {w : World} {B n : Nat} {A : Option Addr} {L : List α} (h : RdBy f size w B A n L) {g : Nat} (hg : ∀ a, A = some a → a.block ≠ g) (i : Nat) (u : Value) : RdBy f size (w.setCell ⟨g, i, none⟩ u) B A n L :=
  ⟨h.1, fun hn => by
    obtain ⟨b, off, e, hb, hc⟩ := h.2 hn
    refine ⟨b, off, e, hb, fun k a ha j u' hu => ?_⟩
    rw [← hc k a ha j u' hu]
    exact World.cell?_of_block (Below.heap_setCell w ⟨g, i, none⟩ u b (hg _ e))⟩
theorem RdBy.far9 {α : Type} {f : α → List Value} {size : Nat} {w : World} {B n : Nat} {A : Option Addr} {L : List α} {u0 u1 u2 u3 u4 u5 u6 u7 u8 : Value} (h : RdBy f size w B A n L) {g : Nat} (hg : ∀ a, A = some a → a.block ≠ g) :
    RdBy f size (((((((((w.setCell ⟨g, 0, none⟩ u0).setCell ⟨g, 1, none⟩ u1).setCell ⟨g, 2, none⟩ u2).setCell ⟨g, 3, none⟩ u3).setCell ⟨g, 4, none⟩ u4).setCell ⟨g, 5, none⟩ u5).setCell ⟨g, 6, none⟩ u6).setCell ⟨g, 7, none⟩ u7).setCell ⟨g, 8, none⟩ u8) B A n L :=
  ((((((((h.farB hg 0 u0).farB hg 1 u1).farB hg 2 u2).farB hg 3 u3).farB hg 4 u4).farB hg 5 u5).farB hg 6 u6).farB hg 7 u7).farB hg 8 u8
/-- All rows do. -/
structure CsrAbv (x : Nat) (K : CsrS) : Prop where
  aF : Abv x K.AF
  aH : Abv x K.AH
  aR : Abv x K.AR
  aC : Abv x K.AC
  aA : Abv x K.AA
  aB : Abv x K.AB

/-- A residual network is answered. -/
def RetMake (N : Nat) (S T : Int) (l : List ArcN) (w : World) (e : Ending) (w' : World) : Prop :=
  ∃ (K : CsrS) (F H R C Ai : List Int) (B : List Bool), e = .returned (.tuple #[csrW N (firstOf l N) S T K, .int .i64 0]) ∧ CsrL N l F H R C Ai B ∧ CsrIn w' w'.heap.size N (firstOf l N) K F H R C Ai B ∧ CsrAbv w.heap.size K ∧ Below w.heap.size w w'

section
variable {w : World} {base g : Nat} {rs : List Rw} {t : TypeId} {cs : Array Value}
theorem Held.far (h : Held w base rs) (hk : Blk w g t cs) (ht : ∀ r ∈ rs, r.t ≠ t) (i : Nat) (u : Value) : Held (w.setCell ⟨g, i, none⟩ u) base rs :=
  (Cx.store (w0 := w) (base := 0) (oth := []) ⟨hk, ⟨fun i r hr => own_less (h.own i r hr) (Nat.zero_le _), h.ne⟩, fun _ h => (by simp at h), ht, ⟨Nat.zero_le _, Nat.zero_le _⟩, Below.refl _ _⟩ i u).held |> fun k => ⟨fun j r hr => by
    have h1 := k.own j r hr
    have h2 := h.own j r hr
    refine ⟨h1.1, h1.2.imp id ?_⟩
    rintro ⟨g', cap, cur, hv, _, rest⟩
    exact ⟨g', cap, cur, hv, (h2.lt g' (by rw [hv]; rfl)).1, rest⟩, k.ne⟩
theorem Held.far9 {u0 u1 u2 u3 u4 u5 u6 u7 u8 : Value} (h : Held w base rs) (hk : Blk w g t cs) (ht : ∀ r ∈ rs, r.t ≠ t) :
    Held (((((((((w.setCell ⟨g, 0, none⟩ u0).setCell ⟨g, 1, none⟩ u1).setCell ⟨g, 2, none⟩ u2).setCell ⟨g, 3, none⟩ u3).setCell ⟨g, 4, none⟩ u4).setCell ⟨g, 5, none⟩ u5).setCell ⟨g, 6, none⟩ u6).setCell ⟨g, 7, none⟩ u7).setCell ⟨g, 8, none⟩ u8) base rs := by
  have s := fun (W : World) (cs : Array Value) (h : Held W base rs) (hk : Blk W g t cs) (i : Nat) (u : Value) => And.intro (h.far hk ht i u) (hk.set i u)
  have h1 := s _ _ h hk 0 u0
  have h2 := s _ _ h1.1 h1.2 1 u1
  have h3 := s _ _ h2.1 h2.2 2 u2
  have h4 := s _ _ h3.1 h3.2 3 u3
  have h5 := s _ _ h4.1 h4.2 4 u4
  have h6 := s _ _ h5.1 h5.2 5 u5
  have h7 := s _ _ h6.1 h6.2 6 u6
  have h8 := s _ _ h7.1 h7.2 7 u7
  exact (s _ _ h8.1 h8.2 8 u8).1
theorem Held.ints {i n c : Nat} {e : TypeId} {A : Option Addr} {L : List Int} (h : Held w base rs) (hr : rs[i]? = some ⟨e, A, n, c, L.map (Value.int .i64)⟩) (hl : L.length = n) : Ints w w.heap.size A n L := by
  have h1 := h.own i _ hr
  simp only [ivs_flat] at h1
  exact RdBy.of_own hl (int_len L) h1
theorem Held.abv {i n c : Nat} {e : TypeId} {A : Option Addr} {xs : List Value} (h : Held w base rs) (hr : rs[i]? = some ⟨e, A, n, c, xs⟩) : Abv base A := fun a ea => ((h.own i _ hr).lt a.block (by simp [Rw.v, ea, Value.ownBlock])).1
theorem bvs_flat : ∀ (L : List Bool), L.map Value.bool = L.flatMap boolCells
  | [] => rfl
  | x :: r => by simp [boolCells, bvs_flat r]
theorem Held.bools {i n c : Nat} {e : TypeId} {A : Option Addr} {L : List Bool} (h : Held w base rs) (hr : rs[i]? = some ⟨e, A, n, c, L.map Value.bool⟩) (hl : L.length = n) : Bools w w.heap.size A n L := by
  have h1 := h.own i _ hr
  simp only [bvs_flat] at h1
  exact RdBy.of_own hl (fun _ _ => rfl) h1
end

theorem mk_held0 (w : World) (base : Nat) : Held w base [⟨3, none, 0, 0, ([] : List Int).map (Value.int .i64)⟩, ⟨3, none, 0, 0, ([] : List Int).map (Value.int .i64)⟩, ⟨3, none, 0, 0, ([] : List Int).map (Value.int .i64)⟩, ⟨2, none, 0, 0, ([] : List Int).map (Value.int .i64)⟩, ⟨3, none, 0, 0, ([] : List Int).map (Value.int .i64)⟩, ⟨4, none, 0, 0, ([] : List Bool).map Value.bool⟩] := by
  have h : ∀ (rs : List Rw), (∀ r ∈ rs, r.A = none ∧ r.n = 0 ∧ r.c = 0 ∧ r.xs = []) → Held w base rs := fun rs hr =>
    ⟨fun i r hi => by
      obtain ⟨h1, h2, h3, h4⟩ := hr r (List.mem_of_getElem? hi)
      unfold Rw.v
      rw [h1, h2, h3, h4]
      exact World.ownsRow_nil _ _ _ _, fun i j r s _ hi _ g hg => by
      obtain ⟨h1, _⟩ := hr r (List.mem_of_getElem? hi)
      unfold Rw.v at hg
      rw [h1] at hg
      cases hg⟩
  exact h _ (by simp)
theorem Cx.drew {w0 w : World} {base gc n : Nat} {tc : TypeId} {vc : Array Value} {rs : List Rw} {oth : List (Nat × TypeId × Array Value)} (h : Cx w0 w base gc tc vc rs oth) : Cx w0 (w.drewN n) base gc tc vc rs oth :=
  ⟨h.kc, ⟨fun i r hr => h.held.own i r hr, h.held.ne⟩, h.oth, h.tne, h.bas, below_drewN' h.bel n⟩

/-- The state of Make. -/
def MkSt (w0 w : World) (gc N : Nat) (S T : Int) (A : Option Addr) (n c : Nat) (nF m nR : Nat) (F H R C Ai : List Int) (B : List Bool) : Prop :=
  ∃ AF cF AH cH AR cR AC cC AA cA AB cB, Cx w0 w w0.heap.size gc 32 #[.int .i64 N, .int .i64 S, .int .i64 T, .slice AF nF cF, .slice AH m cH, .slice AR nR cR, .slice AC m cC, .slice AA m cA, .slice AB m cB] [⟨3, AF, nF, cF, (F).map (Value.int .i64)⟩, ⟨3, AH, m, cH, (H).map (Value.int .i64)⟩, ⟨3, AR, nR, cR, (R).map (Value.int .i64)⟩, ⟨2, AC, m, cC, (C).map (Value.int .i64)⟩, ⟨3, AA, m, cA, (Ai).map (Value.int .i64)⟩, ⟨4, AB, m, cB, (B).map Value.bool⟩] [(w0.heap.size, 24, #[.int .i64 N, .int .i64 S, .int .i64 T, .slice A n c]), (w0.heap.size + 1, 32, #[.int .i64 0, .int .i64 0, .int .i64 0, .slice none 0 0, .slice none 0 0, .slice none 0 0, .slice none 0 0, .slice none 0 0, .slice none 0 0])]

set_option maxHeartbeats 16000000 in
theorem rmake_good (N : Nat) (S T : Int) (A : Option Addr) (n c : Nat) (l : List ArcN) (w : World) (hA : Arcs w w.heap.size A n l) (hck : checkF N S T l = 0) :
    Calls Try.prog 28 #[.agg #[.int .i64 N, .int .i64 S, .int .i64 T, .slice A n c]] w (RetMake N S T l w) := by
  have hend := ends_in hck
  have hla := hA.len
  obtain ⟨hN2, hN3, hn3, hE, -, -, -, -, -, -, -⟩ := hend
  have hcs := csr_size hN3 hn3
  rw [hla] at hn3
  have HC := Lib.hid hck; have HE := Lib.hid hE
  clear hck hE
  go_enter Try.func28, Try.ntmps28
  go_wp2_with fail
  refine (rcheck_good N S T A n c l _ ((hA.onAlloc _).onAlloc _) HC.out).mono ?_
  rintro e w1 ⟨rfl, B1⟩
  have K1 : Blk w1 w.heap.size 24 #[.int .i64 N, .int .i64 S, .int .i64 T, .slice A n c] := ((Blk.new rfl).alloc _).below B1 (by simp <;> omega)
  have Z1 : Blk w1 (w.heap.size + 1) 32 #[.int .i64 0, .int .i64 0, .int .i64 0, .slice none 0 0, .slice none 0 0, .slice none 0 0, .slice none 0 0, .slice none 0 0, .slice none 0 0] := (Blk.new (by simp)).below B1 (by simp <;> omega)
  have Bw1 : Below w.heap.size w w1 := below_step ((below_alloc _).alloc (by simp) _) B1
  have hz1 := Z1.lt
  clear B1
  obtain ⟨r0, r1, r2, r3⟩ := K1.at4
  go_wp2_with fail
  have C0 : Cx w (w1.alloc (.cells #[.int .i64 N, .int .i64 S, .int .i64 T, .slice none 0 0, .slice none 0 0, .slice none 0 0, .slice none 0 0, .slice none 0 0, .slice none 0 0] 32)) w.heap.size w1.heap.size 32 _ _ [(w.heap.size, 24, #[.int .i64 N, .int .i64 S, .int .i64 T, .slice A n c]), (w.heap.size + 1, 32, #[.int .i64 0, .int .i64 0, .int .i64 0, .slice none 0 0, .slice none 0 0, .slice none 0 0, .slice none 0 0, .slice none 0 0, .slice none 0 0])] :=
    ⟨Blk.new rfl, (mk_held0 _ w.heap.size), (by
      intro o ho
      simp only [List.mem_cons, List.not_mem_nil, or_false] at ho
      rcases ho with rfl | rfl
      · exact ⟨K1.alloc _, by simp only; omega, by simp⟩
      · exact ⟨Z1.alloc _, by simp only; omega, by simp⟩), (by simp), ⟨by omega, by simp; omega⟩, Bw1.alloc Bw1.size _⟩
  have hS0 : MkSt w (w1.alloc (.cells #[.int .i64 N, .int .i64 S, .int .i64 T, .slice none 0 0, .slice none 0 0, .slice none 0 0, .slice none 0 0, .slice none 0 0, .slice none 0 0] 32)) w1.heap.size N S T A n c 0 0 0 [] [] [] [] [] [] := ⟨none, 0, none, 0, none, 0, none, 0, none, 0, none, 0, C0⟩
  clear K1 Z1 r0 r1 r2 r3 Bw1 C0 hz1
  generalize w1.heap.size = gc at *
  go_loopw [6] (fun i wr => ∃ (v : Nat) (H C Ai : List Int) (B : List Bool), v ≤ N ∧ i = .int .i64 v ∧ Ent l (firstOf l v) H C Ai B ∧ MkSt w wr gc N S T A n c v (firstOf l v) 0 (tab v fun v => (firstOf l v : Int)) H [] C Ai B) (fun i _ => N - (intOf i).toNat)
  case atStart => exact ⟨0, [], [], [], [], Nat.zero_le _, rfl, Ent.zero l, hS0⟩
  case round =>
    clear hS0
    obtain ⟨v, H, C, Ai, B, hv, rfl, E0, AF, cF, AH, cH, AR, cR, AC, cC, AA, cA, AB, cB, X0⟩ := hrel
    have hfm := firstOf_mono l hv
    obtain ⟨m, hm⟩ : ∃ m, firstOf l v = m := ⟨_, rfl⟩
    rw [hm] at E0 X0 hfm
    have HM := Lib.hid hm; clear hm
    have HE0 := Lib.hid E0; clear E0
    obtain ⟨a0, a1, a2, a3, a4, a5, a6, a7, a8⟩ := X0.kc.at9
    obtain ⟨f0, f1, f2, f3, f4, f5, f6, f7, f8⟩ := X0.kc.free9
    have hzc := X0.kc.lt
    have knr := (X0.oth _ (List.mem_cons_self ..)).1
    have hnn := (X0.oth _ (List.mem_cons_self ..)).2.1
    obtain ⟨r0, r1, r2, r3⟩ := knr.at4
    have hzn := knr.lt
    try simp only at hzn
    try simp only at hnn
    by_cases hlt : v < N
    · have HX0 := Lib.hid X0; clear X0
      go_wp2_with (at_builtin; refine wp_app HX0.out rfl (.tmp 31) (.tmp 35) _ _ _ rfl one_int 0 v cF AF _ (.int .i64 (m : Int)) rfl rfl rfl rfl (by omega) (by simp) ?_)
      intro A1 c1 w1 HX1
      have C1 : Cx w w1 w.heap.size gc 32 #[.int .i64 N, .int .i64 S, .int .i64 T, .slice AF v cF, .slice AH m cH, .slice AR 0 cR, .slice AC m cC, .slice AA m cA, .slice AB m cB] [⟨3, A1, v + 1, c1, ((tab v fun v => (firstOf l v : Int)) ++ [(m : Int)]).map (Value.int .i64)⟩, ⟨3, AH, m, cH, (H).map (Value.int .i64)⟩, ⟨3, AR, 0, cR, (([] : List Int)).map (Value.int .i64)⟩, ⟨2, AC, m, cC, (C).map (Value.int .i64)⟩, ⟨3, AA, m, cA, (Ai).map (Value.int .i64)⟩, ⟨4, AB, m, cB, (B).map Value.bool⟩] [(w.heap.size, 24, #[.int .i64 N, .int .i64 S, .int .i64 T, .slice A n c]), (w.heap.size + 1, 32, #[.int .i64 0, .int .i64 0, .int .i64 0, .slice none 0 0, .slice none 0 0, .slice none 0 0, .slice none 0 0, .slice none 0 0, .slice none 0 0])] := by
        have h := HX1.out
        simpa only [List.map_append, List.map_cons, List.map_nil, List.set_cons_zero, List.set_cons_succ] using h
      have D1 : Cx w (w1.setCell ⟨gc, 3, none⟩ (.slice A1 (v + 1) c1)) w.heap.size gc 32 #[.int .i64 N, .int .i64 S, .int .i64 T, .slice A1 (v + 1) c1, .slice AH m cH, .slice AR 0 cR, .slice AC m cC, .slice AA m cA, .slice AB m cB] [⟨3, A1, v + 1, c1, ((tab v fun v => (firstOf l v : Int)) ++ [(m : Int)]).map (Value.int .i64)⟩, ⟨3, AH, m, cH, (H).map (Value.int .i64)⟩, ⟨3, AR, 0, cR, (([] : List Int)).map (Value.int .i64)⟩, ⟨2, AC, m, cC, (C).map (Value.int .i64)⟩, ⟨3, AA, m, cA, (Ai).map (Value.int .i64)⟩, ⟨4, AB, m, cB, (B).map Value.bool⟩] [(w.heap.size, 24, #[.int .i64 N, .int .i64 S, .int .i64 T, .slice A n c]), (w.heap.size + 1, 32, #[.int .i64 0, .int .i64 0, .int .i64 0, .slice none 0 0, .slice none 0 0, .slice none 0 0, .slice none 0 0, .slice none 0 0, .slice none 0 0])] := by simpa using C1.store 3 (.slice A1 (v + 1) c1)
      clear a0 a1 a2 a3 a4 a5 a6 a7 a8 f0 f1 f2 f3 f4 f5 f6 f7 f8 hzc knr r0 r1 r2 r3 hzn hnn HX1
      obtain ⟨a0, a1, a2, a3, a4, a5, a6, a7, a8⟩ := C1.kc.at9
      obtain ⟨f0, f1, f2, f3, f4, f5, f6, f7, f8⟩ := C1.kc.free9
      have hzc := C1.kc.lt
      have knr := (C1.oth _ (List.mem_cons_self ..)).1
      have hnn := (C1.oth _ (List.mem_cons_self ..)).2.1
      obtain ⟨r0, r1, r2, r3⟩ := knr.at4
      have hzn := knr.lt
      try simp only at hzn
      try simp only at hnn
      have HD1 := Lib.hid D1
      clear C1 D1 HX0
      go_wp2_with fail
      have hS1 : MkSt w (w1.setCell ⟨gc, 3, none⟩ (.slice A1 (v + 1) c1)) gc N S T A n c (v + 1) m 0 (tab (v + 1) fun v => (firstOf l v : Int)) H [] C Ai B := by
        rw [tab_succ, HM.out]
        exact ⟨_, _, _, _, _, _, _, _, _, _, _, _, HD1.out⟩
      clear a0 a1 a2 a3 a4 a5 a6 a7 a8 f0 f1 f2 f3 f4 f5 f6 f7 f8 hzc knr r0 r1 r2 r3 hzn hnn HD1
      go_loopw [7] (fun i wr => ∃ (k : Nat) (H C Ai : List Int) (B : List Bool), k ≤ n ∧ i = .int .i64 k ∧ Ent l (nextAt l v k) H C Ai B ∧ MkSt w wr gc N S T A n c (v + 1) (nextAt l v k) 0 (tab (v + 1) fun v => (firstOf l v : Int)) H [] C Ai B) (fun i _ => n - (intOf i).toNat)
      case atStart => exact ⟨0, H, C, Ai, B, Nat.zero_le _, rfl, by rw [next_zero, HM.out]; exact HE0.out, by rw [next_zero, HM.out]; exact hS1⟩
      case round =>
        clear hS1 HE0
        obtain ⟨k, H, C, Ai, B, hk, rfl, E0, AF, cF, AH, cH, AR, cR, AC, cC, AA, cA, AB, cB, X0⟩ := hrel
        have hnx := next_le (l := l) v k N hlt
        obtain ⟨p, hp⟩ : ∃ p, nextAt l v k = p := ⟨_, rfl⟩
        rw [hp] at E0 X0 hnx
        have HP := Lib.hid hp; clear hp
        have HE0 := Lib.hid E0; clear E0
        obtain ⟨a0, a1, a2, a3, a4, a5, a6, a7, a8⟩ := X0.kc.at9
        obtain ⟨f0, f1, f2, f3, f4, f5, f6, f7, f8⟩ := X0.kc.free9
        have hzc := X0.kc.lt
        have knr := (X0.oth _ (List.mem_cons_self ..)).1
        have hnn := (X0.oth _ (List.mem_cons_self ..)).2.1
        obtain ⟨r0, r1, r2, r3⟩ := knr.at4
        have hzn := knr.lt
        try simp only at hzn
        try simp only at hnn
        by_cases hkn : k < n
        · obtain ⟨ba, oa, ⟨f, u, z⟩, rfl, hba, hl, c0, c1', c2⟩ := arcs_at (hA.below X0.bel) hkn
          have he := HE.out _ (mem_at hl)
          simp only at he c0 c1' c2
          obtain ⟨f, rfl⟩ := Int.eq_ofNat_of_zero_le he.1
          obtain ⟨u, rfl⟩ := Int.eq_ofNat_of_zero_le he.2.2.1
          have hfN : f < N := by omega
          have huN : u < N := by omega
          have HL := Lib.hid hl
          have hbs := X0.bas.2
          clear hl he
          have X1 : Cx w (wr.alloc (.cells #[.int .i64 (f : Int), .int .i64 (u : Int), .int .i64 z] 68)) w.heap.size gc 32 _ _ _ := (X0.alloc _).more (b := wr.heap.size) (t := 68) (cs := #[.int .i64 (f : Int), .int .i64 (u : Int), .int .i64 z]) (Blk.new rfl) (by omega) (by simp)
          have hX1 := Lib.hid X1; clear X1
          by_cases hfu : f = u
          · subst hfu
            have HN : Hid (nextAt l v (k + 1) = p) := by rw [next_skip HL.out (by simp [touch]), HP.out]; exact Lib.hid rfl
            go_wp2_with fail
            go_roundw
            case rel => exact ⟨k + 1, H, C, Ai, B, by omega, by go_num, by rw [HN.out]; exact HE0.out, by rw [HN.out]; exact ⟨_, _, _, _, _, _, _, _, _, _, _, _, (hX1.out.less (by simp))⟩⟩
            case measure => simp [intOf]; omega
          · have hne1 : ¬ (f : Int) = (u : Int) := by omega
            have hne2 : ((f : Int) == (u : Int)) = false := beq_false_of_ne hne1
            by_cases hfv : f = v
            · subst hfv
              have hne3 : ¬ (u : Int) = (f : Int) := by omega
              have hne4 : ((u : Int) == (f : Int)) = false := beq_false_of_ne hne3
              have HN : Hid (nextAt l f (k + 1) = p + 1) := by rw [next_step HL.out (by simp [touch]; omega), HP.out]; exact Lib.hid rfl
              have hI : Inc l k (f : Int) (u : Int) false z := inc_fwd HL.out (by simp; omega)
              have HE1 := Lib.hid (HE0.out.step hI (by omega) ((next_pos f k).trans HP.out))
              clear hI HE0
              have hza : wr.heap.size < wr.heap.size + 1 := by omega
              have kar := True.intro; have q0 := True.intro; have q1 := True.intro; have q2 := True.intro; have hna := True.intro
              go_wp2_with (at_builtin; refine wp_app hX1.out rfl (.tmp 60) (.tmp 63) _ _ _ rfl one_int 1 p cH AH _ (.int .i64 (u : Int)) rfl rfl rfl rfl (by omega) (by simp) ?_)
              intro A2 c2 w2 HX2
              have C2 : Cx w w2 w.heap.size gc 32 #[.int .i64 N, .int .i64 S, .int .i64 T, .slice AF (f + 1) cF, .slice AH p cH, .slice AR 0 cR, .slice AC p cC, .slice AA p cA, .slice AB p cB] [⟨3, AF, f + 1, cF, ((tab (f + 1) fun v => (firstOf l v : Int))).map (Value.int .i64)⟩, ⟨3, A2, p + 1, c2, (H ++ [(u : Int)]).map (Value.int .i64)⟩, ⟨3, AR, 0, cR, (([] : List Int)).map (Value.int .i64)⟩, ⟨2, AC, p, cC, (C).map (Value.int .i64)⟩, ⟨3, AA, p, cA, (Ai).map (Value.int .i64)⟩, ⟨4, AB, p, cB, (B).map Value.bool⟩] ((wr.heap.size, 68, #[.int .i64 (f : Int), .int .i64 (u : Int), .int .i64 z]) :: [(w.heap.size, 24, #[.int .i64 N, .int .i64 S, .int .i64 T, .slice (some ⟨ba, oa, none⟩) n c]), (w.heap.size + 1, 32, #[.int .i64 0, .int .i64 0, .int .i64 0, .slice none 0 0, .slice none 0 0, .slice none 0 0, .slice none 0 0, .slice none 0 0, .slice none 0 0])]) := by
                have h := HX2.out
                simpa only [List.map_append, List.map_cons, List.map_nil, List.set_cons_zero, List.set_cons_succ] using h
              have D2 : Cx w (w2.setCell ⟨gc, 4, none⟩ (.slice A2 (p + 1) c2)) w.heap.size gc 32 #[.int .i64 N, .int .i64 S, .int .i64 T, .slice AF (f + 1) cF, .slice A2 (p + 1) c2, .slice AR 0 cR, .slice AC p cC, .slice AA p cA, .slice AB p cB] [⟨3, AF, f + 1, cF, ((tab (f + 1) fun v => (firstOf l v : Int))).map (Value.int .i64)⟩, ⟨3, A2, p + 1, c2, (H ++ [(u : Int)]).map (Value.int .i64)⟩, ⟨3, AR, 0, cR, (([] : List Int)).map (Value.int .i64)⟩, ⟨2, AC, p, cC, (C).map (Value.int .i64)⟩, ⟨3, AA, p, cA, (Ai).map (Value.int .i64)⟩, ⟨4, AB, p, cB, (B).map Value.bool⟩] ((wr.heap.size, 68, #[.int .i64 (f : Int), .int .i64 (u : Int), .int .i64 z]) :: [(w.heap.size, 24, #[.int .i64 N, .int .i64 S, .int .i64 T, .slice (some ⟨ba, oa, none⟩) n c]), (w.heap.size + 1, 32, #[.int .i64 0, .int .i64 0, .int .i64 0, .slice none 0 0, .slice none 0 0, .slice none 0 0, .slice none 0 0, .slice none 0 0, .slice none 0 0])]) := by simpa using C2.store 4 (.slice A2 (p + 1) c2)
              clear a0 a1 a2 a3 a4 a5 a6 a7 a8 f0 f1 f2 f3 f4 f5 f6 f7 f8 hzc knr r0 r1 r2 r3 hzn hnn kar q0 q1 q2 hza hna HX2
              obtain ⟨a0, a1, a2, a3, a4, a5, a6, a7, a8⟩ := C2.kc.at9
              obtain ⟨f0, f1, f2, f3, f4, f5, f6, f7, f8⟩ := C2.kc.free9
              have hzc := C2.kc.lt
              have kar := (C2.oth _ (List.mem_cons_self ..)).1
              have q0 := kar.cell 0; have q1 := kar.cell 1; have q2 := kar.cell 2
              simp only [List.getElem?_toArray, List.getElem?_cons_zero, List.getElem?_cons_succ] at q0 q1 q2
              have hza := kar.lt
              have hna := (C2.oth _ (List.mem_cons_self ..)).2.1
              have knr := (C2.oth _ (List.mem_cons_of_mem _ (List.mem_cons_self ..))).1
              have hnn := (C2.oth _ (List.mem_cons_of_mem _ (List.mem_cons_self ..))).2.1
              obtain ⟨r0, r1, r2, r3⟩ := knr.at4
              have hzn := knr.lt
              try simp only at hzn
              try simp only at hnn
              try simp only at hza
              try simp only at hna
              have HD2 := Lib.hid D2
              clear C2 D2 hX1
              go_wp2_with (at_builtin; refine wp_app HD2.out rfl (.tmp 67) (.tmp 70) _ _ _ rfl one_long 3 p cC AC _ (.int .i64 z) rfl rfl rfl rfl (by omega) (by simp) ?_)
              intro A3 c3 w3 HX3
              have C3 : Cx w w3 w.heap.size gc 32 #[.int .i64 N, .int .i64 S, .int .i64 T, .slice AF (f + 1) cF, .slice A2 (p + 1) c2, .slice AR 0 cR, .slice AC p cC, .slice AA p cA, .slice AB p cB] [⟨3, AF, f + 1, cF, ((tab (f + 1) fun v => (firstOf l v : Int))).map (Value.int .i64)⟩, ⟨3, A2, p + 1, c2, (H ++ [(u : Int)]).map (Value.int .i64)⟩, ⟨3, AR, 0, cR, (([] : List Int)).map (Value.int .i64)⟩, ⟨2, A3, p + 1, c3, (C ++ [z]).map (Value.int .i64)⟩, ⟨3, AA, p, cA, (Ai).map (Value.int .i64)⟩, ⟨4, AB, p, cB, (B).map Value.bool⟩] ((wr.heap.size, 68, #[.int .i64 (f : Int), .int .i64 (u : Int), .int .i64 z]) :: [(w.heap.size, 24, #[.int .i64 N, .int .i64 S, .int .i64 T, .slice (some ⟨ba, oa, none⟩) n c]), (w.heap.size + 1, 32, #[.int .i64 0, .int .i64 0, .int .i64 0, .slice none 0 0, .slice none 0 0, .slice none 0 0, .slice none 0 0, .slice none 0 0, .slice none 0 0])]) := by
                have h := HX3.out
                simpa only [List.map_append, List.map_cons, List.map_nil, List.set_cons_zero, List.set_cons_succ] using h
              have D3 : Cx w (w3.setCell ⟨gc, 6, none⟩ (.slice A3 (p + 1) c3)) w.heap.size gc 32 #[.int .i64 N, .int .i64 S, .int .i64 T, .slice AF (f + 1) cF, .slice A2 (p + 1) c2, .slice AR 0 cR, .slice A3 (p + 1) c3, .slice AA p cA, .slice AB p cB] [⟨3, AF, f + 1, cF, ((tab (f + 1) fun v => (firstOf l v : Int))).map (Value.int .i64)⟩, ⟨3, A2, p + 1, c2, (H ++ [(u : Int)]).map (Value.int .i64)⟩, ⟨3, AR, 0, cR, (([] : List Int)).map (Value.int .i64)⟩, ⟨2, A3, p + 1, c3, (C ++ [z]).map (Value.int .i64)⟩, ⟨3, AA, p, cA, (Ai).map (Value.int .i64)⟩, ⟨4, AB, p, cB, (B).map Value.bool⟩] ((wr.heap.size, 68, #[.int .i64 (f : Int), .int .i64 (u : Int), .int .i64 z]) :: [(w.heap.size, 24, #[.int .i64 N, .int .i64 S, .int .i64 T, .slice (some ⟨ba, oa, none⟩) n c]), (w.heap.size + 1, 32, #[.int .i64 0, .int .i64 0, .int .i64 0, .slice none 0 0, .slice none 0 0, .slice none 0 0, .slice none 0 0, .slice none 0 0, .slice none 0 0])]) := by simpa using C3.store 6 (.slice A3 (p + 1) c3)
              clear a0 a1 a2 a3 a4 a5 a6 a7 a8 f0 f1 f2 f3 f4 f5 f6 f7 f8 hzc knr r0 r1 r2 r3 hzn hnn kar q0 q1 q2 hza hna HX3
              obtain ⟨a0, a1, a2, a3, a4, a5, a6, a7, a8⟩ := C3.kc.at9
              obtain ⟨f0, f1, f2, f3, f4, f5, f6, f7, f8⟩ := C3.kc.free9
              have hzc := C3.kc.lt
              have kar := (C3.oth _ (List.mem_cons_self ..)).1
              have q0 := kar.cell 0; have q1 := kar.cell 1; have q2 := kar.cell 2
              simp only [List.getElem?_toArray, List.getElem?_cons_zero, List.getElem?_cons_succ] at q0 q1 q2
              have hza := kar.lt
              have hna := (C3.oth _ (List.mem_cons_self ..)).2.1
              have knr := (C3.oth _ (List.mem_cons_of_mem _ (List.mem_cons_self ..))).1
              have hnn := (C3.oth _ (List.mem_cons_of_mem _ (List.mem_cons_self ..))).2.1
              obtain ⟨r0, r1, r2, r3⟩ := knr.at4
              have hzn := knr.lt
              try simp only at hzn
              try simp only at hnn
              try simp only at hza
              try simp only at hna
              have HD3 := Lib.hid D3
              clear C3 D3 HD2
              go_wp2_with (at_builtin; refine wp_app HD3.out rfl (.tmp 74) (.tmp 76) _ _ _ rfl one_int 4 p cA AA _ (.int .i64 (k : Int)) rfl rfl rfl rfl (by omega) (by simp) ?_)
              intro A4 c4 w4 HX4
              have C4 : Cx w w4 w.heap.size gc 32 #[.int .i64 N, .int .i64 S, .int .i64 T, .slice AF (f + 1) cF, .slice A2 (p + 1) c2, .slice AR 0 cR, .slice A3 (p + 1) c3, .slice AA p cA, .slice AB p cB] [⟨3, AF, f + 1, cF, ((tab (f + 1) fun v => (firstOf l v : Int))).map (Value.int .i64)⟩, ⟨3, A2, p + 1, c2, (H ++ [(u : Int)]).map (Value.int .i64)⟩, ⟨3, AR, 0, cR, (([] : List Int)).map (Value.int .i64)⟩, ⟨2, A3, p + 1, c3, (C ++ [z]).map (Value.int .i64)⟩, ⟨3, A4, p + 1, c4, (Ai ++ [(k : Int)]).map (Value.int .i64)⟩, ⟨4, AB, p, cB, (B).map Value.bool⟩] ((wr.heap.size, 68, #[.int .i64 (f : Int), .int .i64 (u : Int), .int .i64 z]) :: [(w.heap.size, 24, #[.int .i64 N, .int .i64 S, .int .i64 T, .slice (some ⟨ba, oa, none⟩) n c]), (w.heap.size + 1, 32, #[.int .i64 0, .int .i64 0, .int .i64 0, .slice none 0 0, .slice none 0 0, .slice none 0 0, .slice none 0 0, .slice none 0 0, .slice none 0 0])]) := by
                have h := HX4.out
                simpa only [List.map_append, List.map_cons, List.map_nil, List.set_cons_zero, List.set_cons_succ] using h
              have D4 : Cx w (w4.setCell ⟨gc, 7, none⟩ (.slice A4 (p + 1) c4)) w.heap.size gc 32 #[.int .i64 N, .int .i64 S, .int .i64 T, .slice AF (f + 1) cF, .slice A2 (p + 1) c2, .slice AR 0 cR, .slice A3 (p + 1) c3, .slice A4 (p + 1) c4, .slice AB p cB] [⟨3, AF, f + 1, cF, ((tab (f + 1) fun v => (firstOf l v : Int))).map (Value.int .i64)⟩, ⟨3, A2, p + 1, c2, (H ++ [(u : Int)]).map (Value.int .i64)⟩, ⟨3, AR, 0, cR, (([] : List Int)).map (Value.int .i64)⟩, ⟨2, A3, p + 1, c3, (C ++ [z]).map (Value.int .i64)⟩, ⟨3, A4, p + 1, c4, (Ai ++ [(k : Int)]).map (Value.int .i64)⟩, ⟨4, AB, p, cB, (B).map Value.bool⟩] ((wr.heap.size, 68, #[.int .i64 (f : Int), .int .i64 (u : Int), .int .i64 z]) :: [(w.heap.size, 24, #[.int .i64 N, .int .i64 S, .int .i64 T, .slice (some ⟨ba, oa, none⟩) n c]), (w.heap.size + 1, 32, #[.int .i64 0, .int .i64 0, .int .i64 0, .slice none 0 0, .slice none 0 0, .slice none 0 0, .slice none 0 0, .slice none 0 0, .slice none 0 0])]) := by simpa using C4.store 7 (.slice A4 (p + 1) c4)
              clear a0 a1 a2 a3 a4 a5 a6 a7 a8 f0 f1 f2 f3 f4 f5 f6 f7 f8 hzc knr r0 r1 r2 r3 hzn hnn kar q0 q1 q2 hza hna HX4
              obtain ⟨a0, a1, a2, a3, a4, a5, a6, a7, a8⟩ := C4.kc.at9
              obtain ⟨f0, f1, f2, f3, f4, f5, f6, f7, f8⟩ := C4.kc.free9
              have hzc := C4.kc.lt
              have kar := (C4.oth _ (List.mem_cons_self ..)).1
              have q0 := kar.cell 0; have q1 := kar.cell 1; have q2 := kar.cell 2
              simp only [List.getElem?_toArray, List.getElem?_cons_zero, List.getElem?_cons_succ] at q0 q1 q2
              have hza := kar.lt
              have hna := (C4.oth _ (List.mem_cons_self ..)).2.1
              have knr := (C4.oth _ (List.mem_cons_of_mem _ (List.mem_cons_self ..))).1
              have hnn := (C4.oth _ (List.mem_cons_of_mem _ (List.mem_cons_self ..))).2.1
              obtain ⟨r0, r1, r2, r3⟩ := knr.at4
              have hzn := knr.lt
              try simp only at hzn
              try simp only at hnn
              try simp only at hza
              try simp only at hna
              have HD4 := Lib.hid D4
              clear C4 D4 HD3
              go_wp2_with (at_builtin; refine wp_app HD4.out rfl (.tmp 80) (.tmp 81) _ _ _ rfl one_bool 5 p cB AB _ (.bool false) rfl rfl rfl rfl (by omega) (by simp) ?_)
              intro A5 c5 w5 HX5
              have C5 : Cx w w5 w.heap.size gc 32 #[.int .i64 N, .int .i64 S, .int .i64 T, .slice AF (f + 1) cF, .slice A2 (p + 1) c2, .slice AR 0 cR, .slice A3 (p + 1) c3, .slice A4 (p + 1) c4, .slice AB p cB] [⟨3, AF, f + 1, cF, ((tab (f + 1) fun v => (firstOf l v : Int))).map (Value.int .i64)⟩, ⟨3, A2, p + 1, c2, (H ++ [(u : Int)]).map (Value.int .i64)⟩, ⟨3, AR, 0, cR, (([] : List Int)).map (Value.int .i64)⟩, ⟨2, A3, p + 1, c3, (C ++ [z]).map (Value.int .i64)⟩, ⟨3, A4, p + 1, c4, (Ai ++ [(k : Int)]).map (Value.int .i64)⟩, ⟨4, A5, p + 1, c5, (B ++ [false]).map Value.bool⟩] ((wr.heap.size, 68, #[.int .i64 (f : Int), .int .i64 (u : Int), .int .i64 z]) :: [(w.heap.size, 24, #[.int .i64 N, .int .i64 S, .int .i64 T, .slice (some ⟨ba, oa, none⟩) n c]), (w.heap.size + 1, 32, #[.int .i64 0, .int .i64 0, .int .i64 0, .slice none 0 0, .slice none 0 0, .slice none 0 0, .slice none 0 0, .slice none 0 0, .slice none 0 0])]) := by
                have h := HX5.out
                simpa only [List.map_append, List.map_cons, List.map_nil, List.set_cons_zero, List.set_cons_succ] using h
              have D5 : Cx w (w5.setCell ⟨gc, 8, none⟩ (.slice A5 (p + 1) c5)) w.heap.size gc 32 #[.int .i64 N, .int .i64 S, .int .i64 T, .slice AF (f + 1) cF, .slice A2 (p + 1) c2, .slice AR 0 cR, .slice A3 (p + 1) c3, .slice A4 (p + 1) c4, .slice A5 (p + 1) c5] [⟨3, AF, f + 1, cF, ((tab (f + 1) fun v => (firstOf l v : Int))).map (Value.int .i64)⟩, ⟨3, A2, p + 1, c2, (H ++ [(u : Int)]).map (Value.int .i64)⟩, ⟨3, AR, 0, cR, (([] : List Int)).map (Value.int .i64)⟩, ⟨2, A3, p + 1, c3, (C ++ [z]).map (Value.int .i64)⟩, ⟨3, A4, p + 1, c4, (Ai ++ [(k : Int)]).map (Value.int .i64)⟩, ⟨4, A5, p + 1, c5, (B ++ [false]).map Value.bool⟩] ((wr.heap.size, 68, #[.int .i64 (f : Int), .int .i64 (u : Int), .int .i64 z]) :: [(w.heap.size, 24, #[.int .i64 N, .int .i64 S, .int .i64 T, .slice (some ⟨ba, oa, none⟩) n c]), (w.heap.size + 1, 32, #[.int .i64 0, .int .i64 0, .int .i64 0, .slice none 0 0, .slice none 0 0, .slice none 0 0, .slice none 0 0, .slice none 0 0, .slice none 0 0])]) := by simpa using C5.store 8 (.slice A5 (p + 1) c5)
              clear a0 a1 a2 a3 a4 a5 a6 a7 a8 f0 f1 f2 f3 f4 f5 f6 f7 f8 hzc knr r0 r1 r2 r3 hzn hnn kar q0 q1 q2 hza hna HX5
              obtain ⟨a0, a1, a2, a3, a4, a5, a6, a7, a8⟩ := C5.kc.at9
              obtain ⟨f0, f1, f2, f3, f4, f5, f6, f7, f8⟩ := C5.kc.free9
              have hzc := C5.kc.lt
              have kar := (C5.oth _ (List.mem_cons_self ..)).1
              have q0 := kar.cell 0; have q1 := kar.cell 1; have q2 := kar.cell 2
              simp only [List.getElem?_toArray, List.getElem?_cons_zero, List.getElem?_cons_succ] at q0 q1 q2
              have hza := kar.lt
              have hna := (C5.oth _ (List.mem_cons_self ..)).2.1
              have knr := (C5.oth _ (List.mem_cons_of_mem _ (List.mem_cons_self ..))).1
              have hnn := (C5.oth _ (List.mem_cons_of_mem _ (List.mem_cons_self ..))).2.1
              obtain ⟨r0, r1, r2, r3⟩ := knr.at4
              have hzn := knr.lt
              try simp only at hzn
              try simp only at hnn
              try simp only at hza
              try simp only at hna
              have HD5 := Lib.hid D5
              clear C5 D5 HD4
              go_wp2_with fail
              go_roundw
              case rel => exact ⟨k + 1, H ++ [(u : Int)], C ++ [z], Ai ++ [(k : Int)], B ++ [false], by omega, by go_num, by rw [HN.out]; exact HE1.out, by rw [HN.out]; exact ⟨_, _, _, _, _, _, _, _, _, _, _, _, (HD5.out.less (by simp))⟩⟩
              case measure => simp [intOf]; omega
            · have hne3 : ¬ (f : Int) = (v : Int) := by omega
              have hne4 : ((f : Int) == (v : Int)) = false := beq_false_of_ne hne3
              by_cases huv : u = v
              · subst huv
                have HN : Hid (nextAt l u (k + 1) = p + 1) := by rw [next_step HL.out (by simp [touch]; omega), HP.out]; exact Lib.hid rfl
                have hI : Inc l k (u : Int) (f : Int) true 0 := inc_bwd HL.out (by simp; omega)
                have HE1 := Lib.hid (HE0.out.step hI (by omega) ((next_pos u k).trans HP.out))
                clear hI HE0
                have hza : wr.heap.size < wr.heap.size + 1 := by omega
                have kar := True.intro; have q0 := True.intro; have q1 := True.intro; have q2 := True.intro; have hna := True.intro
                go_wp2_with (at_builtin; refine wp_app hX1.out rfl (.tmp 89) (.tmp 92) _ _ _ rfl one_int 1 p cH AH _ (.int .i64 (f : Int)) rfl rfl rfl rfl (by omega) (by simp) ?_)
                intro A6 c6 w6 HX6
                have C6 : Cx w w6 w.heap.size gc 32 #[.int .i64 N, .int .i64 S, .int .i64 T, .slice AF (u + 1) cF, .slice AH p cH, .slice AR 0 cR, .slice AC p cC, .slice AA p cA, .slice AB p cB] [⟨3, AF, u + 1, cF, ((tab (u + 1) fun v => (firstOf l v : Int))).map (Value.int .i64)⟩, ⟨3, A6, p + 1, c6, (H ++ [(f : Int)]).map (Value.int .i64)⟩, ⟨3, AR, 0, cR, (([] : List Int)).map (Value.int .i64)⟩, ⟨2, AC, p, cC, (C).map (Value.int .i64)⟩, ⟨3, AA, p, cA, (Ai).map (Value.int .i64)⟩, ⟨4, AB, p, cB, (B).map Value.bool⟩] ((wr.heap.size, 68, #[.int .i64 (f : Int), .int .i64 (u : Int), .int .i64 z]) :: [(w.heap.size, 24, #[.int .i64 N, .int .i64 S, .int .i64 T, .slice (some ⟨ba, oa, none⟩) n c]), (w.heap.size + 1, 32, #[.int .i64 0, .int .i64 0, .int .i64 0, .slice none 0 0, .slice none 0 0, .slice none 0 0, .slice none 0 0, .slice none 0 0, .slice none 0 0])]) := by
                  have h := HX6.out
                  simpa only [List.map_append, List.map_cons, List.map_nil, List.set_cons_zero, List.set_cons_succ] using h
                have D6 : Cx w (w6.setCell ⟨gc, 4, none⟩ (.slice A6 (p + 1) c6)) w.heap.size gc 32 #[.int .i64 N, .int .i64 S, .int .i64 T, .slice AF (u + 1) cF, .slice A6 (p + 1) c6, .slice AR 0 cR, .slice AC p cC, .slice AA p cA, .slice AB p cB] [⟨3, AF, u + 1, cF, ((tab (u + 1) fun v => (firstOf l v : Int))).map (Value.int .i64)⟩, ⟨3, A6, p + 1, c6, (H ++ [(f : Int)]).map (Value.int .i64)⟩, ⟨3, AR, 0, cR, (([] : List Int)).map (Value.int .i64)⟩, ⟨2, AC, p, cC, (C).map (Value.int .i64)⟩, ⟨3, AA, p, cA, (Ai).map (Value.int .i64)⟩, ⟨4, AB, p, cB, (B).map Value.bool⟩] ((wr.heap.size, 68, #[.int .i64 (f : Int), .int .i64 (u : Int), .int .i64 z]) :: [(w.heap.size, 24, #[.int .i64 N, .int .i64 S, .int .i64 T, .slice (some ⟨ba, oa, none⟩) n c]), (w.heap.size + 1, 32, #[.int .i64 0, .int .i64 0, .int .i64 0, .slice none 0 0, .slice none 0 0, .slice none 0 0, .slice none 0 0, .slice none 0 0, .slice none 0 0])]) := by simpa using C6.store 4 (.slice A6 (p + 1) c6)
                clear a0 a1 a2 a3 a4 a5 a6 a7 a8 f0 f1 f2 f3 f4 f5 f6 f7 f8 hzc knr r0 r1 r2 r3 hzn hnn kar q0 q1 q2 hza hna HX6
                obtain ⟨a0, a1, a2, a3, a4, a5, a6, a7, a8⟩ := C6.kc.at9
                obtain ⟨f0, f1, f2, f3, f4, f5, f6, f7, f8⟩ := C6.kc.free9
                have hzc := C6.kc.lt
                have kar := (C6.oth _ (List.mem_cons_self ..)).1
                have q0 := kar.cell 0; have q1 := kar.cell 1; have q2 := kar.cell 2
                simp only [List.getElem?_toArray, List.getElem?_cons_zero, List.getElem?_cons_succ] at q0 q1 q2
                have hza := kar.lt
                have hna := (C6.oth _ (List.mem_cons_self ..)).2.1
                have knr := (C6.oth _ (List.mem_cons_of_mem _ (List.mem_cons_self ..))).1
                have hnn := (C6.oth _ (List.mem_cons_of_mem _ (List.mem_cons_self ..))).2.1
                obtain ⟨r0, r1, r2, r3⟩ := knr.at4
                have hzn := knr.lt
                try simp only at hzn
                try simp only at hnn
                try simp only at hza
                try simp only at hna
                have HD6 := Lib.hid D6
                clear C6 D6 hX1
                go_wp2_with (at_builtin; refine wp_app HD6.out rfl (.tmp 96) (.tmp 97) _ _ _ rfl one_long 3 p cC AC _ (.int .i64 0) rfl rfl rfl rfl (by omega) (by simp) ?_)
                intro A7 c7 w7 HX7
                have C7 : Cx w w7 w.heap.size gc 32 #[.int .i64 N, .int .i64 S, .int .i64 T, .slice AF (u + 1) cF, .slice A6 (p + 1) c6, .slice AR 0 cR, .slice AC p cC, .slice AA p cA, .slice AB p cB] [⟨3, AF, u + 1, cF, ((tab (u + 1) fun v => (firstOf l v : Int))).map (Value.int .i64)⟩, ⟨3, A6, p + 1, c6, (H ++ [(f : Int)]).map (Value.int .i64)⟩, ⟨3, AR, 0, cR, (([] : List Int)).map (Value.int .i64)⟩, ⟨2, A7, p + 1, c7, (C ++ [(0 : Int)]).map (Value.int .i64)⟩, ⟨3, AA, p, cA, (Ai).map (Value.int .i64)⟩, ⟨4, AB, p, cB, (B).map Value.bool⟩] ((wr.heap.size, 68, #[.int .i64 (f : Int), .int .i64 (u : Int), .int .i64 z]) :: [(w.heap.size, 24, #[.int .i64 N, .int .i64 S, .int .i64 T, .slice (some ⟨ba, oa, none⟩) n c]), (w.heap.size + 1, 32, #[.int .i64 0, .int .i64 0, .int .i64 0, .slice none 0 0, .slice none 0 0, .slice none 0 0, .slice none 0 0, .slice none 0 0, .slice none 0 0])]) := by
                  have h := HX7.out
                  simpa only [List.map_append, List.map_cons, List.map_nil, List.set_cons_zero, List.set_cons_succ] using h
                have D7 : Cx w (w7.setCell ⟨gc, 6, none⟩ (.slice A7 (p + 1) c7)) w.heap.size gc 32 #[.int .i64 N, .int .i64 S, .int .i64 T, .slice AF (u + 1) cF, .slice A6 (p + 1) c6, .slice AR 0 cR, .slice A7 (p + 1) c7, .slice AA p cA, .slice AB p cB] [⟨3, AF, u + 1, cF, ((tab (u + 1) fun v => (firstOf l v : Int))).map (Value.int .i64)⟩, ⟨3, A6, p + 1, c6, (H ++ [(f : Int)]).map (Value.int .i64)⟩, ⟨3, AR, 0, cR, (([] : List Int)).map (Value.int .i64)⟩, ⟨2, A7, p + 1, c7, (C ++ [(0 : Int)]).map (Value.int .i64)⟩, ⟨3, AA, p, cA, (Ai).map (Value.int .i64)⟩, ⟨4, AB, p, cB, (B).map Value.bool⟩] ((wr.heap.size, 68, #[.int .i64 (f : Int), .int .i64 (u : Int), .int .i64 z]) :: [(w.heap.size, 24, #[.int .i64 N, .int .i64 S, .int .i64 T, .slice (some ⟨ba, oa, none⟩) n c]), (w.heap.size + 1, 32, #[.int .i64 0, .int .i64 0, .int .i64 0, .slice none 0 0, .slice none 0 0, .slice none 0 0, .slice none 0 0, .slice none 0 0, .slice none 0 0])]) := by simpa using C7.store 6 (.slice A7 (p + 1) c7)
                clear a0 a1 a2 a3 a4 a5 a6 a7 a8 f0 f1 f2 f3 f4 f5 f6 f7 f8 hzc knr r0 r1 r2 r3 hzn hnn kar q0 q1 q2 hza hna HX7
                obtain ⟨a0, a1, a2, a3, a4, a5, a6, a7, a8⟩ := C7.kc.at9
                obtain ⟨f0, f1, f2, f3, f4, f5, f6, f7, f8⟩ := C7.kc.free9
                have hzc := C7.kc.lt
                have kar := (C7.oth _ (List.mem_cons_self ..)).1
                have q0 := kar.cell 0; have q1 := kar.cell 1; have q2 := kar.cell 2
                simp only [List.getElem?_toArray, List.getElem?_cons_zero, List.getElem?_cons_succ] at q0 q1 q2
                have hza := kar.lt
                have hna := (C7.oth _ (List.mem_cons_self ..)).2.1
                have knr := (C7.oth _ (List.mem_cons_of_mem _ (List.mem_cons_self ..))).1
                have hnn := (C7.oth _ (List.mem_cons_of_mem _ (List.mem_cons_self ..))).2.1
                obtain ⟨r0, r1, r2, r3⟩ := knr.at4
                have hzn := knr.lt
                try simp only at hzn
                try simp only at hnn
                try simp only at hza
                try simp only at hna
                have HD7 := Lib.hid D7
                clear C7 D7 HD6
                go_wp2_with (at_builtin; refine wp_app HD7.out rfl (.tmp 101) (.tmp 103) _ _ _ rfl one_int 4 p cA AA _ (.int .i64 (k : Int)) rfl rfl rfl rfl (by omega) (by simp) ?_)
                intro A8 c8 w8 HX8
                have C8 : Cx w w8 w.heap.size gc 32 #[.int .i64 N, .int .i64 S, .int .i64 T, .slice AF (u + 1) cF, .slice A6 (p + 1) c6, .slice AR 0 cR, .slice A7 (p + 1) c7, .slice AA p cA, .slice AB p cB] [⟨3, AF, u + 1, cF, ((tab (u + 1) fun v => (firstOf l v : Int))).map (Value.int .i64)⟩, ⟨3, A6, p + 1, c6, (H ++ [(f : Int)]).map (Value.int .i64)⟩, ⟨3, AR, 0, cR, (([] : List Int)).map (Value.int .i64)⟩, ⟨2, A7, p + 1, c7, (C ++ [(0 : Int)]).map (Value.int .i64)⟩, ⟨3, A8, p + 1, c8, (Ai ++ [(k : Int)]).map (Value.int .i64)⟩, ⟨4, AB, p, cB, (B).map Value.bool⟩] ((wr.heap.size, 68, #[.int .i64 (f : Int), .int .i64 (u : Int), .int .i64 z]) :: [(w.heap.size, 24, #[.int .i64 N, .int .i64 S, .int .i64 T, .slice (some ⟨ba, oa, none⟩) n c]), (w.heap.size + 1, 32, #[.int .i64 0, .int .i64 0, .int .i64 0, .slice none 0 0, .slice none 0 0, .slice none 0 0, .slice none 0 0, .slice none 0 0, .slice none 0 0])]) := by
                  have h := HX8.out
                  simpa only [List.map_append, List.map_cons, List.map_nil, List.set_cons_zero, List.set_cons_succ] using h
                have D8 : Cx w (w8.setCell ⟨gc, 7, none⟩ (.slice A8 (p + 1) c8)) w.heap.size gc 32 #[.int .i64 N, .int .i64 S, .int .i64 T, .slice AF (u + 1) cF, .slice A6 (p + 1) c6, .slice AR 0 cR, .slice A7 (p + 1) c7, .slice A8 (p + 1) c8, .slice AB p cB] [⟨3, AF, u + 1, cF, ((tab (u + 1) fun v => (firstOf l v : Int))).map (Value.int .i64)⟩, ⟨3, A6, p + 1, c6, (H ++ [(f : Int)]).map (Value.int .i64)⟩, ⟨3, AR, 0, cR, (([] : List Int)).map (Value.int .i64)⟩, ⟨2, A7, p + 1, c7, (C ++ [(0 : Int)]).map (Value.int .i64)⟩, ⟨3, A8, p + 1, c8, (Ai ++ [(k : Int)]).map (Value.int .i64)⟩, ⟨4, AB, p, cB, (B).map Value.bool⟩] ((wr.heap.size, 68, #[.int .i64 (f : Int), .int .i64 (u : Int), .int .i64 z]) :: [(w.heap.size, 24, #[.int .i64 N, .int .i64 S, .int .i64 T, .slice (some ⟨ba, oa, none⟩) n c]), (w.heap.size + 1, 32, #[.int .i64 0, .int .i64 0, .int .i64 0, .slice none 0 0, .slice none 0 0, .slice none 0 0, .slice none 0 0, .slice none 0 0, .slice none 0 0])]) := by simpa using C8.store 7 (.slice A8 (p + 1) c8)
                clear a0 a1 a2 a3 a4 a5 a6 a7 a8 f0 f1 f2 f3 f4 f5 f6 f7 f8 hzc knr r0 r1 r2 r3 hzn hnn kar q0 q1 q2 hza hna HX8
                obtain ⟨a0, a1, a2, a3, a4, a5, a6, a7, a8⟩ := C8.kc.at9
                obtain ⟨f0, f1, f2, f3, f4, f5, f6, f7, f8⟩ := C8.kc.free9
                have hzc := C8.kc.lt
                have kar := (C8.oth _ (List.mem_cons_self ..)).1
                have q0 := kar.cell 0; have q1 := kar.cell 1; have q2 := kar.cell 2
                simp only [List.getElem?_toArray, List.getElem?_cons_zero, List.getElem?_cons_succ] at q0 q1 q2
                have hza := kar.lt
                have hna := (C8.oth _ (List.mem_cons_self ..)).2.1
                have knr := (C8.oth _ (List.mem_cons_of_mem _ (List.mem_cons_self ..))).1
                have hnn := (C8.oth _ (List.mem_cons_of_mem _ (List.mem_cons_self ..))).2.1
                obtain ⟨r0, r1, r2, r3⟩ := knr.at4
                have hzn := knr.lt
                try simp only at hzn
                try simp only at hnn
                try simp only at hza
                try simp only at hna
                have HD8 := Lib.hid D8
                clear C8 D8 HD7
                go_wp2_with (at_builtin; refine wp_app HD8.out rfl (.tmp 107) (.tmp 108) _ _ _ rfl one_bool 5 p cB AB _ (.bool true) rfl rfl rfl rfl (by omega) (by simp) ?_)
                intro A9 c9 w9 HX9
                have C9 : Cx w w9 w.heap.size gc 32 #[.int .i64 N, .int .i64 S, .int .i64 T, .slice AF (u + 1) cF, .slice A6 (p + 1) c6, .slice AR 0 cR, .slice A7 (p + 1) c7, .slice A8 (p + 1) c8, .slice AB p cB] [⟨3, AF, u + 1, cF, ((tab (u + 1) fun v => (firstOf l v : Int))).map (Value.int .i64)⟩, ⟨3, A6, p + 1, c6, (H ++ [(f : Int)]).map (Value.int .i64)⟩, ⟨3, AR, 0, cR, (([] : List Int)).map (Value.int .i64)⟩, ⟨2, A7, p + 1, c7, (C ++ [(0 : Int)]).map (Value.int .i64)⟩, ⟨3, A8, p + 1, c8, (Ai ++ [(k : Int)]).map (Value.int .i64)⟩, ⟨4, A9, p + 1, c9, (B ++ [true]).map Value.bool⟩] ((wr.heap.size, 68, #[.int .i64 (f : Int), .int .i64 (u : Int), .int .i64 z]) :: [(w.heap.size, 24, #[.int .i64 N, .int .i64 S, .int .i64 T, .slice (some ⟨ba, oa, none⟩) n c]), (w.heap.size + 1, 32, #[.int .i64 0, .int .i64 0, .int .i64 0, .slice none 0 0, .slice none 0 0, .slice none 0 0, .slice none 0 0, .slice none 0 0, .slice none 0 0])]) := by
                  have h := HX9.out
                  simpa only [List.map_append, List.map_cons, List.map_nil, List.set_cons_zero, List.set_cons_succ] using h
                have D9 : Cx w (w9.setCell ⟨gc, 8, none⟩ (.slice A9 (p + 1) c9)) w.heap.size gc 32 #[.int .i64 N, .int .i64 S, .int .i64 T, .slice AF (u + 1) cF, .slice A6 (p + 1) c6, .slice AR 0 cR, .slice A7 (p + 1) c7, .slice A8 (p + 1) c8, .slice A9 (p + 1) c9] [⟨3, AF, u + 1, cF, ((tab (u + 1) fun v => (firstOf l v : Int))).map (Value.int .i64)⟩, ⟨3, A6, p + 1, c6, (H ++ [(f : Int)]).map (Value.int .i64)⟩, ⟨3, AR, 0, cR, (([] : List Int)).map (Value.int .i64)⟩, ⟨2, A7, p + 1, c7, (C ++ [(0 : Int)]).map (Value.int .i64)⟩, ⟨3, A8, p + 1, c8, (Ai ++ [(k : Int)]).map (Value.int .i64)⟩, ⟨4, A9, p + 1, c9, (B ++ [true]).map Value.bool⟩] ((wr.heap.size, 68, #[.int .i64 (f : Int), .int .i64 (u : Int), .int .i64 z]) :: [(w.heap.size, 24, #[.int .i64 N, .int .i64 S, .int .i64 T, .slice (some ⟨ba, oa, none⟩) n c]), (w.heap.size + 1, 32, #[.int .i64 0, .int .i64 0, .int .i64 0, .slice none 0 0, .slice none 0 0, .slice none 0 0, .slice none 0 0, .slice none 0 0, .slice none 0 0])]) := by simpa using C9.store 8 (.slice A9 (p + 1) c9)
                clear a0 a1 a2 a3 a4 a5 a6 a7 a8 f0 f1 f2 f3 f4 f5 f6 f7 f8 hzc knr r0 r1 r2 r3 hzn hnn kar q0 q1 q2 hza hna HX9
                obtain ⟨a0, a1, a2, a3, a4, a5, a6, a7, a8⟩ := C9.kc.at9
                obtain ⟨f0, f1, f2, f3, f4, f5, f6, f7, f8⟩ := C9.kc.free9
                have hzc := C9.kc.lt
                have kar := (C9.oth _ (List.mem_cons_self ..)).1
                have q0 := kar.cell 0; have q1 := kar.cell 1; have q2 := kar.cell 2
                simp only [List.getElem?_toArray, List.getElem?_cons_zero, List.getElem?_cons_succ] at q0 q1 q2
                have hza := kar.lt
                have hna := (C9.oth _ (List.mem_cons_self ..)).2.1
                have knr := (C9.oth _ (List.mem_cons_of_mem _ (List.mem_cons_self ..))).1
                have hnn := (C9.oth _ (List.mem_cons_of_mem _ (List.mem_cons_self ..))).2.1
                obtain ⟨r0, r1, r2, r3⟩ := knr.at4
                have hzn := knr.lt
                try simp only at hzn
                try simp only at hnn
                try simp only at hza
                try simp only at hna
                have HD9 := Lib.hid D9
                clear C9 D9 HD8
                go_wp2_with fail
                go_roundw
                case rel => exact ⟨k + 1, H ++ [(f : Int)], C ++ [(0 : Int)], Ai ++ [(k : Int)], B ++ [true], by omega, by go_num, by rw [HN.out]; exact HE1.out, by rw [HN.out]; exact ⟨_, _, _, _, _, _, _, _, _, _, _, _, (HD9.out.less (by simp))⟩⟩
                case measure => simp [intOf]; omega
              · have hne5 : ¬ (u : Int) = (v : Int) := by omega
                have hne6 : ((u : Int) == (v : Int)) = false := beq_false_of_ne hne5
                have HN : Hid (nextAt l v (k + 1) = p) := by rw [next_skip HL.out (by simp [touch]; omega), HP.out]; exact Lib.hid rfl
                go_wp2_with fail
                go_roundw
                case rel => exact ⟨k + 1, H, C, Ai, B, by omega, by go_num, by rw [HN.out]; exact HE0.out, by rw [HN.out]; exact ⟨_, _, _, _, _, _, _, _, _, _, _, _, (hX1.out.less (by simp))⟩⟩
                case measure => simp [intOf]; omega
        · obtain rfl : n = k := by omega
          have HNE := Lib.hid (next_end hla v)
          go_wp2_with fail
          go_roundw
          case rel => exact ⟨v + 1, H, C, Ai, B, by omega, by go_num, by rw [← HNE.out, HP.out]; exact HE0.out, by rw [← HNE.out, HP.out]; exact ⟨_, _, _, _, _, _, _, _, _, _, _, _, X0⟩⟩
          case measure => simp [intOf]; omega
    · obtain rfl : N = v := by omega
      have HX0 := Lib.hid X0; clear X0
      go_wp2_with (at_builtin; refine wp_app HX0.out rfl (.tmp 112) (.tmp 116) _ _ _ rfl one_int 0 N cF AF _ (.int .i64 (m : Int)) rfl rfl rfl rfl (by omega) (by simp) ?_)
      intro A10 c10 w10 HX10
      have C10 : Cx w w10 w.heap.size gc 32 #[.int .i64 N, .int .i64 S, .int .i64 T, .slice AF N cF, .slice AH m cH, .slice AR 0 cR, .slice AC m cC, .slice AA m cA, .slice AB m cB] [⟨3, A10, N + 1, c10, ((tab N fun v => (firstOf l v : Int)) ++ [(m : Int)]).map (Value.int .i64)⟩, ⟨3, AH, m, cH, (H).map (Value.int .i64)⟩, ⟨3, AR, 0, cR, (([] : List Int)).map (Value.int .i64)⟩, ⟨2, AC, m, cC, (C).map (Value.int .i64)⟩, ⟨3, AA, m, cA, (Ai).map (Value.int .i64)⟩, ⟨4, AB, m, cB, (B).map Value.bool⟩] [(w.heap.size, 24, #[.int .i64 N, .int .i64 S, .int .i64 T, .slice A n c]), (w.heap.size + 1, 32, #[.int .i64 0, .int .i64 0, .int .i64 0, .slice none 0 0, .slice none 0 0, .slice none 0 0, .slice none 0 0, .slice none 0 0, .slice none 0 0])] := by
        have h := HX10.out
        simpa only [List.map_append, List.map_cons, List.map_nil, List.set_cons_zero, List.set_cons_succ] using h
      have D10 : Cx w (w10.setCell ⟨gc, 3, none⟩ (.slice A10 (N + 1) c10)) w.heap.size gc 32 #[.int .i64 N, .int .i64 S, .int .i64 T, .slice A10 (N + 1) c10, .slice AH m cH, .slice AR 0 cR, .slice AC m cC, .slice AA m cA, .slice AB m cB] [⟨3, A10, N + 1, c10, ((tab N fun v => (firstOf l v : Int)) ++ [(m : Int)]).map (Value.int .i64)⟩, ⟨3, AH, m, cH, (H).map (Value.int .i64)⟩, ⟨3, AR, 0, cR, (([] : List Int)).map (Value.int .i64)⟩, ⟨2, AC, m, cC, (C).map (Value.int .i64)⟩, ⟨3, AA, m, cA, (Ai).map (Value.int .i64)⟩, ⟨4, AB, m, cB, (B).map Value.bool⟩] [(w.heap.size, 24, #[.int .i64 N, .int .i64 S, .int .i64 T, .slice A n c]), (w.heap.size + 1, 32, #[.int .i64 0, .int .i64 0, .int .i64 0, .slice none 0 0, .slice none 0 0, .slice none 0 0, .slice none 0 0, .slice none 0 0, .slice none 0 0])] := by simpa using C10.store 3 (.slice A10 (N + 1) c10)
      clear a0 a1 a2 a3 a4 a5 a6 a7 a8 f0 f1 f2 f3 f4 f5 f6 f7 f8 hzc knr r0 r1 r2 r3 hzn hnn HX10
      obtain ⟨a0, a1, a2, a3, a4, a5, a6, a7, a8⟩ := C10.kc.at9
      obtain ⟨f0, f1, f2, f3, f4, f5, f6, f7, f8⟩ := C10.kc.free9
      have hzc := C10.kc.lt
      have knr := (C10.oth _ (List.mem_cons_self ..)).1
      have hnn := (C10.oth _ (List.mem_cons_self ..)).2.1
      obtain ⟨r0, r1, r2, r3⟩ := knr.at4
      have hzn := knr.lt
      try simp only at hzn
      try simp only at hnn
      have HD10 := Lib.hid D10
      clear C10 D10 HX0
      go_wp2_with fail
      have hS1 : MkSt w (w10.setCell ⟨gc, 3, none⟩ (.slice A10 (N + 1) c10)) gc N S T A n c (N + 1) m 0 (tab (N + 1) fun v => (firstOf l v : Int)) H [] C Ai B := by
        rw [tab_succ, HM.out]
        exact ⟨_, _, _, _, _, _, _, _, _, _, _, _, HD10.out⟩
      clear a0 a1 a2 a3 a4 a5 a6 a7 a8 f0 f1 f2 f3 f4 f5 f6 f7 f8 hzc knr r0 r1 r2 r3 hzn hnn HD10
      rw [HM.out] at hcs
      obtain ⟨FF, hFF⟩ : ∃ FF, (tab (N + 1) fun v => (firstOf l v : Int)) = FF := ⟨_, rfl⟩
      rw [hFF] at hS1
      have HFF := Lib.hid hFF; clear hFF
      have hlens := And.intro HE0.out.lH (And.intro HE0.out.lC (And.intro HE0.out.lA HE0.out.lB))
      have HLN := Lib.hid hlens; clear hlens
      go_loopw [9] (fun i wr => ∃ (i' : Nat) (R : List Int), i' ≤ m ∧ i = .int .i64 i' ∧ RevTo l i' R ∧ MkSt w wr gc N S T A n c (N + 1) m i' FF H R C Ai B) (fun i _ => m - (intOf i).toNat)
      case atStart => exact ⟨0, [], Nat.zero_le _, rfl, RevTo.zero l, hS1⟩
      case round =>
        clear hS1 hlt hv hfm
        obtain ⟨i, R, hi, rfl, hR, AF, cF, AH, cH, AR, cR, AC, cC, AA, cA, AB, cB, X0⟩ := hrel
        have HR := Lib.hid hR; clear hR
        obtain ⟨a0, a1, a2, a3, a4, a5, a6, a7, a8⟩ := X0.kc.at9
        obtain ⟨f0, f1, f2, f3, f4, f5, f6, f7, f8⟩ := X0.kc.free9
        have hzc := X0.kc.lt
        have knr := (X0.oth _ (List.mem_cons_self ..)).1
        have hnn := (X0.oth _ (List.mem_cons_self ..)).2.1
        obtain ⟨r0, r1, r2, r3⟩ := knr.at4
        have hzn := knr.lt
        try simp only at hzn
        try simp only at hnn
        by_cases hlt : i < m
        · have hX0 := Lib.hid X0; clear X0
          obtain ⟨k, v, u, b, cc, hI, hp, hv0, hvN⟩ := pos_find (l := l) (N := N) (j := i) (by rw [HM.out]; exact hlt)
          obtain ⟨q, hq⟩ : ∃ q, posOf l k u = q := ⟨_, rfl⟩
          have hqm : q < m := by
            obtain ⟨c', hI'⟩ := hI.flip
            have := pos_lt hI' HE.out
            rw [HM.out] at this
            omega
          have hAi := (HE0.out.ent _ _ _ _ _ hI hv0 (by rw [← hp]; omega)).2.2.1
          rw [← hp] at hAi
          have HI := Lib.hid hI; have HPP := Lib.hid hp; have HQ := Lib.hid hq; have HAI := Lib.hid hAi; have HV0 := Lib.hid hv0
          clear hI hp hq hAi hv0 hvN
          go_wp2_with fail
          clear a0 a1 a2 a3 a4 a5 a6 a7 a8 f0 f1 f2 f3 f4 f5 f6 f7 f8 hzc knr r0 r1 r2 r3 hzn hnn
          have hS2 : MkSt w wr gc N S T A n c (N + 1) m i FF H R C Ai B := ⟨_, _, _, _, _, _, _, _, _, _, _, _, hX0.out⟩
          clear hX0
          go_loopw [10] (fun j wr => ∃ (j' i' : Nat) (R : List Int), j' ≤ m ∧ j = .int .i64 j' ∧ i' = (if q < j' then i + 1 else i) ∧ RevTo l i' R ∧ MkSt w wr gc N S T A n c (N + 1) m i' FF H R C Ai B) (fun j _ => m - (intOf j).toNat)
          case atStart => exact ⟨0, i, R, Nat.zero_le _, rfl, by simp, HR.out, hS2⟩
          case round =>
            clear hS2 HR
            obtain ⟨j, i', R, hj, rfl, hi', hR, AF, cF, AH, cH, AR, cR, AC, cC, AA, cA, AB, cB, X0⟩ := hrel
            have HR := Lib.hid hR; have HI' := Lib.hid hi'
            clear hR hi'
            obtain ⟨a0, a1, a2, a3, a4, a5, a6, a7, a8⟩ := X0.kc.at9
            obtain ⟨f0, f1, f2, f3, f4, f5, f6, f7, f8⟩ := X0.kc.free9
            have hzc := X0.kc.lt
            have knr := (X0.oth _ (List.mem_cons_self ..)).1
            have hnn := (X0.oth _ (List.mem_cons_self ..)).2.1
            obtain ⟨r0, r1, r2, r3⟩ := knr.at4
            have hzn := knr.lt
            try simp only at hzn
            try simp only at hnn
            by_cases hjm : j < m
            · obtain ⟨gA, hgA, hgb, hgl⟩ := own_form (X0.held.own 4 _ rfl) (by simp only; omega)
              simp only at hgA
              subst hgA
              obtain ⟨k', v', u', b', cc', hI', hp', hv0', hvN'⟩ := pos_find (l := l) (N := N) (j := j) (by rw [HM.out]; exact hjm)
              have hAj := (HE0.out.ent _ _ _ _ _ hI' hv0' (by rw [← hp']; omega)).2.2.1
              rw [← hp'] at hAj
              have hpair := pair_is HE.out HI.out hI'
              rw [← HPP.out, ← hp', HQ.out] at hpair
              have ci : wr.cell? ⟨gA, i, none⟩ = some (.int .i64 (k : Int)) := ((X0.held.own 4 _ rfl).cellAt i (by simp only; omega)).trans (by simp [HAI.out])
              have cj : wr.cell? ⟨gA, j, none⟩ = some (.int .i64 (k' : Int)) := ((X0.held.own 4 _ rfl).cellAt j (by simp only; omega)).trans (by simp [hAj])
              have HPR := Lib.hid hpair
              have hX0 := Lib.hid X0
              clear hI' hp' hAj hv0' hvN' hpair X0
              by_cases hkk : (k : Int) = (k' : Int)
              · by_cases hij : i = j
                · subst hij
                  have hjq : ¬ i = q := fun e => absurd (HPR.out.2 e).2 (by simp)
                  have HJ : Hid (i' = (if q < i + 1 then i + 1 else i)) := Lib.hid (by rw [HI'.out]; split <;> split <;> omega)
                  obtain rfl : k = k' := by omega
                  go_wp2_with fail
                  go_quiet (fail)
                  go_wp2_with fail
                  go_roundw
                  case rel => exact ⟨i + 1, i', R, by omega, by go_num, HJ.out, HR.out, ⟨_, _, _, _, _, _, _, _, _, _, _, _, hX0.out.drew⟩⟩
                  case measure => simp [intOf]; omega
                · have hjq : j = q := HPR.out.1 ⟨hkk, fun e => hij e⟩
                  subst hjq
                  have hii : i' = i := by rw [HI'.out]; simp
                  subst hii
                  have HJ : Hid (i' + 1 = (if j < j + 1 then i' + 1 else i')) := Lib.hid (by simp)
                  have HR1 := Lib.hid (HR.out.step HI.out HV0.out HPP.out.symm HQ.out)
                  have hd1 : ((i' : Int) == (j : Int)) = false := beq_false_of_ne (by omega)
                  have hd2 : ¬ (i' : Int) = (j : Int) := by omega
                  obtain rfl : k = k' := by omega
                  go_wp2_with fail
                  go_quiet (fail)
                  rename_i nq
                  have hX1 : Hid (Cx w (wr.drewN nq) w.heap.size gc 32 #[.int .i64 N, .int .i64 S, .int .i64 T, .slice AF (N + 1) cF, .slice AH m cH, .slice AR i' cR, .slice AC m cC, .slice (some ⟨gA, 0, none⟩) m cA, .slice AB m cB] [⟨3, AF, N + 1, cF, (FF).map (Value.int .i64)⟩, ⟨3, AH, m, cH, (H).map (Value.int .i64)⟩, ⟨3, AR, i', cR, (R).map (Value.int .i64)⟩, ⟨2, AC, m, cC, (C).map (Value.int .i64)⟩, ⟨3, (some ⟨gA, 0, none⟩), m, cA, (Ai).map (Value.int .i64)⟩, ⟨4, AB, m, cB, (B).map Value.bool⟩] [(w.heap.size, 24, #[.int .i64 N, .int .i64 S, .int .i64 T, .slice A n c]), (w.heap.size + 1, 32, #[.int .i64 0, .int .i64 0, .int .i64 0, .slice none 0 0, .slice none 0 0, .slice none 0 0, .slice none 0 0, .slice none 0 0, .slice none 0 0])]) := Lib.hid hX0.out.drew
                  clear hX0
                  go_wp2_with (at_builtin; refine wp_app hX1.out rfl (.tmp 150) (.tmp 152) _ _ _ rfl one_int 2 i' cR AR _ (.int .i64 (j : Int)) rfl rfl rfl rfl (by omega) (by simp) ?_)
                  intro A11 c11 w11 HX11
                  have C11 : Cx w w11 w.heap.size gc 32 #[.int .i64 N, .int .i64 S, .int .i64 T, .slice AF (N + 1) cF, .slice AH m cH, .slice AR i' cR, .slice AC m cC, .slice (some ⟨gA, 0, none⟩) m cA, .slice AB m cB] [⟨3, AF, N + 1, cF, (FF).map (Value.int .i64)⟩, ⟨3, AH, m, cH, (H).map (Value.int .i64)⟩, ⟨3, A11, i' + 1, c11, (R ++ [(j : Int)]).map (Value.int .i64)⟩, ⟨2, AC, m, cC, (C).map (Value.int .i64)⟩, ⟨3, (some ⟨gA, 0, none⟩), m, cA, (Ai).map (Value.int .i64)⟩, ⟨4, AB, m, cB, (B).map Value.bool⟩] [(w.heap.size, 24, #[.int .i64 N, .int .i64 S, .int .i64 T, .slice A n c]), (w.heap.size + 1, 32, #[.int .i64 0, .int .i64 0, .int .i64 0, .slice none 0 0, .slice none 0 0, .slice none 0 0, .slice none 0 0, .slice none 0 0, .slice none 0 0])] := by
                    have h := HX11.out
                    simpa only [List.map_append, List.map_cons, List.map_nil, List.set_cons_zero, List.set_cons_succ] using h
                  have D11 : Cx w (w11.setCell ⟨gc, 5, none⟩ (.slice A11 (i' + 1) c11)) w.heap.size gc 32 #[.int .i64 N, .int .i64 S, .int .i64 T, .slice AF (N + 1) cF, .slice AH m cH, .slice A11 (i' + 1) c11, .slice AC m cC, .slice (some ⟨gA, 0, none⟩) m cA, .slice AB m cB] [⟨3, AF, N + 1, cF, (FF).map (Value.int .i64)⟩, ⟨3, AH, m, cH, (H).map (Value.int .i64)⟩, ⟨3, A11, i' + 1, c11, (R ++ [(j : Int)]).map (Value.int .i64)⟩, ⟨2, AC, m, cC, (C).map (Value.int .i64)⟩, ⟨3, (some ⟨gA, 0, none⟩), m, cA, (Ai).map (Value.int .i64)⟩, ⟨4, AB, m, cB, (B).map Value.bool⟩] [(w.heap.size, 24, #[.int .i64 N, .int .i64 S, .int .i64 T, .slice A n c]), (w.heap.size + 1, 32, #[.int .i64 0, .int .i64 0, .int .i64 0, .slice none 0 0, .slice none 0 0, .slice none 0 0, .slice none 0 0, .slice none 0 0, .slice none 0 0])] := by simpa using C11.store 5 (.slice A11 (i' + 1) c11)
                  clear a0 a1 a2 a3 a4 a5 a6 a7 a8 f0 f1 f2 f3 f4 f5 f6 f7 f8 hzc knr r0 r1 r2 r3 hzn hnn HX11
                  obtain ⟨a0, a1, a2, a3, a4, a5, a6, a7, a8⟩ := C11.kc.at9
                  obtain ⟨f0, f1, f2, f3, f4, f5, f6, f7, f8⟩ := C11.kc.free9
                  have hzc := C11.kc.lt
                  have knr := (C11.oth _ (List.mem_cons_self ..)).1
                  have hnn := (C11.oth _ (List.mem_cons_self ..)).2.1
                  obtain ⟨r0, r1, r2, r3⟩ := knr.at4
                  have hzn := knr.lt
                  try simp only at hzn
                  try simp only at hnn
                  have HD11 := Lib.hid D11
                  clear C11 D11 hX1
                  go_wp2_with fail
                  go_roundw
                  case rel => exact ⟨j + 1, i' + 1, R ++ [(j : Int)], by omega, by go_num, HJ.out, HR1.out, ⟨_, _, _, _, _, _, _, _, _, _, _, _, HD11.out⟩⟩
                  case measure => simp [intOf]; omega
              · have hjq : ¬ j = q := fun e => hkk (HPR.out.2 e).1
                have HJ : Hid (i' = (if q < j + 1 then i + 1 else i)) := Lib.hid (by rw [HI'.out]; split <;> split <;> omega)
                have hd1 : ((k : Int) == (k' : Int)) = false := beq_false_of_ne hkk
                have hd2 : ¬ k = k' := by omega
                go_wp2_with fail
                go_quiet (fail)
                go_wp2_with fail
                go_roundw
                case rel => exact ⟨j + 1, i', R, by omega, by go_num, HJ.out, HR.out, ⟨_, _, _, _, _, _, _, _, _, _, _, _, hX0.out.drew⟩⟩
                case measure => simp [intOf]; omega
            · have hii : i' = i + 1 := by rw [HI'.out, if_pos (by omega)]
              subst hii
              have hX0 := Lib.hid X0; clear X0
              go_wp2_with fail
              go_roundw
              case rel => exact ⟨i + 1, R, by omega, by go_num, HR.out, ⟨_, _, _, _, _, _, _, _, _, _, _, _, hX0.out⟩⟩
              case measure => simp [intOf]; omega
        · obtain rfl : m = i := by omega
          have kz := (X0.oth _ (List.mem_cons_of_mem _ (List.mem_cons_self ..))).1
          simp only at kz
          have KQ := kz.set9 (.int .i64 N) (.int .i64 S) (.int .i64 T) (.slice AF (N + 1) cF) (.slice AH m cH) (.slice AR m cR) (.slice AC m cC) (.slice AA m cA) (.slice AB m cB)
          have HH := X0.held.far9 (u0 := .int .i64 N) (u1 := .int .i64 S) (u2 := .int .i64 T) (u3 := .slice AF (N + 1) cF) (u4 := .slice AH m cH) (u5 := .slice AR m cR) (u6 := .slice AC m cC) (u7 := .slice AA m cA) (u8 := .slice AB m cB) kz (by simp)
          obtain ⟨z0, z1, z2, z3, z4, z5, z6, z7, z8⟩ := kz.at9
          obtain ⟨y0, y1, y2, y3, y4, y5, y6, y7, y8⟩ := kz.free9
          have hzz := kz.lt
          have hzg := (X0.oth _ (List.mem_cons_of_mem _ (List.mem_cons_self ..))).2.1
          simp only at hzg
          have HKQ := Lib.hid KQ; have HHH := Lib.hid HH; have HBE := Lib.hid X0.bel
          clear KQ HH X0
          go_wp2_with fail
          obtain ⟨q0, q1, q2, q3, q4, q5, q6, q7, q8⟩ := HKQ.out.at9
          refine bodyPost_ret (v := .tuple #[csrW N m S T ⟨AF, cF, AH, cH, AR, cR, AC, cC, AA, cA, AB, cB⟩, .int .i64 0]) (by simp [results, Try.results28, go_sem, q0, q1, q2, q3, q4, q5, q6, q7, q8]) rfl ?_
          refine ⟨⟨AF, cF, AH, cH, AR, cR, AC, cC, AA, cA, AB, cB⟩, FF, H, R, C, Ai, B, by rw [HM.out], ⟨HFF.out.symm, by rw [HM.out]; exact HE0.out, by rw [HM.out]; exact HR.out⟩, ?_, ?_, ?_⟩
          · rw [HM.out]
            have h := HHH.out
            exact ⟨h.ints (i := 0) rfl (by rw [← HFF.out, tab_len]), h.ints (i := 1) rfl HLN.out.1, h.ints (i := 2) rfl HR.out.len, h.ints (i := 3) rfl HLN.out.2.1, h.ints (i := 4) rfl HLN.out.2.2.1, h.bools (i := 5) rfl HLN.out.2.2.2⟩
          · have h := HHH.out
            exact ⟨h.abv (i := 0) rfl, h.abv (i := 1) rfl, h.abv (i := 2) rfl, h.abv (i := 3) rfl, h.abv (i := 4) rfl, h.abv (i := 5) rfl⟩
          · exact ((((((((HBE.out.setCell (by simp) _).setCell (by simp) _).setCell (by simp) _).setCell (by simp) _).setCell (by simp) _).setCell (by simp) _).setCell (by simp) _).setCell (by simp) _).setCell (by simp) _

end Go.Proofs.Ytanifbofjecpmaa

/-! Refc -/
namespace Go.Proofs.Ytanifbofjecpmaa
open Go.RowKit
set_option maxRecDepth 100000

theorem RdBy.adr {α : Type} {f : α → List Value} {size : Nat} {w : World} {B n : Nat} {A : Option Addr} {L : List α} (h : RdBy f size w B A n L) (hn : 0 < n) : ∃ b off, A = some ⟨b, off, none⟩ := by
  obtain ⟨b, off, e, _⟩ := h.2 hn
  exact ⟨b, off, e⟩
theorem RdBy.cel {w : World} {B n b off k : Nat} {L : List Int} {x : Int} (h : RdBy intCells 1 w B (some ⟨b, off, none⟩) n L) (hx : L[k]? = some x) : b < B ∧ w.cell? ⟨b, off + k, none⟩ = some (.int .i64 x) := Ints.cel h hx

theorem wrap_in {n : Int} (h0 : -9223372036854775808 ≤ n) (h1 : n < 9223372036854775808) : IntKind.i64.wrap n = n := by
  rw [IntKind.wrap_i64]
  omega

theorem inc_cap {l : List ArcN} {i : Nat} {v u : Int} {b : Bool} {c t : Int} (hI : Inc l i v u b c) (h : ∀ a ∈ l, 0 ≤ a.cap ∧ a.cap ≤ t) : 0 ≤ c ∧ c ≤ t := by
  obtain ⟨_, a, ha, hh⟩ := hI
  have := h a (mem_at ha)
  rcases hh with ⟨_, _, _, e⟩ | ⟨_, _, _, e⟩ <;> omega

/-- What is left is answered. -/
def RetRes2 (l : List ArcN) (f : List Int) (M : Nat) (w : World) (e : Ending) (w' : World) : Prop :=
  ∃ (A : Option Addr) (c : Nat) (X : List Int), e = .returned (.tuple #[.slice A M c, .int .i64 0]) ∧ Ints w' w'.heap.size A M X ∧ ResOf l f M X ∧ Abv w.heap.size A ∧ Below w.heap.size w w'

set_option maxHeartbeats 4000000 in
theorem rres_good (N M : Nat) (S T : Int) (K : CsrS) (l : List ArcN) (F H R C Ai : List Int) (B : List Bool) (Af : Option Addr) (nf cf : Nat) (f : List Int) (w : World) (hL : CsrL N l F H R C Ai B) (hIn : CsrIn w w.heap.size N M K F H R C Ai B) (hE : EndsIn N l)
    (hMe : firstOf l N = M) (hM : M ≤ 100000000) (hf : Ints w w.heap.size Af nf f) (hfl : FlowIn l f) (hcap : ∀ a ∈ l, 0 ≤ a.cap ∧ a.cap ≤ 4611686018427387903) :
    Calls Try.prog 29 #[csrW N M S T K, .slice Af nf cf] w (RetRes2 l f M w) := by
  obtain ⟨AF, cF, AH, cH, AR, cR, AC, cC, AA, cA, AB, cB⟩ := K
  obtain ⟨iF, iH, iR, iC, iA, iB⟩ := hIn
  dsimp only at *
  have hlf := hf.len
  have hfe := hfl.len
  have HL := Lib.hid hL; have HE := Lib.hid hE; have HMe := Lib.hid hMe; have HFL := Lib.hid hfl; have HCAP := Lib.hid hcap
  clear hL hE hMe hfl hcap iF iH
  go_enter Try.func29, Try.ntmps29
  go_wp2_with fail
  have X0 : Cx w (w.alloc (.cells #[.int .i64 N, .int .i64 S, .int .i64 T, .slice AF (N + 1) cF, .slice AH M cH, .slice AR M cR, .slice AC M cC, .slice AA M cA, .slice AB M cB] 32)) w.heap.size w.heap.size 32 #[.int .i64 N, .int .i64 S, .int .i64 T, .slice AF (N + 1) cF, .slice AH M cH, .slice AR M cR, .slice AC M cC, .slice AA M cA, .slice AB M cB] [⟨2, none, 0, 0, ([] : List Int).map (Value.int .i64)⟩] [] :=
    ⟨Blk.new rfl, ⟨fun i r hi => by
      cases i with
      | zero => simp at hi; subst hi; exact World.ownsRow_nil _ _ _ _
      | succ i => simp at hi, fun i j r s hij hi hj => by
      cases i with
      | zero => simp at hi; subst hi; intro g hg; cases hg
      | succ i => simp at hi⟩, by simp, by simp, ⟨Nat.le_refl _, by simp⟩, below_alloc _⟩
  go_loopw [6, 7] (fun o i wr => ∃ (k : Nat) (X : List Int) (A' : Option Addr) (c' : Nat), k ≤ M ∧ i = .int .i64 k ∧ o = .slice A' k c' ∧ LeftTo l f k X ∧
    Cx w wr w.heap.size w.heap.size 32 #[.int .i64 N, .int .i64 S, .int .i64 T, .slice AF (N + 1) cF, .slice AH M cH, .slice AR M cR, .slice AC M cC, .slice AA M cA, .slice AB M cB] [⟨2, A', k, c', X.map (Value.int .i64)⟩] []) (fun _ i _ => M - (intOf i).toNat)
  case atStart => exact ⟨0, [], none, 0, Nat.zero_le _, rfl, rfl, LeftTo.zero l f, X0⟩
  case round =>
    clear X0
    obtain ⟨k, X, A', c', hk, rfl, rfl, hX, X0⟩ := hrel
    have HX := Lib.hid hX; clear hX
    obtain ⟨a0, a1, a2, a3, a4, a5, a6, a7, a8⟩ := X0.kc.at9
    have hzc := X0.kc.lt
    by_cases hlt : k < M
    · obtain ⟨i, q, v, u, b, cc, hI, hp, hq, hql, e1, e2, e3, e4, e5⟩ := HL.out.at HE.out (k := k) (by rw [HMe.out]; exact hlt)
      obtain ⟨c2, hF⟩ := hI.flip
      have e6 := (HL.out.ent.ent _ _ _ _ _ hF (hF.ends HE.out).1 (by rw [hq]; exact hql)).2.1
      rw [hq] at e6
      rw [HMe.out] at hql
      have hil := hI.lt
      obtain ⟨x, hx⟩ : ∃ x, f[i]? = some x := ⟨_, List.getElem?_eq_getElem (by omega)⟩
      obtain ⟨a, ha⟩ : ∃ a, l[i]? = some a := ⟨_, List.getElem?_eq_getElem hil⟩
      have hxb := HFL.out.ent i a x ha hx
      have hcb := cap_both hI hF
      have hca : capAt l i = a.cap := by unfold capAt; rw [ha]
      have hb1 := inc_cap hI HCAP.out
      have hb2 := inc_cap hF HCAP.out
      have hb3 := HCAP.out a (mem_at ha)
      have hnn : i < nf := by omega
      have hn1 : ¬ (nf : Int) ≤ (i : Int) := by omega
      obtain ⟨bC, oC, rfl⟩ := iC.adr (by omega)
      obtain ⟨bR, oR, rfl⟩ := iR.adr (by omega)
      obtain ⟨bA, oA, rfl⟩ := iA.adr (by omega)
      obtain ⟨bf, of, rfl⟩ := hf.adr (by omega)
      obtain ⟨hb4, d1⟩ := (iC.below X0.bel).cel e3
      have d2 := ((iC.below X0.bel).cel e6).2
      obtain ⟨hb5, d3⟩ := (iR.below X0.bel).cel e2
      obtain ⟨hb6, d4⟩ := (iA.below X0.bel).cel e4
      obtain ⟨hb7, d5⟩ := (hf.below X0.bel).cel hx
      obtain ⟨bB, oB, b', eB, hb8, hbb, d6⟩ := bool_at (iB.below X0.bel) (k := k) hlt
      subst eB
      rw [e5] at hbb
      injection hbb with hbb
      subst hbb
      have hz0 := X0.bel.size
      have HST := Lib.hid (fun y (hy : y = if b = true then x else capAt l i - x) => HX.out.step hI (hI.ends HE.out).1 hp hx hy)
      have hw : IntKind.i64.wrap (cc + c2) = cc + c2 := wrap_in (by omega) (by omega)
      have hs0 : ¬ x < 0 := by omega
      have hs1 : ¬ cc + c2 < x := by omega
      have hs2 : decide (x < 0) = false := decide_eq_false hs0
      have hs3 : decide (cc + c2 < x) = false := decide_eq_false hs1
      have hq1 : q < M := hql
      have HCB := Lib.hid hcb
      have hX0 := Lib.hid X0
      have hbx : x ≤ cc + c2 := by omega
      have hbc : cc + c2 ≤ 4611686018427387903 := by omega
      have hx0 : 0 ≤ x := hxb.1
      clear X0 hI hF hp hq e1 e2 e3 e4 e5 e6 hx ha hxb hca hb3 hcb
      go_wp2_with fail
      go_quiet (fail)
      clear hw
      rename_i nq
      have hX1 : Hid (Cx w (wr.drewN nq) w.heap.size w.heap.size 32 _ _ _) := Lib.hid hX0.out.drew
      cases b
      all_goals
        go_wp2_with (at_builtin; first
          | refine wp_app hX1.out rfl (.tmp 59) (.tmp 64) _ _ _ rfl one_long 0 k c' A' _ (.int .i64 x) rfl rfl rfl rfl (by omega) (by simp) ?_
          | refine wp_app hX1.out rfl (.tmp 66) (.tmp 73) _ _ _ rfl one_long 0 k c' A' _ (.int .i64 (cc + c2 - x)) rfl rfl rfl rfl (by omega) (by simp) ?_)
        intro A2 cc2 w2 HX2
        clear a0 a1 a2 a3 a4 a5 a6 a7 a8 hzc
        go_wp2_with fail
        go_roundw
        case rel =>
          first
            | (refine ⟨k + 1, X ++ [cc + c2 - x], A2, cc2, by omega, by go_num, rfl, HST.out _ (by rw [if_neg (by simp), ← HCB.out]), ?_⟩
               have h := HX2.out
               simpa only [List.map_append, List.map_cons, List.map_nil, List.set_cons_zero, List.set_cons_succ] using h)
            | (refine ⟨k + 1, X ++ [x], A2, cc2, by omega, by go_num, rfl, HST.out _ (by simp), ?_⟩
               have h := HX2.out
               simpa only [List.map_append, List.map_cons, List.map_nil, List.set_cons_zero, List.set_cons_succ] using h)
        case measure => simp [intOf]; omega
    · obtain rfl : M = k := by omega
      have hX0 := Lib.hid X0; clear X0
      go_wp2_with fail
      go_ret2
      exact ⟨_, _, X, rfl, hX0.out.held.ints (i := 0) rfl HX.out.len, HX.out.done HE.out HMe.out, hX0.out.held.abv (i := 0) rfl, hX0.out.bel⟩

end Go.Proofs.Ytanifbofjecpmaa

/-! Fit -/
/-! Repeat -/
namespace Go.Proofs.Ytanifbofjecpmaa
open Go.RowKit
set_option maxRecDepth 100000



set_option maxHeartbeats 400000 in
theorem less_any (x y : Int) (w : World) :
    Calls Try.prog 93 #[.int .i64 x, .int .i64 y] w fun e w' => e = .returned (.bool (decide (x < y))) ∧ w' = w := by
  have hn : ∀ x W, Calls Try.prog 105 #[.int .i64 x] W fun e w' => e = .returned (.bool false) ∧ w' = W := fun x W => by
    go_enter Try.func105, Try.ntmps105
    go_wp2
    go_ret
    exact ⟨ret_bool (by simp), rfl⟩
  have HN := Lib.hid hn; clear hn
  by_cases h : x < y
  · go_enter Try.func93, Try.ntmps93
    go_wp2_with (go_at_call 105; refine (HN.out _ _).mono ?_; rintro e w' ⟨rfl, rfl⟩)
    go_ret
    exact ⟨ret_bool (by simp [h]), rfl⟩
  · go_enter Try.func93, Try.ntmps93
    go_wp2_with (go_at_call 105; refine (HN.out _ _).mono ?_; rintro e w' ⟨rfl, rfl⟩)
    go_ret
    exact ⟨ret_bool (by simp), rfl⟩

set_option maxHeartbeats 1000000 in
theorem sorted_yes (A : Option Addr) (n c : Nat) (g : Nat → Nat) (w : World) (hA : Ints w w.heap.size A (n + 1) (tab (n + 1) fun v => (g v : Int))) (hn : n ≤ 1000000) (hm : ∀ v, v < n → g v ≤ g (v + 1)) :
    Calls Try.prog 76 #[.slice A (n + 1) c] w fun e w' => e = .returned (.bool true) ∧ Below w.heap.size w w' := by
  obtain ⟨b, off, rfl⟩ : ∃ b off, A = some ⟨b, off, none⟩ := by
    obtain ⟨b, off, e, _⟩ := hA.2 (by omega)
    exact ⟨b, off, e⟩
  have HA := Lib.hid hA; have HM := Lib.hid hm
  clear hA hm
  go_enter Try.func76, Try.ntmps76
  go_wp2_with fail
  go_loopw [3] (fun i wr => ∃ k : Nat, k ≤ n ∧ i = .int .i64 k ∧ Below w.heap.size w wr) (fun i _ => (intOf i).toNat)
  case atStart => exact ⟨n, Nat.le_refl _, by go_num, Below.refl _ _⟩
  case round =>
    obtain ⟨k, hk, rfl, Bw⟩ := hrel
    cases k with
    | zero =>
      go_wp2_with fail
      go_ret
      exact ⟨rfl, Bw⟩
    | succ k =>
      have e1 := tab_at (g := fun v => (g v : Int)) (show k < n + 1 by omega)
      have e2 := tab_at (g := fun v => (g v : Int)) (show k + 1 < n + 1 by omega)
      obtain ⟨hb, c1⟩ := (HA.out.below Bw).cel e1
      obtain ⟨_, c2⟩ := (HA.out.below Bw).cel e2
      have hle : ¬ (g (k + 1) : Int) < (g k : Int) := by have := HM.out k (by omega); omega
      have hl := fun W => less_any (g (k + 1) : Int) (g k : Int) W
      rw [decide_eq_false hle] at hl
      have HL := Lib.hid hl
      have hi0 : (0 : Int) ≤ (k : Int) + 1 := by omega
      have hi1 : ((k : Int) + 1).toNat = k + 1 := by omega
      have hi2 : (k : Int) + 1 < (n : Int) + 1 := by omega
      have hi3 : (k : Int) < (n : Int) + 1 := by omega
      have hi4 : (0 : Int) < (k : Int) + 1 := by omega
      have hw1 : IntKind.i64.wrap (k : Int) = (k : Int) := by rw [IntKind.wrap_i64]; omega
      have hw2 : IntKind.i64.wrap ((k : Int) + 1) = (k : Int) + 1 := by rw [IntKind.wrap_i64]; omega
      clear e1 e2 hl hle
      go_wp2_with fail
      go_quiet ((go_at_call 93; exact Calls.quiet_of_same (HL.out _)))
      clear hw1 hw2 hi1
      go_wp2_with fail
      go_roundw
      case rel => exact ⟨k, by omega, by go_num, below_drewN' Bw _⟩
      case measure => simp [intOf]
theorem splice_at {n m : Nat} {x : Int} {L : List Int} (h : ∀ j, j < n → L[j]? = some x) (hn : n + m ≤ L.length) : ∃ L' : List Int, splice (L.map (Value.int .i64)) n ((List.replicate m x).map (Value.int .i64)) = L'.map (Value.int .i64) ∧ L'.length = L.length ∧ ∀ j, j < n + m → L'[j]? = some x := by
  refine ⟨L.take n ++ (List.replicate m x ++ L.drop (n + m)), ?_, ?_, fun j hj => ?_⟩
  · simp [splice, List.map_take, List.map_drop]
  · simp; omega
  · by_cases h1 : j < n
    · rw [List.getElem?_append_left (by simp; omega), List.getElem?_take, if_pos h1]
      exact h j h1
    · rw [List.getElem?_append_right (by simp; omega), List.getElem?_append_left (by simp; omega)]
      rw [List.getElem?_replicate, if_pos (by simp only [List.length_take]; omega)]
theorem int_size : (Try.prog.info? 3).map (·.size) = some 1 := by
  have h := int_info
  obtain ⟨i, hi, h2⟩ := Option.map_eq_some_iff.1 h
  simp only [Prod.mk.injEq] at h2
  rw [hi]; simp [h2.2.1]

theorem from_slice (g N k : Nat) (hk : k < N) (W : World) : (Instr.sliceAt 27 (.slice (some ⟨g, 0, none⟩) N N) (some (.int .i64 (k : Int))) none none).run Try.prog W = .ok (.slice (some ⟨g, k, none⟩) (N - k) (N - k)) W := by
  have ht : Try.prog.underlying 27 = some (.slice (Try.prog.elem 27)) := by kernel_rfl
  have hs : ∀ W, (sizeOf (Try.prog.elem 27)).run Try.prog W = .ok 1 W := fun W => by kernel_rfl
  rw [run_sliceAt_slice _ _ _ _ _ _ ht, run_slice_l _ _ _ _ _ ht _ _ (by omega) (by omega), hs]
  have h1 : ¬ N = k := by omega
  simp [Result.andThen, sliced, addr_add, h1]
theorem to_slice (g N k : Nat) (hk : k ≤ N) (W : World) : (Instr.sliceAt 27 (.slice (some ⟨g, 0, none⟩) N N) none (some (.int .i64 (k : Int))) none).run Try.prog W = .ok (.slice (some ⟨g, 0, none⟩) k N) W := by
  have ht : Try.prog.underlying 27 = some (.slice (Try.prog.elem 27)) := by kernel_rfl
  have hs : ∀ W, (sizeOf (Try.prog.elem 27)).run Try.prog W = .ok 1 W := fun W => by kernel_rfl
  rw [run_sliceAt_slice _ _ _ _ _ _ ht, run_slice_h _ _ _ _ _ ht _ _ (by omega) (by omega), hs]
  simp [Result.andThen, sliced, addr_add]

end Go.Proofs.Ytanifbofjecpmaa

/-! Fit -/
namespace Go.Proofs.Ytanifbofjecpmaa
open Go.RowKit
set_option maxRecDepth 100000

/-- The rows that distances are told by. -/
structure GridIn (w : World) (x N M : Nat) (K : CsrS) (fst hd rv : Nat → Nat) : Prop where
  iF : Ints w x K.AF (N + 1) (tab (N + 1) fun v => (fst v : Int))
  iH : Ints w x K.AH M (tab M fun a => (hd a : Int))
  iR : Ints w x K.AR M (tab M fun a => (rv a : Int))
section
variable {w w' : World} {x y N M : Nat} {K : CsrS} {fst hd rv : Nat → Nat}
theorem GridIn.below (h : GridIn w x N M K fst hd rv) (hb : Below x w w') : GridIn w' x N M K fst hd rv := ⟨h.iF.below hb, h.iH.below hb, h.iR.below hb⟩
theorem GridIn.more (h : GridIn w x N M K fst hd rv) (hb : x ≤ y) : GridIn w y N M K fst hd rv := ⟨h.iF.more hb, h.iH.more hb, h.iR.more hb⟩
theorem GridIn.on (h : GridIn w w.heap.size N M K fst hd rv) (hb : Below w.heap.size w w') : GridIn w' w'.heap.size N M K fst hd rv := (h.below hb).more hb.size
theorem GridIn.onAlloc (h : GridIn w w.heap.size N M K fst hd rv) (o : Obj) : GridIn (w.alloc o) (w.alloc o).heap.size N M K fst hd rv := h.on (below_alloc o)
end
theorem tab_cell {w : World} {B n b off k : Nat} {g : Nat → Nat} (h : Ints w B (some ⟨b, off, none⟩) n (tab n fun a => (g a : Int))) (hk : k < n) : b < B ∧ w.cell? ⟨b, off + k, none⟩ = some (.int .i64 (g k : Int)) := RdBy.cel h (tab_at hk)

set_option maxHeartbeats 400000 in
theorem len2_any (N M : Nat) (S T : Int) (K : CsrS) (w : World) :
    Calls Try.prog 66 #[csrW N M S T K] w fun e w' => e = .returned (.int .i64 M) ∧ Below w.heap.size w w' := by
  obtain ⟨AF, cF, AH, cH, AR, cR, AC, cC, AA, cA, AB, cB⟩ := K
  dsimp only [csrW]
  go_enter Try.func66, Try.ntmps66
  go_wp2
  go_ret
  exact ⟨rfl, below_alloc _⟩



end Go.Proofs.Ytanifbofjecpmaa
