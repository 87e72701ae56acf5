/- Several rows of a call's own beside a struct that names them: append to one of them, store into the struct. -/
import Derived.Test.YtgjokddcaadjdaaChecks
import Derived.Test.YtgjokddcaadjdaaCells
namespace Go.Proofs.Ytgjokddcaadjdaa
open Go.RowKit

/-- A row of one-cell elements. -/
structure Rw where
  t : TypeId
  A : Option Addr
  n : Nat
  c : Nat
  xs : List Value
abbrev Rw.v (r : Rw) : Value := .slice r.A r.n r.c

/-- These rows are the call's own, each in a block of its own. -/
structure Held (w : World) (base : Nat) (rs : List Rw) : Prop where
  own : ∀ (i : Nat) (r : Rw), rs[i]? = some r → w.ownsRow base r.t 1 r.v r.n r.xs
  ne : ∀ (i j : Nat) (r s : Rw), i ≠ j → rs[i]? = some r → rs[j]? = some s → ∀ g, r.v.ownBlock = some g → s.v.ownBlock ≠ some g

section
variable {w w' W : World} {base gc : Nat} {rs : List Rw}
theorem Held.grown {row : Option Nat} (h : Held w base rs) (hg : w.grownBy w' row) (hr : ∀ g, row = some g → ∀ (i : Nat) (r : Rw), rs[i]? = some r → r.v.ownBlock ≠ some g) : Held w' base rs :=
  ⟨fun i r hi => (h.own i r hi).kept hg (by
    cases hb : r.v.ownBlock with
    | none => exact .inl rfl
    | some g =>
      refine .inr fun e => ?_
      exact hr g e.symm i r hi hb), h.ne⟩
theorem Held.alloc (h : Held w base rs) (o : Obj) : Held (w.alloc o) base rs := h.grown (World.grownBy_alloc w o none) fun g e => by cases e
theorem Held.app {i m c' : Nat} {r : Rw} {A' : Option Addr} {news : List Value} (h : Held w base rs) (hr : rs[i]? = some r) (ho : w'.ownsRow base r.t 1 (.slice A' (r.n + m) c') (r.n + m) (r.xs ++ news))
    (hg : w.grownBy w' r.v.ownBlock) (hx : (Value.slice A' (r.n + m) c').ownBlock = r.v.ownBlock ∨ (Value.slice A' (r.n + m) c').ownBlock = some w.heap.size) :
    Held w' base (rs.set i ⟨r.t, A', r.n + m, c', r.xs ++ news⟩) := by
  have hi := (List.getElem?_eq_some_iff.1 hr).1
  have hnew : ∀ (j : Nat) (s : Rw), j ≠ i → rs[j]? = some s → ∀ g, (Value.slice A' (r.n + m) c').ownBlock = some g → s.v.ownBlock ≠ some g := by
    intro j s hj hs g hgg e
    rcases hx with hx | hx
    · exact h.ne i j r s (fun e => hj e.symm) hr hs g (hx ▸ hgg) e
    · rw [hx] at hgg
      have := ((h.own j s hs).lt g e).2
      injection hgg with hgg
      omega
  refine ⟨fun j s hs => ?_, fun j k s t hjk hs ht g hgs e => ?_⟩
  · by_cases hj : j = i
    · subst hj
      rw [List.getElem?_set_self hi] at hs
      injection hs with hs
      subst hs
      exact ho
    · rw [List.getElem?_set_ne (fun e => hj e.symm)] at hs
      refine (h.own j s hs).kept hg ?_
      cases hb : s.v.ownBlock with
      | none => exact .inl rfl
      | some g => exact .inr fun e => h.ne i j r s (fun e => hj e.symm) hr hs g e.symm hb
  · by_cases hj : j = i
    · subst hj
      rw [List.getElem?_set_self hi] at hs
      injection hs with hs
      subst hs
      rw [List.getElem?_set_ne hjk] at ht
      exact hnew k t (fun e => hjk e.symm) ht g hgs e
    · rw [List.getElem?_set_ne (fun e => hj e.symm)] at hs
      by_cases hk : k = i
      · subst hk
        rw [List.getElem?_set_self hi] at ht
        injection ht with ht
        subst ht
        exact hnew j s hj hs g e hgs
      · rw [List.getElem?_set_ne (fun e => hk e.symm)] at ht
        exact h.ne j k s t hjk hs ht g hgs e

/-- A struct in the block gc, the rows, other blocks of other types; nothing below base was touched since w0. -/
structure Cx (w0 w : World) (base gc : Nat) (tc : TypeId) (vc : Array Value) (rs : List Rw) (oth : List (Nat × TypeId × Array Value)) : Prop where
  kc : Blk w gc tc vc
  held : Held w base rs
  oth : ∀ o ∈ oth, Blk w o.1 o.2.1 o.2.2 ∧ o.1 ≠ gc ∧ ∀ r ∈ rs, r.t ≠ o.2.1
  tne : ∀ r ∈ rs, r.t ≠ tc
  bas : base ≤ gc ∧ base ≤ w.heap.size
  bel : Below base w0 w
variable {w0 : World} {tc : TypeId} {vc : Array Value} {oth : List (Nat × TypeId × Array Value)}
theorem Cx.alloc (h : Cx w0 w base gc tc vc rs oth) (o : Obj) : Cx w0 (w.alloc o) base gc tc vc rs oth :=
  ⟨h.kc.alloc o, h.held.alloc o, fun x hx => ⟨(h.oth x hx).1.alloc o, (h.oth x hx).2⟩, h.tne, ⟨h.bas.1, by simp; have := h.bas.2; omega⟩, h.bel.alloc h.bas.2 o⟩
theorem Cx.store (h : Cx w0 w base gc tc vc rs oth) (i : Nat) (u : Value) : Cx w0 (w.setCell ⟨gc, i, none⟩ u) base gc tc (vc.setIfInBounds i u) rs oth := by
  refine ⟨h.kc.set i u, ?_, fun x hx => ⟨(h.oth x hx).1.far (h.oth x hx).2.1 u, (h.oth x hx).2⟩, h.tne, ⟨h.bas.1, by simpa using h.bas.2⟩, h.bel.setCell h.bas.1 u⟩
  refine h.held.grown (row := some gc) ⟨rfl, rfl, rfl, by simp, fun k _ hk => heap_setCell_other w ⟨gc, i, none⟩ k u (fun e => hk (by simp [e]))⟩ ?_
  intro g e i r hr hb
  injection e with e
  subst e
  have ho := h.held.own i r hr
  rcases ho.2 with ⟨h0, _⟩ | ⟨g', cap, cur, hv, _, hh, _⟩
  · rw [h0] at hb; simp [Value.ownBlock] at hb
  · rw [hv] at hb
    simp [Value.ownBlock] at hb
    subst hb
    have hk := h.kc
    unfold Blk at hk
    rw [hh] at hk
    injection hk with hk
    injection hk with _ ht
    exact h.tne r (List.mem_of_getElem? hr) ht
theorem Cx.more (h : Cx w0 w base gc tc vc rs oth) {b : Nat} {t : TypeId} {cs : Array Value} (hb : Blk w b t cs) (hne : b ≠ gc) (ht : ∀ r ∈ rs, r.t ≠ t) : Cx w0 w base gc tc vc rs ((b, t, cs) :: oth) :=
  ⟨h.kc, h.held, fun o ho => by
    rcases List.mem_cons.1 ho with rfl | ho
    · exact ⟨hb, hne, ht⟩
    · exact h.oth o ho, h.tne, h.bas, h.bel⟩
theorem Cx.less (h : Cx w0 w base gc tc vc rs oth) {oth' : List (Nat × TypeId × Array Value)} (hs : ∀ o ∈ oth', o ∈ oth) : Cx w0 w base gc tc vc rs oth' := ⟨h.kc, h.held, fun o ho => h.oth o (hs o ho), h.tne, h.bas, h.bel⟩

/-- The program's elements of one cell. -/
structure OneCell (P : Program) (t e : TypeId) (bytes : Nat) : Prop where
  und : P.underlying t = some (.slice e)
  info : ∃ i z, P.info? e = some i ∧ i.zero = some z ∧ i.size = 1 ∧ i.bytes = bytes ∧ z.cells.size = 1
  small : bytes ≤ 8

theorem Cx.appended (h : Cx w0 w base gc tc vc rs oth) {k n c m c' : Nat} {e : TypeId} {A A' : Option Addr} {xs news : List Value} (hr : rs[k]? = some ⟨e, A, n, c, xs⟩)
    (ho : w'.ownsRow base e 1 (.slice A' (n + m) c') (n + m) (xs ++ news)) (hg : w.grownBy w' (Value.slice A n c).ownBlock)
    (hx : (Value.slice A' (n + m) c').ownBlock = (Value.slice A n c).ownBlock ∨ (Value.slice A' (n + m) c').ownBlock = some w.heap.size) :
    Cx w0 w' base gc tc vc (rs.set k ⟨e, A', n + m, c', xs ++ news⟩) oth := by
  have hown : w.ownsRow base e 1 (.slice A n c) n xs := h.held.own k _ hr
  have hmem := List.mem_of_getElem? hr
  have hts : ∀ r ∈ rs.set k ⟨e, A', n + m, c', xs ++ news⟩, ∀ t, (∀ s ∈ rs, s.t ≠ t) → r.t ≠ t := by
    intro r hr' t ht
    rcases List.mem_or_eq_of_mem_set hr' with hr' | rfl
    · exact ht r hr'
    · have h1 := ht _ hmem
      exact h1
  exact ⟨h.kc.grownO hg hown (h.tne _ hmem), Held.app (r := ⟨e, A, n, c, xs⟩) h.held hr ho hg hx,
    fun o ho' => ⟨(h.oth o ho').1.grownO hg hown ((h.oth o ho').2.2 _ hmem), (h.oth o ho').2.1, fun r hr' => hts r hr' _ (h.oth o ho').2.2⟩,
    fun r hr' => hts r hr' _ h.tne, ⟨h.bas.1, Nat.le_trans h.bas.2 hg.size⟩, below_grown h.bel hg hown (Nat.le_refl _) h.bas.2⟩
end

/-- append of one value to a row. -/
theorem wp_app {P : Program} {ops : Array Oper} {rest : List Oper} {o : Oper} {a : Act} {Q : Exit → Act → World → Prop} {w0 W : World} {base gc : Nat} {tc : TypeId} {vc : Array Value} {rs : List Rw} {oth : List (Nat × TypeId × Array Value)}
    (C : Cx w0 W base gc tc vc rs oth) (hgd : o.guard = none) (s x : Operand) (t e : TypeId) (bytes : Nat)
    (ho : o.op = .call { callee := .builtin .append, args := #[s, x], argTypes := #[t, t] }) (E : OneCell P t e bytes)
    (k n c : Nat) (A : Option Addr) (xs : List Value) (v : Value) (hr : rs[k]? = some ⟨e, A, n, c, xs⟩) (hs : a.eval s = .slice A n c) {g : Nat} (hx : a.eval x = .slice (some ⟨g, 0, none⟩) 1 1) (hv : v.oneCell' = true)
    (hn : n ≤ 1000000000) (hg : W.heap.size = g) (h : ∀ A' c' w', Hid (Cx w0 w' base gc tc vc (rs.set k ⟨e, A', n + 1, c', xs ++ [v]⟩) oth) → wpList P ops Q rest (a.put o.dst (.slice A' (n + 1) c')) w') :
    wpList P ops Q (o :: rest) a (W.alloc (.cells #[v] e)) := by
  subst hg
  obtain ⟨i, z, hi, hz, h1, h2, h3⟩ := E.info
  have C1 := C.alloc (.cells #[v] e)
  have hB : Blk (W.alloc (.cells #[v] e)) W.heap.size e #[v] := Blk.new rfl
  refine wpList_append_row _ hgd s x t ho base e i z 1 bytes E.und hi hz h1 h2 h3 (by omega) A n c xs hs (C1.held.own k _ hr) (some ⟨W.heap.size, 0, none⟩) 1 1 [v] hx rfl ?_ ?_ ?_ ?_ C1.bas.2 ?_
  · intro _
    refine ⟨_, rfl, fun j u hu => ?_⟩
    rw [addr_add, Nat.zero_add]
    exact (hB.cell j).trans (by simpa using hu)
  · intro u hu
    simp only [List.mem_singleton] at hu
    rw [hu]; exact hv
  · unfold maxLen; omega
  · have := E.small
    have h4 := Nat.mul_le_mul (show n + 1 ≤ 1000000001 by omega) this
    omega
  · intro A' c' w' ho' hg hxx
    exact h A' c' w' (Lib.hid (C1.appended hr ho'.out hg hxx.out))

theorem one_int : OneCell Try.prog 27 3 8 := ⟨Try.underlying27, by
  have h := int_info
  obtain ⟨i, hi, h2⟩ := Option.map_eq_some_iff.1 h
  simp only [Prod.mk.injEq] at h2
  exact ⟨i, _, hi, h2.1, h2.2.1, h2.2.2, rfl⟩, by omega⟩
theorem one_long : OneCell Try.prog 26 2 8 := ⟨Try.underlying26, by
  have h := long_info
  obtain ⟨i, hi, h2⟩ := Option.map_eq_some_iff.1 h
  simp only [Prod.mk.injEq] at h2
  exact ⟨i, _, hi, h2.1, h2.2.1, h2.2.2, rfl⟩, by omega⟩
theorem one_bool : OneCell Try.prog 30 4 1 := ⟨Try.underlying30, by
  have h := bool_info
  obtain ⟨i, hi, h2⟩ := Option.map_eq_some_iff.1 h
  simp only [Prod.mk.injEq] at h2
  exact ⟨i, _, hi, h2.1, h2.2.1, h2.2.2, rfl⟩, by omega⟩

end Go.Proofs.Ytgjokddcaadjdaa
