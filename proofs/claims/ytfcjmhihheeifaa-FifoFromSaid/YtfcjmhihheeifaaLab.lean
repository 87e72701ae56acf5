/- Layer 5: the search; To, From. Rows of a call's own, no struct beside them. Layer 5: To, From. Layer 6: heights: plain facts; what the program's calls answer. Layer 6: heights: chosen of numbers, Right, fit. slices.IndexFunc, ContainsFunc: nobody is so. -/
import Derived.Test.YtfcjmhihheeifaaFit
/-! Search -/
/-! Search -/
namespace Go.Proofs.Ytfcjmhihheeifaa
open Go.RowKit
set_option maxRecDepth 100000

section
variable {w w0 : World} {base gc g i n c : Nat} {t tc : TypeId} {rs : List Rw} {xs : List Value} {vc : Array Value} {oth : List (Nat × TypeId × Array Value)}
/-- A store into one of the rows. -/
theorem Held.put (h : Held w base rs) (hr : rs[i]? = some ⟨t, some ⟨g, 0, none⟩, n, c, xs⟩) (j : Nat) (u : Value) : Held (w.setCell ⟨g, j, none⟩ u) base (rs.set i ⟨t, some ⟨g, 0, none⟩, n, c, xs.set j u⟩) := by
  have hi := (List.getElem?_eq_some_iff.1 hr).1
  have hown : w.ownsRow base t 1 (.slice (some ⟨g, 0, none⟩) n c) n xs := h.own i _ hr
  obtain ⟨ho, hg⟩ := hown.stored j u
  refine ⟨fun k s hs => ?_, fun k l s t' hkl hs ht b hb e => ?_⟩
  · by_cases hk : k = i
    · subst hk
      rw [List.getElem?_set_self hi] at hs
      injection hs with hs
      subst hs
      exact ho
    · rw [List.getElem?_set_ne (fun e => hk e.symm)] at hs
      refine (h.own k s hs).kept hg ?_
      cases hb : s.v.ownBlock with
      | none => exact .inl rfl
      | some b =>
        refine .inr fun e => ?_
        injection e with e
        subst e
        exact h.ne i k _ s (fun e => hk e.symm) hr hs b rfl hb
  · have back : ∀ (k : Nat) (s : Rw), (rs.set i ⟨t, some ⟨g, 0, none⟩, n, c, xs.set j u⟩)[k]? = some s → ∃ s', rs[k]? = some s' ∧ s'.v.ownBlock = s.v.ownBlock := by
      intro k s hs
      by_cases hk : k = i
      · subst hk
        rw [List.getElem?_set_self hi] at hs
        injection hs with hs
        subst hs
        exact ⟨_, hr, rfl⟩
      · rw [List.getElem?_set_ne (fun e => hk e.symm)] at hs
        exact ⟨s, hs, rfl⟩
    obtain ⟨s1, h1, e1⟩ := back k s hs
    obtain ⟨s2, h2, e2⟩ := back l t' ht
    exact h.ne k l s1 s2 hkl h1 h2 b (e1.trans hb) (e2.trans e)
theorem Cx.put (h : Cx w0 w base gc tc vc rs oth) (hr : rs[i]? = some ⟨t, some ⟨g, 0, none⟩, n, c, xs⟩) (j : Nat) (u : Value) : Cx w0 (w.setCell ⟨g, j, none⟩ u) base gc tc vc (rs.set i ⟨t, some ⟨g, 0, none⟩, n, c, xs.set j u⟩) oth := by
  have hown : w.ownsRow base t 1 (.slice (some ⟨g, 0, none⟩) n c) n xs := h.held.own i _ hr
  have hmem := List.mem_of_getElem? hr
  have hne : ∀ {b : Nat} {t' : TypeId} {cs : Array Value}, Blk w b t' cs → t ≠ t' → b ≠ g := fun hb ht e => own_ne hown hb ht g rfl e.symm
  have hts : ∀ r ∈ rs.set i ⟨t, some ⟨g, 0, none⟩, n, c, xs.set j u⟩, ∀ t', (∀ s ∈ rs, s.t ≠ t') → r.t ≠ t' := by
    intro r hr' t' ht
    rcases List.mem_or_eq_of_mem_set hr' with hr' | rfl
    · exact ht r hr'
    · have h1 := ht _ hmem
      exact h1
  have hbg := (hown.lt g rfl).1
  exact ⟨h.kc.far (hne h.kc (h.tne _ hmem)) u, h.held.put hr j u, fun o ho => ⟨(h.oth o ho).1.far (hne (h.oth o ho).1 ((h.oth o ho).2.2 _ hmem)) u, (h.oth o ho).2.1, fun r hr' => hts r hr' _ (h.oth o ho).2.2⟩,
    fun r hr' => hts r hr' _ h.tne, ⟨h.bas.1, by simpa using h.bas.2⟩, h.bel.setCell hbg u⟩
/-- Memory that others make leaves all as it is. -/
theorem Cx.on (h : Cx w0 w base gc tc vc rs oth) {w' : World} (hb : Below w.heap.size w w') : Cx w0 w' base gc tc vc rs oth :=
  ⟨h.kc.below hb h.kc.lt, h.held.grown (row := none) ⟨hb.os, hb.tape, hb.output, hb.size, fun k hk _ => hb.block k hk⟩ (fun g e => by cases e), fun o ho => ⟨(h.oth o ho).1.below hb (h.oth o ho).1.lt, (h.oth o ho).2⟩,
    h.tne, ⟨h.bas.1, Nat.le_trans h.bas.2 hb.size⟩, h.bel.trans (hb.mono h.bas.2)⟩
theorem Cx.rcell {j : Nat} {u : Value} (h : Cx w0 w base gc tc vc rs oth) (hr : rs[i]? = some ⟨t, some ⟨g, 0, none⟩, n, c, xs⟩) (hj : j < n) (hu : xs[j]? = some u) : w.cell? ⟨g, j, none⟩ = some u ∧ w.frozen? ⟨g, j, none⟩ = false ∧ g < w.heap.size ∧ base ≤ g := by
  have hown : w.ownsRow base t 1 (.slice (some ⟨g, 0, none⟩) n c) n xs := h.held.own i _ hr
  exact ⟨(hown.cellAt j (by omega)).trans hu, hown.frozenAt j, (hown.lt g rfl).2, (hown.lt g rfl).1⟩
end

theorem Held.two {w : World} {base : Nat} {r s : Rw} (h1 : w.ownsRow base r.t 1 r.v r.n r.xs) (h2 : w.ownsRow base s.t 1 s.v s.n s.xs) (hne : ∀ g, r.v.ownBlock = some g → s.v.ownBlock ≠ some g) : Held w base [r, s] := by
  refine ⟨fun i x hx => ?_, fun i j x y hij hx hy g hg e => ?_⟩
  · match i, hx with
    | 0, hx => simp at hx; subst hx; exact h1
    | 1, hx => simp at hx; subst hx; exact h2
    | i + 2, hx => simp at hx
  · match i, j, hx, hy with
    | 0, 0, _, _ => exact hij rfl
    | 0, 1, hx, hy => simp at hx hy; subst hx; subst hy; exact hne g hg e
    | 1, 0, hx, hy => simp at hx hy; subst hx; subst hy; exact hne g e hg
    | 1, 1, _, _ => exact hij rfl
    | i + 2, _, hx, _ => simp at hx
    | 0, j + 2, _, hy => simp at hy
    | 1, j + 2, _, hy => simp at hy

/-- Numbers of vertices in memory. -/
abbrev nvs (xs : List Nat) : List Value := xs.map fun v : Nat => Value.int .i64 (v : Int)
abbrev fvs (N : Nat) (f : Nat → Nat) : List Value := nvs (tab N f)
theorem fvs_at {N v : Nat} {f : Nat → Nat} (h : v < N) : (fvs N f)[v]? = some (.int .i64 (f v : Int)) := by
  unfold fvs nvs
  rw [List.getElem?_map, tab_at h]
  rfl
theorem fvs_set {N : Nat} {f : Nat → Nat} (v x : Nat) : (fvs N f).set v (.int .i64 (x : Int)) = fvs N (nupd f v x) := by
  unfold fvs nvs
  rw [← List.map_set, tab_set]
  rfl
theorem nvs_ints {n : Nat} {f : Nat → Nat} : (nvs (tab n f)) = (tab n fun v => (f v : Int)).map (Value.int .i64) := by
  simp [nvs, tab]

/-- Distances in new memory are answered. -/
def RetDist (R : Nat → Nat → Prop) (N t : Nat) (w : World) (e : Ending) (w' : World) : Prop :=
  ∃ (g : Nat) (d : Nat → Nat), e = .returned (.slice (some ⟨g, 0, none⟩) N N) ∧ Ints w' w'.heap.size (some ⟨g, 0, none⟩) N (tab N fun v => (d v : Int)) ∧ IsDist R N t d ∧ w.heap.size ≤ g ∧ Below w.heap.size w w'


end Go.Proofs.Ytfcjmhihheeifaa

/-! Hx -/
namespace Go.Proofs.Ytfcjmhihheeifaa
open Go.RowKit

/-- These rows are the call's own; nothing below base was touched since w0. -/
structure Hx (w0 w : World) (base : Nat) (rs : List Rw) : Prop where
  held : Held w base rs
  bas : base ≤ w.heap.size
  bel : Below base w0 w
section
variable {w w' w0 W : World} {base g n c i : Nat} {rs : List Rw} {t : TypeId} {xs : List Value}
theorem Hx.start (h : w.heap.size = base) : Hx w w base [] := ⟨⟨fun i r hi => by simp at hi, fun i j r s _ hi => by simp at hi⟩, by omega, Below.refl _ _⟩
theorem Hx.alloc (h : Hx w0 w base rs) (o : Obj) : Hx w0 (w.alloc o) base rs := ⟨h.held.alloc o, by simp; have := h.bas; omega, h.bel.alloc h.bas o⟩
theorem Hx.on (h : Hx w0 w base rs) (hb : Below w.heap.size w w') : Hx w0 w' base rs :=
  ⟨h.held.grown (row := none) ⟨hb.os, hb.tape, hb.output, hb.size, fun k hk _ => hb.block k hk⟩ (fun g e => by cases e), Nat.le_trans h.bas hb.size, h.bel.trans (hb.mono h.bas)⟩
theorem Hx.drew (h : Hx w0 w base rs) (n : Nat) : Hx w0 (w.drewN n) base rs := h.on (below_drewN' (Below.refl _ _) n)
theorem Hx.put (h : Hx w0 w base rs) (hr : rs[i]? = some ⟨t, some ⟨g, 0, none⟩, n, c, xs⟩) (j : Nat) (u : Value) : Hx w0 (w.setCell ⟨g, j, none⟩ u) base (rs.set i ⟨t, some ⟨g, 0, none⟩, n, c, xs.set j u⟩) := by
  have hown : w.ownsRow base t 1 (.slice (some ⟨g, 0, none⟩) n c) n xs := h.held.own i _ hr
  exact ⟨h.held.put hr j u, by simpa using h.bas, h.bel.setCell (hown.lt g rfl).1 u⟩
theorem Hx.cell {j : Nat} {u : Value} (h : Hx w0 w base rs) (hr : rs[i]? = some ⟨t, some ⟨g, 0, none⟩, n, c, xs⟩) (hj : j < n) (hu : xs[j]? = some u) : w.cell? ⟨g, j, none⟩ = some u ∧ w.frozen? ⟨g, j, none⟩ = false ∧ g < w.heap.size ∧ base ≤ g := by
  have hown : w.ownsRow base t 1 (.slice (some ⟨g, 0, none⟩) n c) n xs := h.held.own i _ hr
  exact ⟨(hown.cellAt j (by omega)).trans hu, hown.frozenAt j, (hown.lt g rfl).2, (hown.lt g rfl).1⟩
/-- A row of none more. -/
theorem Hx.nil (h : Hx w0 w base rs) (t : TypeId) : Hx w0 w base (rs ++ [⟨t, none, 0, 0, []⟩]) := by
  have key : ∀ (k : Nat) (r : Rw), (rs ++ [(⟨t, none, 0, 0, []⟩ : Rw)])[k]? = some r → rs[k]? = some r ∨ (r = ⟨t, none, 0, 0, []⟩ ∧ k = rs.length) := by
    intro k r hk
    by_cases hl : k < rs.length
    · rw [List.getElem?_append_left hl] at hk
      exact .inl hk
    · have h2 := (List.getElem?_eq_some_iff.1 hk).1
      simp at h2
      have e : k = rs.length := by omega
      subst e
      simp at hk
      exact .inr ⟨hk.symm, rfl⟩
  refine ⟨⟨fun k r hk => ?_, fun k l r s hkl hk hl g hg e => ?_⟩, h.bas, h.bel⟩
  · rcases key k r hk with hk | ⟨rfl, _⟩
    · exact h.held.own k r hk
    · exact World.ownsRow_nil _ _ _ _
  · rcases key k r hk with hk | ⟨rfl, ek⟩
    · rcases key l s hl with hl | ⟨rfl, _⟩
      · exact h.held.ne k l r s hkl hk hl g hg e
      · cases e
    · cases hg
end

/-- The program's elements of one cell. -/
structure OneWide (P : Program) (t e : TypeId) (bytes : Nat) : Prop where
  und : P.underlying t = some (.slice e)
  info : ∃ i z, P.info? e = some i ∧ i.zero = some z ∧ i.size = 1 ∧ i.bytes = bytes ∧ z.cells.size = 1
  small : bytes ≤ 24
theorem OneCell.wide {P : Program} {t e : TypeId} {bytes : Nat} (h : OneCell P t e bytes) : OneWide P t e bytes := ⟨h.und, h.info, by have := h.small; omega⟩
theorem slice_info : (Try.prog.info? 43).map (fun i => (i.zero, i.size, i.bytes)) = some (some (.slice none 0 0), 1, 24) := by kernel_rfl

/-- append of one value to a row. -/
theorem wp_appH {P : Program} {ops : Array Oper} {rest : List Oper} {o : Oper} {a : Act} {Q : Exit → Act → World → Prop} {w0 W : World} {base : Nat} {rs : List Rw}
    (C : Hx w0 W base rs) (hgd : o.guard = none) (s x : Operand) (t e : TypeId) (bytes : Nat)
    (ho : o.op = .call { callee := .builtin .append, args := #[s, x], argTypes := #[t, t] }) (E : OneWide P t e bytes)
    (k n c : Nat) (A : Option Addr) (xs : List Value) (v : Value) (hr : rs[k]? = some ⟨e, A, n, c, xs⟩) (hs : a.eval s = .slice A n c) {g : Nat} (hx : a.eval x = .slice (some ⟨g, 0, none⟩) 1 1) (hv : v.oneCell' = true)
    (hn : n ≤ 1000000000) (hg : W.heap.size = g) (h : ∀ A' c' w', Hid (Hx w0 w' base (rs.set k ⟨e, A', n + 1, c', xs ++ [v]⟩)) → Hid (∀ b t' cs, Blk W b t' cs → t' ≠ e → Blk w' b t' cs) → wpList P ops Q rest (a.put o.dst (.slice A' (n + 1) c')) w') :
    wpList P ops Q (o :: rest) a (W.alloc (.cells #[v] e)) := by
  subst hg
  obtain ⟨i, z, hi, hz, h1, h2, h3⟩ := E.info
  have C1 := C.alloc (.cells #[v] e)
  have hB : Blk (W.alloc (.cells #[v] e)) W.heap.size e #[v] := Blk.new rfl
  have hown : (W.alloc (.cells #[v] e)).ownsRow base e 1 (.slice A n c) n xs := C1.held.own k _ hr
  refine wpList_append_row _ hgd s x t ho base e i z 1 bytes E.und hi hz h1 h2 h3 (by omega) A n c xs hs hown (some ⟨W.heap.size, 0, none⟩) 1 1 [v] hx rfl ?_ ?_ ?_ ?_ C1.bas ?_
  · intro _
    refine ⟨_, rfl, fun j u hu => ?_⟩
    rw [addr_add, Nat.zero_add]
    exact (hB.cell j).trans (by simpa using hu)
  · intro u hu
    simp only [List.mem_singleton] at hu
    rw [hu]; exact hv
  · unfold maxLen; omega
  · have := E.small
    have h4 := Nat.mul_le_mul (show n + 1 ≤ 1000000001 by omega) this
    omega
  · intro A' c' w' ho' hg hxx
    refine h A' c' w' (Lib.hid ⟨Held.app (r := ⟨e, A, n, c, xs⟩) C1.held hr ho'.out hg hxx.out, Nat.le_trans C1.bas hg.size, below_grown C1.bel hg hown (Nat.le_refl _) C1.bas⟩) (Lib.hid fun b t' cs hb ht => (hb.alloc _).grownO hg hown (fun e => ht e.symm))

end Go.Proofs.Ytfcjmhihheeifaa

/-! Tofrom -/
namespace Go.Proofs.Ytfcjmhihheeifaa
open Go.RowKit
set_option maxRecDepth 100000

/-- Is something left of residual arc a? -/
def opn (X : List Int) (a : Nat) : Bool := decide (0 < (X[a]?).getD 0)
theorem opn_at {X : List Int} {a : Nat} {x : Int} (h : X[a]? = some x) : opn X a = decide (0 < x) := by simp [opn, h]





end Go.Proofs.Ytfcjmhihheeifaa

/-! Lab -/
namespace Go.Proofs.Ytfcjmhihheeifaa
open Go.RowKit
set_option maxRecDepth 100000

/-! Plain facts. -/
def hOf (H : List Int) (v : Nat) : Int := (H[v]?).getD 0
theorem hOf_at {H : List Int} {v : Nat} {x : Int} (h : H[v]? = some x) : hOf H v = x := by simp [hOf, h]
theorem hOf_get {H : List Int} {v n : Nat} (hl : H.length = n) (h : v < n) : H[v]? = some (hOf H v) := by
  unfold hOf
  rw [List.getElem?_eq_getElem (by omega)]; rfl
/-- These are heights. -/
structure HtIs (N s t : Nat) (H : List Int) : Prop where
  len : H.length = N
  src : hOf H s = N
  snk : hOf H t = 0
  bnd : ∀ v, v < N → 0 ≤ hOf H v ∧ hOf H v ≤ N
open Classical in
noncomputable def htsB (N s t : Nat) (H : List Int) : Bool := decide (HtIs N s t H)
theorem htsB_yes {N s t : Nat} {H : List Int} : htsB N s t H = true ↔ HtIs N s t H := by simp [htsB]
theorem htsB_no {N s t : Nat} {H : List Int} (h : ¬ HtIs N s t H) : htsB N s t H = false := by simp [htsB, h]

def selTo (p : Nat → Bool) (k : Nat) : List Nat := (List.range k).filter p
section
variable {p q : Nat → Bool} {k a : Nat}
theorem sel_yes (h : p k = true) : selTo p (k + 1) = selTo p k ++ [k] := by simp [selTo, List.range_succ, List.filter_append, h]
theorem sel_no (h : p k = false) : selTo p (k + 1) = selTo p k := by simp [selTo, List.range_succ, List.filter_append, h]
theorem sel_len (p : Nat → Bool) (k : Nat) : (selTo p k).length ≤ k := by
  have := List.length_filter_le p (List.range k)
  simpa [selTo] using this
theorem sel_mem : a ∈ selTo p k ↔ a < k ∧ p a = true := by simp [selTo]
theorem sel_nil : selTo p k = [] ↔ ∀ a, a < k → p a = false := by
  rw [List.eq_nil_iff_forall_not_mem]
  constructor
  · intro h a ha
    cases hp : p a with
    | false => rfl
    | true => exact absurd (sel_mem.2 ⟨ha, hp⟩) (h a)
  · intro h a ha
    have := sel_mem.1 ha
    rw [h a this.1] at this
    exact absurd this.2 (by simp)
theorem sel_congr (h : ∀ a, a < k → p a = q a) : selTo p k = selTo q k := by
  unfold selTo
  apply List.filter_congr
  intro a ha
  exact h a (by simpa using ha)
theorem sel_nodup : (selTo p k).Nodup := List.nodup_range.filter _
end
/-- Is residual arc a open, not of s, and leads down as asked? -/
def slp (s : Nat) (hd rv : Nat → Nat) (X H : List Int) (q : Int → Bool) (a : Nat) : Bool := opn X a && decide (hd (rv a) ≠ s) && q (hOf H (hd (rv a)) - hOf H (hd a))
theorem slp_iff {s : Nat} {hd rv : Nat → Nat} {X H : List Int} {q : Int → Bool} {a : Nat} : slp s hd rv X H q a = true ↔ opn X a = true ∧ hd (rv a) ≠ s ∧ q (hOf H (hd (rv a)) - hOf H (hd a)) = true := by
  simp [slp, and_assoc]
/-- The steep ones, or the flat ones; none if the numbers do not fit, or the heights are not right. -/
noncomputable def slps (N M s t nX : Nat) (hd rv : Nat → Nat) (X H : List Int) (q : Int → Bool) : List Nat := if nX = M ∧ htsB N s t H = true then selTo (slp s hd rv X H q) M else []
def qSteep (x : Int) : Bool := decide (1 < x)
def qFlat (x : Int) : Bool := decide (x = 1)
theorem slps_len {N M s t nX : Nat} {hd rv : Nat → Nat} {X H : List Int} {q : Int → Bool} : (slps N M s t nX hd rv X H q).length ≤ M := by
  unfold slps
  split
  · exact sel_len _ _
  · simp
/-- The lowest open end of u: the first one. -/
structure LowIs (fst hd : Nat → Nat) (X H : List Int) (u a : Nat) : Prop where
  r1 : fst u ≤ a
  r2 : a < fst (u + 1)
  op : opn X a = true
  le : ∀ b, fst u ≤ b → b < fst (u + 1) → opn X b = true → hOf H (hd a) ≤ hOf H (hd b)
  lt : ∀ b, fst u ≤ b → b < a → opn X b = true → hOf H (hd a) < hOf H (hd b)
def LowAns (N M s t nX : Nat) (fst hd : Nat → Nat) (X H : List Int) (u : Int) (a x : Int) (ok : Bool) : Prop :=
  (ok = true ∧ nX = M ∧ HtIs N s t H ∧ ∃ v b : Nat, u = v ∧ v < N ∧ a = b ∧ LowIs fst hd X H v b ∧ x = hOf H (hd b)) ∨
  (ok = false ∧ a = 0 ∧ x = 0 ∧ ¬ (nX = M ∧ HtIs N s t H ∧ ∃ v b : Nat, u = v ∧ v < N ∧ fst v ≤ b ∧ b < fst (v + 1) ∧ opn X b = true))
theorem LowIs.same {fst hd : Nat → Nat} {X H : List Int} {u a b : Nat} (h : LowIs fst hd X H u a) (h' : LowIs fst hd X H u b) : a = b := by
  rcases Nat.lt_trichotomy a b with hl | hl | hl
  · have h1 := h'.lt a h.r1 hl h.op
    have h2 := h.le b h'.r1 h'.r2 h'.op
    omega
  · exact hl
  · have h1 := h.lt b h'.r1 hl h'.op
    have h2 := h'.le a h.r1 h.r2 h.op
    omega
theorem LowAns.same {N M s t nX : Nat} {fst hd : Nat → Nat} {X H : List Int} {u a x a' x' : Int} {ok ok' : Bool} (h : LowAns N M s t nX fst hd X H u a x ok) (h' : LowAns N M s t nX fst hd X H u a' x' ok') : a = a' ∧ x = x' ∧ ok = ok' := by
  rcases h with ⟨e1, h1, h2, v, b, rfl, h3, rfl, h4, rfl⟩ | ⟨e1, rfl, rfl, h1⟩
  · rcases h' with ⟨e2, g1, g2, v', b', hv, g3, rfl, g4, rfl⟩ | ⟨e2, rfl, rfl, g1⟩
    · have : v = v' := by omega
      subst this
      have := h4.same g4
      subst this
      exact ⟨rfl, rfl, e1.trans e2.symm⟩
    · exact absurd ⟨h1, h2, v, b, rfl, h3, h4.r1, h4.r2, h4.op⟩ g1
  · rcases h' with ⟨e2, g1, g2, v', b', rfl, g3, rfl, g4, rfl⟩ | ⟨e2, rfl, rfl, g1⟩
    · exact absurd ⟨g1, g2, v', b', rfl, g3, g4.r1, g4.r2, g4.op⟩ h1
    · exact ⟨rfl, rfl, e1.trans e2.symm⟩

/-! Answers in memory. -/
/-- These numbers are answered, in a row of the call's own. -/
def RetSel (L : List Nat) (w : World) (e : Ending) (w' : World) : Prop :=
  ∃ (A : Option Addr) (c : Nat), e = .returned (.slice A L.length c) ∧ w'.ownsRow w.heap.size 3 1 (.slice A L.length c) L.length (nvs L) ∧ Below w.heap.size w w'
theorem own_nums {w : World} {base c : Nat} {A : Option Addr} {L : List Nat} (h : w.ownsRow base 3 1 (.slice A L.length c) L.length (nvs L)) : Ints w w.heap.size A L.length (L.map fun v : Nat => (v : Int)) :=
  RdBy.of_own (by simp) (int_len _) (by rw [← ivs_flat, List.map_map]; exact h)


end Go.Proofs.Ytfcjmhihheeifaa

/-! Labc -/
namespace Go.Proofs.Ytfcjmhihheeifaa
open Go.RowKit
set_option maxRecDepth 100000





end Go.Proofs.Ytfcjmhihheeifaa

/-! Conf -/
namespace Go.Proofs.Ytfcjmhihheeifaa
open Go.RowKit
set_option maxRecDepth 100000

set_option maxHeartbeats 4000000 in
theorem lidxf_none (fn : Nat) (caps : Array Value) (A : Option Addr) (n c : Nat) (H : List Int) (w : World) (hA : Ints w w.heap.size A n H) (hn : n ≤ 100000000)
    (hcl : ∀ (k : Nat) (x : Int) (W : World), H[k]? = some x → Below w.heap.size w W → Calls Try.prog fn (#[.int .i64 x] ++ caps) W fun e w' => e = .returned (.bool false) ∧ Below W.heap.size W w')
    (hcf : ∀ (xs : Array Value) (W : World), (callFunc fn xs).run Try.prog W = .ok (.enter fn xs) W) :
    Calls Try.prog 114 #[.slice A n c, .func (.func fn) #[] caps] w fun e w' => e = .returned (.int .i64 (-1)) ∧ Below w.heap.size w w' := by
  have HA := Lib.hid hA; have HCL := Lib.hid hcl
  clear hA hcl
  go_enter Try.func114, Try.ntmps114
  go_wp2_with fail
  go_loopw [5, 8] (fun _ i wr => ∃ k : Nat, k ≤ n ∧ i = .int .i64 k ∧ Below w.heap.size w wr) (fun _ i _ => n - (intOf i).toNat)
  case atStart => exact ⟨0, Nat.zero_le _, rfl, Below.refl _ _⟩
  case round =>
    obtain ⟨k, hk, rfl, Bw⟩ := hrel
    by_cases hlt : k < n
    · obtain ⟨b, off, x, hAe, hb, hx, cx⟩ := intl_at (HA.out.below Bw) hlt
      subst hAe
      have HX := Lib.hid hx
      have hzw := Bw.size
      clear hx
      go_wp2_with fail
      refine (HCL.out k x _ HX.out Bw).mono ?_
      rintro e w2 ⟨rfl, B2⟩
      have HB2 := Lib.hid (Bw.trans (B2.mono Bw.size))
      clear Bw B2 cx hzw hb
      go_wp2_with fail
      go_roundw
      case rel => exact ⟨k + 1, by omega, by go_num, HB2.out⟩
      case measure => simp [intOf]; omega
    · go_wp2_with fail
      go_ret
      exact ⟨rfl, Bw⟩

set_option maxHeartbeats 1000000 in
theorem lconf_none (fn : Nat) (caps : Array Value) (A : Option Addr) (n c : Nat) (H : List Int) (w : World) (hA : Ints w w.heap.size A n H) (hn : n ≤ 100000000)
    (hcl : ∀ (k : Nat) (x : Int) (W : World), H[k]? = some x → Below w.heap.size w W → Calls Try.prog fn (#[.int .i64 x] ++ caps) W fun e w' => e = .returned (.bool false) ∧ Below W.heap.size W w')
    (hcf : ∀ (xs : Array Value) (W : World), (callFunc fn xs).run Try.prog W = .ok (.enter fn xs) W) :
    Calls Try.prog 107 #[.slice A n c, .func (.func fn) #[] caps] w fun e w' => e = .returned (.bool false) ∧ Below w.heap.size w w' := by
  have HA := Lib.hid hA; have HCL := Lib.hid hcl; have HCF := Lib.hid hcf
  clear hA hcl hcf
  go_enter Try.func107, Try.ntmps107
  go_wp2_with fail
  refine (lidxf_none fn caps A n c H _ HA.out hn HCL.out HCF.out).mono ?_
  rintro e w1 ⟨rfl, B1⟩
  go_wp2_with fail
  go_ret
  exact ⟨rfl, B1⟩

end Go.Proofs.Ytfcjmhihheeifaa
