/- Layer 5: the search; To, From. Rows of a call's own, no struct beside them. Layer 5: To, From. Layer 6: heights: plain facts; what the program's calls answer. Layer 6: heights: chosen of numbers, Right, fit. slices.IndexFunc, ContainsFunc: nobody is so. -/
import Derived.Test.YtanifbofjecpmaaFit
/-! Search -/
/-! Search -/
namespace Go.Proofs.Ytanifbofjecpmaa
open Go.RowKit
set_option maxRecDepth 100000

section
variable {w w0 : World} {base gc g i n c : Nat} {t tc : TypeId} {rs : List Rw} {xs : List Value} {vc : Array Value} {oth : List (Nat × TypeId × Array Value)}
/-- A store into one of the rows. -/
theorem Held.put (h : Held w base rs) (hr : rs[i]? = some ⟨t, some ⟨g, 0, none⟩, n, c, xs⟩) (j : Nat) (u : Value) : Held (w.setCell ⟨g, j, none⟩ u) base (rs.set i ⟨t, some ⟨g, 0, none⟩, n, c, xs.set j u⟩) := by
  have hi := (List.getElem?_eq_some_iff.1 hr).1
  have hown : w.ownsRow base t 1 (.slice (some ⟨g, 0, none⟩) n c) n xs := h.own i _ hr
  obtain ⟨ho, hg⟩ := hown.stored j u
  refine ⟨fun k s hs => ?_, fun k l s t' hkl hs ht b hb e => ?_⟩
  · by_cases hk : k = i
    · subst hk
      rw [List.getElem?_set_self hi] at hs
      injection hs with hs
      subst hs
      exact ho
    · rw [List.getElem?_set_ne (fun e => hk e.symm)] at hs
      refine (h.own k s hs).kept hg ?_
      cases hb : s.v.ownBlock with
      | none => exact .inl rfl
      | some b =>
        refine .inr fun e => ?_
        injection e with e
        subst e
        exact h.ne i k _ s (fun e => hk e.symm) hr hs b rfl hb
  · have back : ∀ (k : Nat) (s : Rw), (rs.set i ⟨t, some ⟨g, 0, none⟩, n, c, xs.set j u⟩)[k]? = some s → ∃ s', rs[k]? = some s' ∧ s'.v.ownBlock = s.v.ownBlock := by
      intro k s hs
      by_cases hk : k = i
      · subst hk
        rw [List.getElem?_set_self hi] at hs
        injection hs with hs
        subst hs
        exact ⟨_, hr, rfl⟩
      · rw [List.getElem?_set_ne (fun e => hk e.symm)] at hs
        exact ⟨s, hs, rfl⟩
    obtain ⟨s1, h1, e1⟩ := back k s hs
    obtain ⟨s2, h2, e2⟩ := back l t' ht
    exact h.ne k l s1 s2 hkl h1 h2 b (e1.trans hb) (e2.trans e)
theorem Cx.put (h : Cx w0 w base gc tc vc rs oth) (hr : rs[i]? = some ⟨t, some ⟨g, 0, none⟩, n, c, xs⟩) (j : Nat) (u : Value) : Cx w0 (w.setCell ⟨g, j, none⟩ u) base gc tc vc (rs.set i ⟨t, some ⟨g, 0, none⟩, n, c, xs.set j u⟩) oth := by
  have hown : w.ownsRow base t 1 (.slice (some ⟨g, 0, none⟩) n c) n xs := h.held.own i _ hr
  have hmem := List.mem_of_getElem? hr
  have hne : ∀ {b : Nat} {t' : TypeId} {cs : Array Value}, Blk w b t' cs → t ≠ t' → b ≠ g := fun hb ht e => own_ne hown hb ht g rfl e.symm
  have hts : ∀ r ∈ rs.set i ⟨t, some ⟨g, 0, none⟩, n, c, xs.set j u⟩, ∀ t', (∀ s ∈ rs, s.t ≠ t') → r.t ≠ t' := by
    intro r hr' t' ht
    rcases List.mem_or_eq_of_mem_set hr' with hr' | rfl
    · exact ht r hr'
    · have h1 := ht _ hmem
      exact h1
  have hbg := (hown.lt g rfl).1
  exact ⟨h.kc.far (hne h.kc (h.tne _ hmem)) u, h.held.put hr j u, fun o ho => ⟨(h.oth o ho).1.far (hne (h.oth o ho).1 ((h.oth o ho).2.2 _ hmem)) u, (h.oth o ho).2.1, fun r hr' => hts r hr' _ (h.oth o ho).2.2⟩,
    fun r hr' => hts r hr' _ h.tne, ⟨h.bas.1, by simpa using h.bas.2⟩, h.bel.setCell hbg u⟩
/-- Memory that others make leaves all as it is. -/
theorem Cx.on (h : Cx w0 w base gc tc vc rs oth) {w' : World} (hb : Below w.heap.size w w') : Cx w0 w' base gc tc vc rs oth :=
  ⟨h.kc.below hb h.kc.lt, h.held.grown (row := none) ⟨hb.os, hb.tape, hb.output, hb.size, fun k hk _ => hb.block k hk⟩ (fun g e => by cases e), fun o ho => ⟨(h.oth o ho).1.below hb (h.oth o ho).1.lt, (h.oth o ho).2⟩,
    h.tne, ⟨h.bas.1, Nat.le_trans h.bas.2 hb.size⟩, h.bel.trans (hb.mono h.bas.2)⟩
theorem Cx.rcell {j : Nat} {u : Value} (h : Cx w0 w base gc tc vc rs oth) (hr : rs[i]? = some ⟨t, some ⟨g, 0, none⟩, n, c, xs⟩) (hj : j < n) (hu : xs[j]? = some u) : w.cell? ⟨g, j, none⟩ = some u ∧ w.frozen? ⟨g, j, none⟩ = false ∧ g < w.heap.size ∧ base ≤ g := by
  have hown : w.ownsRow base t 1 (.slice (some ⟨g, 0, none⟩) n c) n xs := h.held.own i _ hr
  exact ⟨(hown.cellAt j (by omega)).trans hu, hown.frozenAt j, (hown.lt g rfl).2, (hown.lt g rfl).1⟩
end

theorem Held.two {w : World} {base : Nat} {r s : Rw} (h1 : w.ownsRow base r.t 1 r.v r.n r.xs) (h2 : w.ownsRow base s.t 1 s.v s.n s.xs) (hne : ∀ g, r.v.ownBlock = some g → s.v.ownBlock ≠ some g) : Held w base [r, s] := by
  refine ⟨fun i x hx => ?_, fun i j x y hij hx hy g hg e => ?_⟩
  · match i, hx with
    | 0, hx => simp at hx; subst hx; exact h1
    | 1, hx => simp at hx; subst hx; exact h2
    | i + 2, hx => simp at hx
  · match i, j, hx, hy with
    | 0, 0, _, _ => exact hij rfl
    | 0, 1, hx, hy => simp at hx hy; subst hx; subst hy; exact hne g hg e
    | 1, 0, hx, hy => simp at hx hy; subst hx; subst hy; exact hne g e hg
    | 1, 1, _, _ => exact hij rfl
    | i + 2, _, hx, _ => simp at hx
    | 0, j + 2, _, hy => simp at hy
    | 1, j + 2, _, hy => simp at hy

/-- Numbers of vertices in memory. -/
abbrev nvs (xs : List Nat) : List Value := xs.map fun v : Nat => Value.int .i64 (v : Int)
abbrev fvs (N : Nat) (f : Nat → Nat) : List Value := nvs (tab N f)
theorem fvs_at {N v : Nat} {f : Nat → Nat} (h : v < N) : (fvs N f)[v]? = some (.int .i64 (f v : Int)) := by
  unfold fvs nvs
  rw [List.getElem?_map, tab_at h]
  rfl
theorem fvs_set {N : Nat} {f : Nat → Nat} (v x : Nat) : (fvs N f).set v (.int .i64 (x : Int)) = fvs N (nupd f v x) := by
  unfold fvs nvs
  rw [← List.map_set, tab_set]
  rfl
theorem nvs_ints {n : Nat} {f : Nat → Nat} : (nvs (tab n f)) = (tab n fun v => (f v : Int)).map (Value.int .i64) := by
  simp [nvs, tab]

/-- Distances in new memory are answered. -/
def RetDist (R : Nat → Nat → Prop) (N t : Nat) (w : World) (e : Ending) (w' : World) : Prop :=
  ∃ (g : Nat) (d : Nat → Nat), e = .returned (.slice (some ⟨g, 0, none⟩) N N) ∧ Ints w' w'.heap.size (some ⟨g, 0, none⟩) N (tab N fun v => (d v : Int)) ∧ IsDist R N t d ∧ w.heap.size ≤ g ∧ Below w.heap.size w w'


end Go.Proofs.Ytanifbofjecpmaa

/-! Hx -/
namespace Go.Proofs.Ytanifbofjecpmaa
open Go.RowKit

/-- These rows are the call's own; nothing below base was touched since w0. -/
structure Hx (w0 w : World) (base : Nat) (rs : List Rw) : Prop where
  held : Held w base rs
  bas : base ≤ w.heap.size
  bel : Below base w0 w
section
variable {w w' w0 W : World} {base g n c i : Nat} {rs : List Rw} {t : TypeId} {xs : List Value}
theorem Hx.start (h : w.heap.size = base) : Hx w w base [] := ⟨⟨fun i r hi => by simp at hi, fun i j r s _ hi => by simp at hi⟩, by omega, Below.refl _ _⟩
theorem Hx.alloc (h : Hx w0 w base rs) (o : Obj) : Hx w0 (w.alloc o) base rs := ⟨h.held.alloc o, by simp; have := h.bas; omega, h.bel.alloc h.bas o⟩
theorem Hx.on (h : Hx w0 w base rs) (hb : Below w.heap.size w w') : Hx w0 w' base rs :=
  ⟨h.held.grown (row := none) ⟨hb.os, hb.tape, hb.output, hb.size, fun k hk _ => hb.block k hk⟩ (fun g e => by cases e), Nat.le_trans h.bas hb.size, h.bel.trans (hb.mono h.bas)⟩
theorem Hx.drew (h : Hx w0 w base rs) (n : Nat) : Hx w0 (w.drewN n) base rs := h.on (below_drewN' (Below.refl _ _) n)
theorem Hx.put (h : Hx w0 w base rs) (hr : rs[i]? = some ⟨t, some ⟨g, 0, none⟩, n, c, xs⟩) (j : Nat) (u : Value) : Hx w0 (w.setCell ⟨g, j, none⟩ u) base (rs.set i ⟨t, some ⟨g, 0, none⟩, n, c, xs.set j u⟩) := by
  have hown : w.ownsRow base t 1 (.slice (some ⟨g, 0, none⟩) n c) n xs := h.held.own i _ hr
  exact ⟨h.held.put hr j u, by simpa using h.bas, h.bel.setCell (hown.lt g rfl).1 u⟩
theorem Hx.cell {j : Nat} {u : Value} (h : Hx w0 w base rs) (hr : rs[i]? = some ⟨t, some ⟨g, 0, none⟩, n, c, xs⟩) (hj : j < n) (hu : xs[j]? = some u) : w.cell? ⟨g, j, none⟩ = some u ∧ w.frozen? ⟨g, j, none⟩ = false ∧ g < w.heap.size ∧ base ≤ g := by
  have hown : w.ownsRow base t 1 (.slice (some ⟨g, 0, none⟩) n c) n xs := h.held.own i _ hr
  exact ⟨(hown.cellAt j (by omega)).trans hu, hown.frozenAt j, (hown.lt g rfl).2, (hown.lt g rfl).1⟩
/-- A row of none more. -/
theorem Hx.nil (h : Hx w0 w base rs) (t : TypeId) : Hx w0 w base (rs ++ [⟨t, none, 0, 0, []⟩]) := by
  have key : ∀ (k : Nat) (r : Rw), (rs ++ [(⟨t, none, 0, 0, []⟩ : Rw)])[k]? = some r → rs[k]? = some r ∨ (r = ⟨t, none, 0, 0, []⟩ ∧ k = rs.length) := by
    intro k r hk
    by_cases hl : k < rs.length
    · rw [List.getElem?_append_left hl] at hk
      exact .inl hk
    · have h2 := (List.getElem?_eq_some_iff.1 hk).1
      simp at h2
      have e : k = rs.length := by omega
      subst e
      simp at hk
      exact .inr ⟨hk.symm, rfl⟩
  refine ⟨⟨fun k r hk => ?_, fun k l r s hkl hk hl g hg e => ?_⟩, h.bas, h.bel⟩
  · rcases key k r hk with hk | ⟨rfl, _⟩
    · exact h.held.own k r hk
    · exact World.ownsRow_nil _ _ _ _
  · rcases key k r hk with hk | ⟨rfl, ek⟩
    · rcases key l s hl with hl | ⟨rfl, _⟩
      · exact h.held.ne k l r s hkl hk hl g hg e
      · cases e
    · cases hg
end

/-- The program's elements of one cell. -/
structure OneWide (P : Program) (t e : TypeId) (bytes : Nat) : Prop where
  und : P.underlying t = some (.slice e)
  info : ∃ i z, P.info? e = some i ∧ i.zero = some z ∧ i.size = 1 ∧ i.bytes = bytes ∧ z.cells.size = 1
  small : bytes ≤ 24
theorem OneCell.wide {P : Program} {t e : TypeId} {bytes : Nat} (h : OneCell P t e bytes) : OneWide P t e bytes := ⟨h.und, h.info, by have := h.small; omega⟩
theorem slice_info : (Try.prog.info? 27).map (fun i => (i.zero, i.size, i.bytes)) = some (some (.slice none 0 0), 1, 24) := by kernel_rfl

/-- append of one value to a row. -/
theorem wp_appH {P : Program} {ops : Array Oper} {rest : List Oper} {o : Oper} {a : Act} {Q : Exit → Act → World → Prop} {w0 W : World} {base : Nat} {rs : List Rw}
    (C : Hx w0 W base rs) (hgd : o.guard = none) (s x : Operand) (t e : TypeId) (bytes : Nat)
    (ho : o.op = .call { callee := .builtin .append, args := #[s, x], argTypes := #[t, t] }) (E : OneWide P t e bytes)
    (k n c : Nat) (A : Option Addr) (xs : List Value) (v : Value) (hr : rs[k]? = some ⟨e, A, n, c, xs⟩) (hs : a.eval s = .slice A n c) {g : Nat} (hx : a.eval x = .slice (some ⟨g, 0, none⟩) 1 1) (hv : v.oneCell' = true)
    (hn : n ≤ 1000000000) (hg : W.heap.size = g) (h : ∀ A' c' w', Hid (Hx w0 w' base (rs.set k ⟨e, A', n + 1, c', xs ++ [v]⟩)) → Hid (∀ b t' cs, Blk W b t' cs → t' ≠ e → Blk w' b t' cs) → wpList P ops Q rest (a.put o.dst (.slice A' (n + 1) c')) w') :
    wpList P ops Q (o :: rest) a (W.alloc (.cells #[v] e)) := by
  subst hg
  obtain ⟨i, z, hi, hz, h1, h2, h3⟩ := E.info
  have C1 := C.alloc (.cells #[v] e)
  have hB : Blk (W.alloc (.cells #[v] e)) W.heap.size e #[v] := Blk.new rfl
  have hown : (W.alloc (.cells #[v] e)).ownsRow base e 1 (.slice A n c) n xs := C1.held.own k _ hr
  refine wpList_append_row _ hgd s x t ho base e i z 1 bytes E.und hi hz h1 h2 h3 (by omega) A n c xs hs hown (some ⟨W.heap.size, 0, none⟩) 1 1 [v] hx rfl ?_ ?_ ?_ ?_ C1.bas ?_
  · intro _
    refine ⟨_, rfl, fun j u hu => ?_⟩
    rw [addr_add, Nat.zero_add]
    exact (hB.cell j).trans (by simpa using hu)
  · intro u hu
    simp only [List.mem_singleton] at hu
    rw [hu]; exact hv
  · unfold maxLen; omega
  · have := E.small
    have h4 := Nat.mul_le_mul (show n + 1 ≤ 1000000001 by omega) this
    omega
  · intro A' c' w' ho' hg hxx
    refine h A' c' w' (Lib.hid ⟨Held.app (r := ⟨e, A, n, c, xs⟩) C1.held hr ho'.out hg hxx.out, Nat.le_trans C1.bas hg.size, below_grown C1.bel hg hown (Nat.le_refl _) C1.bas⟩) (Lib.hid fun b t' cs hb ht => (hb.alloc _).grownO hg hown (fun e => ht e.symm))

end Go.Proofs.Ytanifbofjecpmaa

/-! Tofrom -/
namespace Go.Proofs.Ytanifbofjecpmaa
open Go.RowKit
set_option maxRecDepth 100000

/-- Is something left of residual arc a? -/
def opn (X : List Int) (a : Nat) : Bool := decide (0 < (X[a]?).getD 0)
theorem opn_at {X : List Int} {a : Nat} {x : Int} (h : X[a]? = some x) : opn X a = decide (0 < x) := by simp [opn, h]





end Go.Proofs.Ytanifbofjecpmaa

/-! Lab -/
namespace Go.Proofs.Ytanifbofjecpmaa
open Go.RowKit
set_option maxRecDepth 100000

/-! Plain facts. -/
def hOf (H : List Int) (v : Nat) : Int := (H[v]?).getD 0
theorem hOf_at {H : List Int} {v : Nat} {x : Int} (h : H[v]? = some x) : hOf H v = x := by simp [hOf, h]
theorem hOf_get {H : List Int} {v n : Nat} (hl : H.length = n) (h : v < n) : H[v]? = some (hOf H v) := by
  unfold hOf
  rw [List.getElem?_eq_getElem (by omega)]; rfl
/-- These are heights. -/
structure HtIs (N s t : Nat) (H : List Int) : Prop where
  len : H.length = N
  src : hOf H s = N
  snk : hOf H t = 0
  bnd : ∀ v, v < N → 0 ≤ hOf H v ∧ hOf H v ≤ N
open Classical in
noncomputable def htsB (N s t : Nat) (H : List Int) : Bool := decide (HtIs N s t H)
theorem htsB_yes {N s t : Nat} {H : List Int} : htsB N s t H = true ↔ HtIs N s t H := by simp [htsB]
theorem htsB_no {N s t : Nat} {H : List Int} (h : ¬ HtIs N s t H) : htsB N s t H = false := by simp [htsB, h]

def selTo (p : Nat → Bool) (k : Nat) : List Nat := (List.range k).filter p
section
variable {p q : Nat → Bool} {k a : Nat}
theorem sel_yes (h : p k = true) : selTo p (k + 1) = selTo p k ++ [k] := by simp [selTo, List.range_succ, List.filter_append, h]
theorem sel_no (h : p k = false) : selTo p (k + 1) = selTo p k := by simp [selTo, List.range_succ, List.filter_append, h]
theorem sel_len (p : Nat → Bool) (k : Nat) : (selTo p k).length ≤ k := by
  have := List.length_filter_le p (List.range k)
  simpa [selTo] using this
theorem sel_mem : a ∈ selTo p k ↔ a < k ∧ p a = true := by simp [selTo]
theorem sel_nil : selTo p k = [] ↔ ∀ a, a < k → p a = false := by
  rw [List.eq_nil_iff_forall_not_mem]
  constructor
  · intro h a ha
    cases hp : p a with
    | false => rfl
    | true => exact absurd (sel_mem.2 ⟨ha, hp⟩) (h a)
  · intro h a ha
    have := sel_mem.1 ha
    rw [h a this.1] at this
    exact absurd this.2 (by simp)
theorem sel_congr (h : ∀ a, a < k → p a = q a) : selTo p k = selTo q k := by
  unfold selTo
  apply List.filter_congr
  intro a ha
  exact h a (by simpa using ha)
theorem sel_nodup : (selTo p k).Nodup := List.nodup_range.filter _
end
/-- Is residual arc a open, not of s, and leads down as asked? -/
def slp (s : Nat) (hd rv : Nat → Nat) (X H : List Int) (q : Int → Bool) (a : Nat) : Bool := opn X a && decide (hd (rv a) ≠ s) && q (hOf H (hd (rv a)) - hOf H (hd a))
theorem slp_iff {s : Nat} {hd rv : Nat → Nat} {X H : List Int} {q : Int → Bool} {a : Nat} : slp s hd rv X H q a = true ↔ opn X a = true ∧ hd (rv a) ≠ s ∧ q (hOf H (hd (rv a)) - hOf H (hd a)) = true := by
  simp [slp, and_assoc]
/-- The steep ones, or the flat ones; none if the numbers do not fit, or the heights are not right. -/
noncomputable def slps (N M s t nX : Nat) (hd rv : Nat → Nat) (X H : List Int) (q : Int → Bool) : List Nat := if nX = M ∧ htsB N s t H = true then selTo (slp s hd rv X H q) M else []
def qSteep (x : Int) : Bool := decide (1 < x)
def qFlat (x : Int) : Bool := decide (x = 1)
theorem slps_len {N M s t nX : Nat} {hd rv : Nat → Nat} {X H : List Int} {q : Int → Bool} : (slps N M s t nX hd rv X H q).length ≤ M := by
  unfold slps
  split
  · exact sel_len _ _
  · simp
/-- The lowest open end of u: the first one. -/
structure LowIs (fst hd : Nat → Nat) (X H : List Int) (u a : Nat) : Prop where
  r1 : fst u ≤ a
  r2 : a < fst (u + 1)
  op : opn X a = true
  le : ∀ b, fst u ≤ b → b < fst (u + 1) → opn X b = true → hOf H (hd a) ≤ hOf H (hd b)
  lt : ∀ b, fst u ≤ b → b < a → opn X b = true → hOf H (hd a) < hOf H (hd b)
def LowAns (N M s t nX : Nat) (fst hd : Nat → Nat) (X H : List Int) (u : Int) (a x : Int) (ok : Bool) : Prop :=
  (ok = true ∧ nX = M ∧ HtIs N s t H ∧ ∃ v b : Nat, u = v ∧ v < N ∧ a = b ∧ LowIs fst hd X H v b ∧ x = hOf H (hd b)) ∨
  (ok = false ∧ a = 0 ∧ x = 0 ∧ ¬ (nX = M ∧ HtIs N s t H ∧ ∃ v b : Nat, u = v ∧ v < N ∧ fst v ≤ b ∧ b < fst (v + 1) ∧ opn X b = true))
theorem LowIs.same {fst hd : Nat → Nat} {X H : List Int} {u a b : Nat} (h : LowIs fst hd X H u a) (h' : LowIs fst hd X H u b) : a = b := by
  rcases Nat.lt_trichotomy a b with hl | hl | hl
  · have h1 := h'.lt a h.r1 hl h.op
    have h2 := h.le b h'.r1 h'.r2 h'.op
    omega
  · exact hl
  · have h1 := h.lt b h'.r1 hl h'.op
    have h2 := h'.le a h.r1 h.r2 h.op
    omega
theorem LowAns.same {N M s t nX : Nat} {fst hd : Nat → Nat} {X H : List Int} {u a x a' x' : Int} {ok ok' : Bool} (h : LowAns N M s t nX fst hd X H u a x ok) (h' : LowAns N M s t nX fst hd X H u a' x' ok') : a = a' ∧ x = x' ∧ ok = ok' := by
  rcases h with ⟨e1, h1, h2, v, b, rfl, h3, rfl, h4, rfl⟩ | ⟨e1, rfl, rfl, h1⟩
  · rcases h' with ⟨e2, g1, g2, v', b', hv, g3, rfl, g4, rfl⟩ | ⟨e2, rfl, rfl, g1⟩
    · have : v = v' := by omega
      subst this
      have := h4.same g4
      subst this
      exact ⟨rfl, rfl, e1.trans e2.symm⟩
    · exact absurd ⟨h1, h2, v, b, rfl, h3, h4.r1, h4.r2, h4.op⟩ g1
  · rcases h' with ⟨e2, g1, g2, v', b', rfl, g3, rfl, g4, rfl⟩ | ⟨e2, rfl, rfl, g1⟩
    · exact absurd ⟨g1, g2, v', b', rfl, g3, g4.r1, g4.r2, g4.op⟩ h1
    · exact ⟨rfl, rfl, e1.trans e2.symm⟩

/-! Answers in memory. -/
/-- These numbers are answered, in a row of the call's own. -/
def RetSel (L : List Nat) (w : World) (e : Ending) (w' : World) : Prop :=
  ∃ (A : Option Addr) (c : Nat), e = .returned (.slice A L.length c) ∧ w'.ownsRow w.heap.size 3 1 (.slice A L.length c) L.length (nvs L) ∧ Below w.heap.size w w'
theorem own_nums {w : World} {base c : Nat} {A : Option Addr} {L : List Nat} (h : w.ownsRow base 3 1 (.slice A L.length c) L.length (nvs L)) : Ints w w.heap.size A L.length (L.map fun v : Nat => (v : Int)) :=
  RdBy.of_own (by simp) (int_len _) (by rw [← ivs_flat, List.map_map]; exact h)

set_option maxHeartbeats 4000000 in
theorem choseni_is (fn : Nat) (caps : Array Value) (p : Nat → Bool) (A : Option Addr) (n c : Nat) (H : List Int) (w : World) (hA : Ints w w.heap.size A n H) (hn : n ≤ 100000000)
    (hcl : ∀ (k : Nat) (x : Int) (W : World), k < n → H[k]? = some x → Below w.heap.size w W → Calls Try.prog fn (#[.int .i64 (k : Int), .int .i64 x] ++ caps) W fun e w' => e = .returned (.bool (p k)) ∧ Below W.heap.size W w')
    (hcf : ∀ (xs : Array Value) (W : World), (callFunc fn xs).run Try.prog W = .ok (.enter fn xs) W) :
    Calls Try.prog 100 #[.slice A n c, .func (.func fn) #[] caps] w (RetSel (selTo p n) w) := by
  have HA := Lib.hid hA; have HCL := Lib.hid hcl
  have hX0 : Hx w w w.heap.size [⟨3, none, 0, 0, []⟩] := (Hx.start rfl).nil _
  have HX0 := Lib.hid hX0
  clear hA hcl hX0
  go_enter Try.func100, Try.ntmps100
  go_wp2_with fail
  go_loopw [5, 6, 7, 10] (fun q _ _ i wr => ∃ (k : Nat) (AQ : Option Addr) (cQ : Nat), k ≤ n ∧ i = .int .i64 k ∧ q = .slice AQ (selTo p k).length cQ ∧ Hx w wr w.heap.size [⟨3, AQ, (selTo p k).length, cQ, nvs (selTo p k)⟩]) (fun _ _ _ i _ => n - (intOf i).toNat)
  case atStart => exact ⟨0, none, 0, Nat.zero_le _, rfl, rfl, HX0.out⟩
  case round =>
    clear HX0
    obtain ⟨k, AQ, cQ, hk, rfl, rfl, X⟩ := hrel
    have HXk := Lib.hid X
    have hsl := sel_len p k
    by_cases hlt : k < n
    · obtain ⟨b, off, x, hAe, hb, hx, cx⟩ := intl_at (HA.out.below X.bel) hlt
      subst hAe
      have hzw := X.bel.size
      have Bw := X.bel
      have HX := Lib.hid hx
      clear X hx
      go_wp2_with fail
      refine (HCL.out k x _ hlt HX.out Bw).mono ?_
      rintro e w2 ⟨rfl, B2⟩
      have HX2 := Lib.hid (HXk.out.on B2)
      clear HXk B2 Bw cx hzw hb
      cases hpk : p k
      · have HP := Lib.hid hpk
        clear hpk
        go_wp2_with fail
        go_roundw
        case rel => exact ⟨k + 1, AQ, cQ, by omega, by go_num, by rw [sel_no HP.out], by rw [sel_no HP.out]; exact HX2.out⟩
        case measure => simp [intOf]; omega
      · have HP := Lib.hid hpk
        clear hpk
        go_wp2_with (at_builtin; refine wp_appH HX2.out rfl (.tmp 19) (.tmp 21) _ _ _ rfl one_int.wide 0 (selTo p k).length cQ AQ _ (.int .i64 (k : Int)) rfl rfl rfl rfl (by omega) (by simp) ?_)
        intro A4 c4 w4 HX4 _
        go_wp2_with fail
        go_roundw
        case rel =>
          refine ⟨k + 1, A4, c4, by omega, by go_num, by rw [sel_yes HP.out, List.length_append]; rfl, ?_⟩
          have h := HX4.out
          rw [sel_yes HP.out, List.length_append]
          unfold nvs at h ⊢
          rw [List.map_append]
          exact h
        case measure => simp [intOf]; omega
    · obtain rfl : k = n := by omega
      go_wp2_with fail
      go_ret
      exact ⟨AQ, cQ, rfl, HXk.out.held.own 0 _ rfl, HXk.out.bel⟩

end Go.Proofs.Ytanifbofjecpmaa

/-! Labc -/
namespace Go.Proofs.Ytanifbofjecpmaa
open Go.RowKit
set_option maxRecDepth 100000

set_option maxHeartbeats 4000000 in
theorem chosenl_is (fn : Nat) (caps : Array Value) (p : Nat → Bool) (A : Option Addr) (n c : Nat) (H : List Int) (w : World) (hA : Ints w w.heap.size A n H) (hn : n ≤ 100000000)
    (hcl : ∀ (k : Nat) (x : Int) (W : World), k < n → H[k]? = some x → Below w.heap.size w W → Calls Try.prog fn (#[.int .i64 (k : Int), .int .i64 x] ++ caps) W fun e w' => e = .returned (.bool (p k)) ∧ Below W.heap.size W w')
    (hcf : ∀ (xs : Array Value) (W : World), (callFunc fn xs).run Try.prog W = .ok (.enter fn xs) W) :
    Calls Try.prog 103 #[.slice A n c, .func (.func fn) #[] caps] w (RetSel (selTo p n) w) := by
  have HA := Lib.hid hA; have HCL := Lib.hid hcl
  have hX0 : Hx w w w.heap.size [⟨3, none, 0, 0, []⟩] := (Hx.start rfl).nil _
  have HX0 := Lib.hid hX0
  clear hA hcl hX0
  go_enter Try.func103, Try.ntmps103
  go_wp2_with fail
  go_loopw [5, 6, 7, 10] (fun q _ _ i wr => ∃ (k : Nat) (AQ : Option Addr) (cQ : Nat), k ≤ n ∧ i = .int .i64 k ∧ q = .slice AQ (selTo p k).length cQ ∧ Hx w wr w.heap.size [⟨3, AQ, (selTo p k).length, cQ, nvs (selTo p k)⟩]) (fun _ _ _ i _ => n - (intOf i).toNat)
  case atStart => exact ⟨0, none, 0, Nat.zero_le _, rfl, rfl, HX0.out⟩
  case round =>
    clear HX0
    obtain ⟨k, AQ, cQ, hk, rfl, rfl, X⟩ := hrel
    have HXk := Lib.hid X
    have hsl := sel_len p k
    by_cases hlt : k < n
    · obtain ⟨b, off, x, hAe, hb, hx, cx⟩ := intl_at (HA.out.below X.bel) hlt
      subst hAe
      have hzw := X.bel.size
      have Bw := X.bel
      have HX := Lib.hid hx
      clear X hx
      go_wp2_with fail
      refine (HCL.out k x _ hlt HX.out Bw).mono ?_
      rintro e w2 ⟨rfl, B2⟩
      have HX2 := Lib.hid (HXk.out.on B2)
      clear HXk B2 Bw cx hzw hb
      cases hpk : p k
      · have HP := Lib.hid hpk
        clear hpk
        go_wp2_with fail
        go_roundw
        case rel => exact ⟨k + 1, AQ, cQ, by omega, by go_num, by rw [sel_no HP.out], by rw [sel_no HP.out]; exact HX2.out⟩
        case measure => simp [intOf]; omega
      · have HP := Lib.hid hpk
        clear hpk
        go_wp2_with (at_builtin; refine wp_appH HX2.out rfl (.tmp 19) (.tmp 21) _ _ _ rfl one_int.wide 0 (selTo p k).length cQ AQ _ (.int .i64 (k : Int)) rfl rfl rfl rfl (by omega) (by simp) ?_)
        intro A4 c4 w4 HX4 _
        go_wp2_with fail
        go_roundw
        case rel =>
          refine ⟨k + 1, A4, c4, by omega, by go_num, by rw [sel_yes HP.out, List.length_append]; rfl, ?_⟩
          have h := HX4.out
          rw [sel_yes HP.out, List.length_append]
          unfold nvs at h ⊢
          rw [List.map_append]
          exact h
        case measure => simp [intOf]; omega
    · obtain rfl : k = n := by omega
      go_wp2_with fail
      go_ret
      exact ⟨AQ, cQ, rfl, HXk.out.held.own 0 _ rfl, HXk.out.bel⟩

set_option maxHeartbeats 400000 in
theorem lindex_yes {i n : Int} (h : 0 ≤ i ∧ i < n) (w : World) :
    Calls Try.prog 87 #[.int .i64 i, .int .i64 n] w fun e w' => e = .returned (.bool true) ∧ w' = w := by
  obtain ⟨h1, h2⟩ := h
  go_enter Try.func87, Try.ntmps87
  go_wp2
  go_ret
  exact ⟨ret_bool (by simp), rfl⟩
set_option maxHeartbeats 400000 in
theorem lindex_no {i n : Int} (h : ¬ (0 ≤ i ∧ i < n)) (w : World) :
    Calls Try.prog 87 #[.int .i64 i, .int .i64 n] w fun e w' => e = .returned (.bool false) ∧ w' = w := by
  by_cases h1 : 0 ≤ i
  · have h2 : ¬ i < n := fun h2 => h ⟨h1, h2⟩
    go_enter Try.func87, Try.ntmps87
    go_wp2
    go_ret
    exact ⟨rfl, rfl⟩
  · go_enter Try.func87, Try.ntmps87
    go_wp2
    go_ret
    exact ⟨rfl, rfl⟩

set_option maxHeartbeats 1000000 in
theorem lright1 (N g : Nat) (i x : Int) (v1 v2 v3 v4 v5 v6 v7 v8 : Value) (w : World) (K1 : Blk w g 32 #[.int .i64 (N : Int), v1, v2, v3, v4, v5, v6, v7, v8]) :
    Calls Try.prog 101 #[.int .i64 i, .int .i64 x, .pointer (some ⟨g, 0, none⟩)] w fun e w' => e = .returned (.bool (decide (x < 0 ∨ (N : Int) < x))) ∧ Below w.heap.size w w' := by
  have c1 := K1.cell 0
  simp only [List.getElem?_toArray, List.getElem?_cons_zero] at c1
  have hz := K1.lt
  clear K1
  by_cases h0 : x < 0
  · go_enter Try.func101, Try.ntmps101
    go_wp2_with fail
    go_ret
    exact ⟨ret_bool (by simp [h0]), Below.refl _ _⟩
  · by_cases h1 : (N : Int) < x
    all_goals
      go_enter Try.func101, Try.ntmps101
      go_wp2_with fail
      go_ret
      exact ⟨ret_bool (by simp [h0, h1]), Below.refl _ _⟩

set_option maxHeartbeats 8000000 in
theorem lright_is (N M s t : Nat) (K : CsrS) (A : Option Addr) (n c : Nat) (H : List Int) (w : World) (hA : Ints w w.heap.size A n H) (hs : s < N) (ht : t < N) (hN : N ≤ 4096) :
    Calls Try.prog 84 #[csrW N M s t K, .slice A n c] w fun e w' => e = .returned (.bool (htsB N s t H)) ∧ Below w.heap.size w w' := by
  have hl : H.length = n := hA.len
  obtain ⟨AF, cF, AH, cH, AR, cR, AC, cC, AA, cA, AB, cB⟩ := K
  dsimp only [csrW]
  have K1 : Blk (w.alloc (.cells #[.int .i64 (N : Int), .int .i64 (s : Int), .int .i64 (t : Int), .slice AF (N + 1) cF, .slice AH M cH, .slice AR M cR, .slice AC M cC, .slice AA M cA, .slice AB M cB] 32)) w.heap.size 32 #[.int .i64 (N : Int), .int .i64 (s : Int), .int .i64 (t : Int), .slice AF (N + 1) cF, .slice AH M cH, .slice AR M cR, .slice AC M cC, .slice AA M cA, .slice AB M cB] := Blk.new rfl
  have A1 := hA.onAlloc (.cells #[.int .i64 (N : Int), .int .i64 (s : Int), .int .i64 (t : Int), .slice AF (N + 1) cF, .slice AH M cH, .slice AR M cR, .slice AC M cC, .slice AA M cA, .slice AB M cB] 32)
  have HA1 := Lib.hid A1; have HK1 := Lib.hid K1; have HL := Lib.hid hl
  have hsN : 0 ≤ (s : Int) ∧ (s : Int) < (N : Int) := by omega
  have htN : 0 ≤ (t : Int) ∧ (t : Int) < (N : Int) := by omega
  have HSN := Lib.hid hsN; have HTN := Lib.hid htN
  by_cases hne : n = N
  · subst hne
    obtain ⟨b, off, x, rfl, hb, hx, cx⟩ := intl_at A1 hs
    obtain ⟨b2, off2, y, he, -, hy, cy⟩ := intl_at A1 ht
    injection he with he
    injection he with e1 e2
    subst e1; subst e2
    have hxs := hOf_at hx
    have hyt := hOf_at hy
    have HXS := Lib.hid hxs; have HYT := Lib.hid hyt
    clear hx hy hxs hyt hl A1 K1 hA hsN htN
    by_cases h1 : x = (n : Int)
    · subst h1
      by_cases h2 : y = 0
      · subst h2
        go_enter Try.func84, Try.ntmps84
        go_wp2_with fail
        go_quiet (first | (go_at_call 87; with_reducible exact Calls.quiet_of_same (lindex_yes HSN.out _)) | (go_at_call 87; with_reducible exact Calls.quiet_of_same (lindex_yes HTN.out _)))
        go_wp2_with fail
        have hcf : ∀ (xs : Array Value) (W : World), (callFunc 101 xs).run Try.prog W = .ok (.enter 101 xs) W := fun xs W => by kernel_rfl
        refine (choseni_is 101 #[.pointer (some ⟨w.heap.size, 0, none⟩)] (fun k => decide (hOf H k < 0 ∨ (n : Int) < hOf H k)) _ n c H _ (HA1.out.on (below_drewN' (Below.refl _ _) _)) (by omega) (fun k x W hk hxk hB => ?_) hcf).mono ?_
        · have := lright1 n w.heap.size k x _ _ _ _ _ _ _ _ W ((HK1.out.below (below_drewN' (Below.refl _ _) _) HK1.out.lt).below hB (by simp [World.drewN]))
          rw [hOf_at hxk]
          exact this
        · rintro e w2 ⟨AQ, cQ, rfl, hO, hB⟩
          have hr : decide ((selTo (fun k => decide (hOf H k < 0 ∨ (n : Int) < hOf H k)) n).length = 0) = htsB n s t H := by
            rw [Bool.eq_iff_iff, htsB_yes, decide_eq_true_eq, List.length_eq_zero_iff, sel_nil]
            constructor
            · intro h
              exact ⟨HL.out, HXS.out, HYT.out, fun v hv => by have := h v hv; simp at this; omega⟩
            · intro h v hv
              have := h.bnd v hv
              simp; omega
          have hBw := (below_drewN' (below_alloc (w := w) _) _).trans (hB.mono (by simp [World.drewN]))
          have HR := Lib.hid hr; have HBw := Lib.hid hBw
          clear hO hB hr hBw
          generalize (selTo (fun k => decide (hOf H k < 0 ∨ (n : Int) < hOf H k)) n).length = q at *
          go_wp2_with fail
          go_ret
          exact ⟨ret_bool (by rw [← HR.out, Bool.eq_iff_iff, beq_iff_eq, decide_eq_true_eq]; omega), HBw.out⟩
      · have h2' : ((y : Int) == 0) = false := beq_false_of_ne h2
        have hd2 : decide (y = 0) = false := decide_eq_false h2
        go_enter Try.func84, Try.ntmps84
        go_wp2_with fail
        go_quiet (first | (go_at_call 87; with_reducible exact Calls.quiet_of_same (lindex_yes HSN.out _)) | (go_at_call 87; with_reducible exact Calls.quiet_of_same (lindex_yes HTN.out _)))
        go_wp2_with fail
        go_ret
        exact ⟨ret_bool (htsB_no fun h => h2 (HYT.out.symm.trans h.snk)).symm, below_drewN' (below_alloc _) _⟩
    · have h1' : (x == (n : Int)) = false := beq_false_of_ne h1
      have hd1 : decide (x = (n : Int)) = false := decide_eq_false h1
      go_enter Try.func84, Try.ntmps84
      go_wp2_with fail
      go_quiet (first | (go_at_call 87; with_reducible exact Calls.quiet_of_same (lindex_yes HSN.out _)) | (go_at_call 87; with_reducible exact Calls.quiet_of_same (lindex_yes HTN.out _)))
      go_wp2_with fail
      go_ret
      exact ⟨ret_bool (htsB_no fun h => h1 (HXS.out.symm.trans h.src)).symm, below_drewN' (below_alloc _) _⟩
  · have hne1 : ¬ (n : Int) = (N : Int) := by omega
    have hne2 : ((n : Int) == (N : Int)) = false := beq_false_of_ne hne1
    clear hl A1 K1 hA hsN htN
    go_enter Try.func84, Try.ntmps84
    go_wp2_with fail
    go_quiet (fail)
    go_wp2_with fail
    go_ret
    exact ⟨ret_bool (htsB_no fun h => hne (HL.out.symm.trans h.len)).symm, below_drewN' (below_alloc _) _⟩

end Go.Proofs.Ytanifbofjecpmaa

/-! Conf -/
namespace Go.Proofs.Ytanifbofjecpmaa
open Go.RowKit
set_option maxRecDepth 100000

set_option maxHeartbeats 4000000 in
theorem lidxf_none (fn : Nat) (caps : Array Value) (A : Option Addr) (n c : Nat) (H : List Int) (w : World) (hA : Ints w w.heap.size A n H) (hn : n ≤ 100000000)
    (hcl : ∀ (k : Nat) (x : Int) (W : World), H[k]? = some x → Below w.heap.size w W → Calls Try.prog fn (#[.int .i64 x] ++ caps) W fun e w' => e = .returned (.bool false) ∧ Below W.heap.size W w')
    (hcf : ∀ (xs : Array Value) (W : World), (callFunc fn xs).run Try.prog W = .ok (.enter fn xs) W) :
    Calls Try.prog 102 #[.slice A n c, .func (.func fn) #[] caps] w fun e w' => e = .returned (.int .i64 (-1)) ∧ Below w.heap.size w w' := by
  have HA := Lib.hid hA; have HCL := Lib.hid hcl
  clear hA hcl
  go_enter Try.func102, Try.ntmps102
  go_wp2_with fail
  go_loopw [5, 8] (fun _ i wr => ∃ k : Nat, k ≤ n ∧ i = .int .i64 k ∧ Below w.heap.size w wr) (fun _ i _ => n - (intOf i).toNat)
  case atStart => exact ⟨0, Nat.zero_le _, rfl, Below.refl _ _⟩
  case round =>
    obtain ⟨k, hk, rfl, Bw⟩ := hrel
    by_cases hlt : k < n
    · obtain ⟨b, off, x, hAe, hb, hx, cx⟩ := intl_at (HA.out.below Bw) hlt
      subst hAe
      have HX := Lib.hid hx
      have hzw := Bw.size
      clear hx
      go_wp2_with fail
      refine (HCL.out k x _ HX.out Bw).mono ?_
      rintro e w2 ⟨rfl, B2⟩
      have HB2 := Lib.hid (Bw.trans (B2.mono Bw.size))
      clear Bw B2 cx hzw hb
      go_wp2_with fail
      go_roundw
      case rel => exact ⟨k + 1, by omega, by go_num, HB2.out⟩
      case measure => simp [intOf]; omega
    · go_wp2_with fail
      go_ret
      exact ⟨rfl, Bw⟩

set_option maxHeartbeats 1000000 in
theorem lconf_none (fn : Nat) (caps : Array Value) (A : Option Addr) (n c : Nat) (H : List Int) (w : World) (hA : Ints w w.heap.size A n H) (hn : n ≤ 100000000)
    (hcl : ∀ (k : Nat) (x : Int) (W : World), H[k]? = some x → Below w.heap.size w W → Calls Try.prog fn (#[.int .i64 x] ++ caps) W fun e w' => e = .returned (.bool false) ∧ Below W.heap.size W w')
    (hcf : ∀ (xs : Array Value) (W : World), (callFunc fn xs).run Try.prog W = .ok (.enter fn xs) W) :
    Calls Try.prog 85 #[.slice A n c, .func (.func fn) #[] caps] w fun e w' => e = .returned (.bool false) ∧ Below w.heap.size w w' := by
  have HA := Lib.hid hA; have HCL := Lib.hid hcl; have HCF := Lib.hid hcf
  clear hA hcl hcf
  go_enter Try.func85, Try.ntmps85
  go_wp2_with fail
  refine (lidxf_none fn caps A n c H _ HA.out hn HCL.out HCF.out).mono ?_
  rintro e w1 ⟨rfl, B1⟩
  go_wp2_with fail
  go_ret
  exact ⟨rfl, B1⟩

end Go.Proofs.Ytanifbofjecpmaa
