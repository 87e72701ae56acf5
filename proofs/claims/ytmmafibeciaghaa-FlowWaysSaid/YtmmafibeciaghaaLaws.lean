/- Laws of the walk for rows whose elements have several cells: make, copy; a struct's cells. -/
import Derived.Test.YtmmafibeciaghaaWords
import Derived.WalkKit
import Derived.Laws.CopyOwn
import Derived.Laws.Rows
import Derived.Maps.AppendAt
import Derived.OwnWalk
namespace Go.Proofs.Ytmmafibeciaghaa
open Go.RowKit

theorem flat_inv {α : Type} {f : α → List Value} {size : Nat} : ∀ {l : List α} (_ : ∀ a ∈ l, (f a).length = size) {j : Nat} {u : Value} (_ : (l.flatMap f)[j]? = some u),
    ∃ (k r : Nat) (a : α), l[k]? = some a ∧ (f a)[r]? = some u ∧ j = k * size + r
  | [], _, j, u, h => by simp at h
  | x :: t, hf, j, u, h => by
    rw [List.flatMap_cons] at h
    have hx := hf x (by simp)
    by_cases hj : j < (f x).length
    · rw [List.getElem?_append_left hj] at h
      exact ⟨0, j, x, rfl, h, by simp⟩
    · rw [List.getElem?_append_right (by omega)] at h
      obtain ⟨k, r, a, h1, h2, h3⟩ := flat_inv (fun a ha => hf a (by simp [ha])) h
      exact ⟨k + 1, r, a, by simpa using h1, h2, by rw [Nat.succ_mul]; omega⟩

theorem flat_len {α : Type} {f : α → List Value} {size : Nat} : ∀ {l : List α} (_ : ∀ a ∈ l, (f a).length = size), (l.flatMap f).length = l.length * size
  | [], _ => by simp
  | x :: t, hf => by
    rw [List.flatMap_cons, List.length_append, flat_len (fun a ha => hf a (by simp [ha])), hf x (by simp), List.length_cons, Nat.succ_mul]
    omega

theorem addr_add (b off j : Nat) : (⟨b, off, none⟩ : Addr).add j = ⟨b, off + j, none⟩ := by
  unfold Addr.add
  split <;> simp_all

theorem RdBy.src {α : Type} {f : α → List Value} {size : Nat} {w : World} {B n : Nat} {A : Option Addr} {l : List α} (hf : ∀ a ∈ l, (f a).length = size) (h : RdBy f size w B A n l) (hn : 0 < n) :
    ∃ ad, A = some ad ∧ ∀ j v, (l.flatMap f)[j]? = some v → w.cell? (ad.add j) = some v := by
  obtain ⟨b, off, e, _, hc⟩ := h.2 hn
  refine ⟨_, e, fun j v hv => ?_⟩
  obtain ⟨k, r, a, h1, h2, rfl⟩ := flat_inv hf hv
  rw [addr_add]
  exact hc k a h1 r v h2

theorem arc_len (l : List ArcN) : ∀ a ∈ l, (arcCells a).length = 3 := fun _ _ => rfl
theorem int_len (l : List Int) : ∀ a ∈ l, (intCells a).length = 1 := fun _ _ => rfl
theorem arc_one {l : List ArcN} : ∀ v ∈ l.flatMap arcCells, v.oneCell' = true := by
  intro v hv
  obtain ⟨a, _, ha⟩ := List.mem_flatMap.1 hv
  simp only [arcCells, List.mem_cons, List.not_mem_nil, or_false] at ha
  rcases ha with rfl | rfl | rfl <;> rfl
theorem int_one {l : List Int} : ∀ v ∈ l.flatMap intCells, v.oneCell' = true := by
  intro v hv
  obtain ⟨a, _, ha⟩ := List.mem_flatMap.1 hv
  simp only [intCells, List.mem_cons, List.not_mem_nil, or_false] at ha
  subst ha; rfl

section
variable {P : Program}

theorem run_make_lit (t e : TypeId) (i : TypeInfo) (z : Value) (ht : P.underlying t = some (.slice e)) (hi : P.info? e = some i) (hz : i.zero = some z)
    (n : Nat) (hb : i.bytes * n ≤ 281474976710656) (hn : n ≤ 9223372036854775807) (w : World) :
    (Instr.makeSlice t (.int .i64 (n : Int)) (.int .i64 (n : Int))).run P w = .ok (.slice (some ⟨w.heap.size, 0, none⟩) n n) (w.alloc (.cells (madeCells z.cells (n * i.size)) e)) := by
  have hb' : (i.bytes : Int) * (n : Int) ≤ 281474976710656 := by
    have h : ((i.bytes * n : Nat) : Int) ≤ 281474976710656 := by omega
    rwa [Int.natCast_mul] at h
  have hr := run_make (P := P) w t e i z ht hi hz .i64 .i64 n n (by omega) (Int.le_refl _) hb' (by omega)
  simpa only [Int.toNat_natCast] using hr

theorem run_copy_fill (w : World) (dT sT ty elem : TypeId) (i : TypeInfo) (size g n dc sc : Nat) (A : Option Addr) (cur : Array Value) (xs : List Value)
    (hu : P.underlying dT = some (.slice elem)) (hi : P.info? elem = some i) (hs : i.size = size)
    (hg : w.heap[g]? = some (.cells cur elem (0, 0))) (hcur : cur.size = n * size) (hx : xs.length = n * size)
    (hsrc : 0 < n → ∃ ad, A = some ad ∧ ∀ j v, xs[j]? = some v → w.cell? (ad.add j) = some v) (h1 : ∀ v ∈ xs, v.oneCell' = true) :
    (Builtin.copy_ #[dT, sT] ty #[.slice (some ⟨g, 0, none⟩) n dc, .slice A n sc]).run P w = .ok (goInt n) (w.setRow g xs.toArray) := by
  by_cases h0 : n = 0
  · subst h0
    have hxs : xs = [] := List.eq_nil_of_length_eq_zero (by simpa using hx)
    have hc : cur = #[] := Array.eq_empty_of_size_eq_zero (by simpa using hcur)
    subst hxs; subst hc
    have e := setRow_self w g #[] elem (0, 0) hg
    cases A with
    | none => simp [Builtin.copy_, run_underlying hu, Builtin.lenOf, Builtin.firstCells, sizeOf, typeInfo, hi, storeCells, e]
    | some ad =>
      have hl := run_loadCells_list (P := P) w ad [] (fun j v h => by simp at h)
      simp only [List.length_nil] at hl
      simp [Builtin.copy_, run_underlying hu, Builtin.lenOf, Builtin.firstCells, sizeOf, typeInfo, hi, storeCells, e, hl]
  · obtain ⟨ad, rfl, hsr⟩ := hsrc (by omega)
    have hl := run_loadCells_list (P := P) w ad xs hsr
    have hst := run_storeCells_at P g 0 elem xs 0 cur w hg (by omega) h1
    have hd : cur.toList.drop (n * size) = [] := List.drop_eq_nil_of_le (by simp [hcur])
    simp only [Nat.zero_add, List.take_zero, List.nil_append, hx, hd, List.append_nil] at hst
    rw [hx] at hl
    simp [Builtin.copy_, run_underlying hu, Builtin.lenOf, Builtin.firstCells, sizeOf, typeInfo, hi, hs, hl, hst]

theorem wpList_copy_fill {w : World} {ops : Array Oper} {rest : List Oper} {o : Oper} {a : Act} {Q : Exit → Act → World → Prop} (hgd : o.guard = none) (d s : Operand) (dT sT : TypeId)
    (ho : o.op = .call { callee := .builtin .copy, args := #[d, s], argTypes := #[dT, sT] }) (elem : TypeId) (i : TypeInfo) (size : Nat)
    (hu : P.underlying dT = some (.slice elem)) (hi : P.info? elem = some i) (hs : i.size = size)
    (g n dc sc : Nat) (A : Option Addr) (hd : a.eval d = .slice (some ⟨g, 0, none⟩) n dc) (hsv : a.eval s = .slice A n sc)
    (cur : Array Value) (xs : List Value) (hg : w.heap[g]? = some (.cells cur elem (0, 0))) (hcur : cur.size = n * size) (hx : xs.length = n * size)
    (hsrc : 0 < n → ∃ ad, A = some ad ∧ ∀ j v, xs[j]? = some v → w.cell? (ad.add j) = some v) (h1 : ∀ v ∈ xs, v.oneCell' = true)
    (h : ∀ w', Hid (w'.heap[g]? = some (.cells xs.toArray elem (0, 0))) → w.grownBy w' (some g) → w'.heap.size = w.heap.size → wpList P ops Q rest (a.put o.dst (goInt n)) w') :
    wpList P ops Q (o :: rest) a w := by
  refine wpList_plain hgd fun K hK => ?_
  have hrun := run_copy_fill (P := P) w dT sT o.type elem i size g n dc sc A cur xs hu hi hs hg hcur hx hsrc h1
  unfold Oper.wp
  simp [execOp, ho, resolve, invoke, builtin, hd, hsv, hrun, Result.andThen]
  refine hK _ _ (h _ (setRow_heap w g cur _ elem _ hg) ⟨rfl, rfl, rfl, by simp [World.setRow], fun k _ hne => setRow_other w g k _ (fun e => hne (by rw [e]))⟩ (by simp [World.setRow]))
end

/-- A row of the call's own, given its block. -/
theorem own_of_block {w : World} {g base n : Nat} {e : TypeId} {size : Nat} {xs : List Value} (hg : w.heap[g]? = some (.cells xs.toArray e (0, 0))) (hb : base ≤ g) (hn : n ≤ maxLen) (hx : xs.length = n * size) :
    w.ownsRow base e size (.slice (some ⟨g, 0, none⟩) n n) n xs :=
  ⟨hx, .inr ⟨g, n, xs.toArray, rfl, hb, hg, Nat.le_refl _, hn, by simpa using hx, by simp [← hx]⟩⟩

/-- A block known whole, none of it frozen. -/
def Blk (w : World) (g : Nat) (t : TypeId) (cs : Array Value) : Prop := w.heap[g]? = some (.cells cs t (0, 0))
section
variable {w w' : World} {g : Nat} {t : TypeId} {cs : Array Value}
theorem Blk.lt (h : Blk w g t cs) : g < w.heap.size := by
  rcases Nat.lt_or_ge g w.heap.size with hlt | hge
  · exact hlt
  · unfold Blk at h; rw [Array.getElem?_eq_none hge] at h; cases h
theorem Blk.cell (h : Blk w g t cs) (i : Nat) : w.cell? ⟨g, i, none⟩ = cs[i]? := by
  unfold Blk at h
  simp [World.cell?, h]
theorem Blk.frozen (h : Blk w g t cs) (i : Nat) : w.frozen? ⟨g, i, none⟩ = false := by
  unfold Blk at h
  simp [World.frozen?, h]
theorem Blk.new (h : w.heap.size = g) : Blk (w.alloc (.cells cs t)) g t cs := by
  subst h
  show (w.heap.push _)[w.heap.size]? = _
  simp
theorem Blk.alloc (h : Blk w g t cs) (o : Obj) : Blk (w.alloc o) g t cs := (Below.heap_alloc w o g h.lt).trans h
theorem Blk.far (h : Blk w g t cs) {p : Addr} (hp : g ≠ p.block) (u : Value) : Blk (w.setCell p u) g t cs := (Below.heap_setCell w p u g hp).trans h
theorem Blk.set (h : Blk w g t cs) (i : Nat) (u : Value) : Blk (w.setCell ⟨g, i, none⟩ u) g t (cs.setIfInBounds i u) := by
  unfold Blk at h ⊢
  simp [World.setCell, Array.getElem?_modify, h]
theorem Blk.below {B : Nat} (h : Blk w g t cs) (hb : Below B w w') (hg : g < B) : Blk w' g t cs := (hb.block g hg).trans h
theorem Blk.drewN (h : Blk w g t cs) (n : Nat) : Blk (w.drewN n) g t cs := h
theorem Blk.drew (h : Blk w g t cs) : Blk w.drew g t cs := h
theorem Blk.grown {row : Option Nat} (h : Blk w g t cs) (hb : w.grownBy w' row) (hg : some g ≠ row) : Blk w' g t cs := (hb.block g h.lt hg).trans h
end

theorem own_form {w : World} {base n c : Nat} {e : TypeId} {size : Nat} {A : Option Addr} {xs : List Value} (h : w.ownsRow base e size (.slice A n c) n xs) (hn : 0 < n) : ∃ g, A = some ⟨g, 0, none⟩ ∧ base ≤ g ∧ g < w.heap.size := by
  rcases h.2 with ⟨_, h0⟩ | ⟨g, cap, cur, hv, hb, hh, _⟩
  · omega
  · injection hv with hA
    refine ⟨g, hA, hb, ?_⟩
    rcases Nat.lt_or_ge g w.heap.size with hlt | hge
    · exact hlt
    · rw [Array.getElem?_eq_none hge] at hh; cases hh

theorem own_less {w : World} {base base' : Nat} {e : TypeId} {size : Nat} {v : Value} {n : Nat} {xs : List Value} (h : w.ownsRow base e size v n xs) (hb : base' ≤ base) : w.ownsRow base' e size v n xs :=
  ⟨h.1, h.2.imp id fun ⟨g, cap, cur, h1, h2, r⟩ => ⟨g, cap, cur, h1, Nat.le_trans hb h2, r⟩⟩
theorem set_app {α : Type} (X Y : List α) (j : Nat) (u : α) : (X ++ Y).set (X.length + j) u = X ++ Y.set j u := by
  rw [List.set_append, if_neg (by omega), Nat.add_sub_cancel_left]

theorem arcs_set3 : ∀ (L : List ArcN) (k : Nat) (a : ArcN), k < L.length →
    (((L.flatMap arcCells).set (k * 3) (.int .i64 a.frm)).set (k * 3 + 1) (.int .i64 a.to)).set (k * 3 + 2) (.int .i64 a.cap) = (L.set k a).flatMap arcCells
  | [], k, a, h => by simp at h
  | x :: r, 0, a, _ => by simp [arcCells]
  | x :: r, k + 1, a, h => by
    have ih := arcs_set3 r k a (by simpa using h)
    simp only [List.set_cons_succ, List.flatMap_cons, ← ih]
    rw [show (k + 1) * 3 = (arcCells x).length + k * 3 from by simp [arcCells]; omega, Nat.add_assoc, Nat.add_assoc]
    rw [set_app, set_app, set_app]

theorem own_set3 {w : World} {base e g cap n : Nat} {L : List ArcN} {k : Nat} (h : w.ownsRow base e 3 (.slice (some ⟨g, 0, none⟩) n cap) n (L.flatMap arcCells)) (hL : L.length = n) (hk : k < n) (a : ArcN) :
    (((w.setCell ⟨g, k * 3, none⟩ (.int .i64 a.frm)).setCell ⟨g, k * 3 + 1, none⟩ (.int .i64 a.to)).setCell ⟨g, k * 3 + 2, none⟩ (.int .i64 a.cap)).ownsRow base e 3 (.slice (some ⟨g, 0, none⟩) n cap) n ((L.set k a).flatMap arcCells) := by
  rw [← arcs_set3 L k a (by omega)]
  exact (((h.stored _ _).1.stored _ _).1.stored _ _).1

def mapTo {α : Type} (f : α → α) (l : List α) (k : Nat) : List α := (l.take k).map f ++ l.drop k
theorem mapTo_len {α : Type} (f : α → α) (l : List α) (k : Nat) : (mapTo f l k).length = l.length := by simp [mapTo]; omega
theorem mapTo_zero {α : Type} (f : α → α) (l : List α) : mapTo f l 0 = l := by simp [mapTo]
theorem mapTo_end {α : Type} (f : α → α) (l : List α) {k n : Nat} (hl : l.length = n) (hk : ¬ k < n) : mapTo f l k = l.map f := by
  simp [mapTo, List.take_of_length_le (show l.length ≤ k by omega), List.drop_eq_nil_of_le (show l.length ≤ k by omega)]
theorem mapTo_set {α : Type} (f : α → α) {l : List α} {k : Nat} {a : α} (h : l[k]? = some a) : (mapTo f l k).set k (f a) = mapTo f l (k + 1) := by
  have hk := (List.getElem?_eq_some_iff.1 h).1
  unfold mapTo
  have e : ((l.take k).map f).length = k := by simp; omega
  rw [take_at h, drop_at h, List.set_append, if_neg (by omega), e, Nat.sub_self]
  simp

theorem Blk.at4 {w : World} {g : Nat} {t : TypeId} {v0 v1 v2 v3 : Value} (h : Blk w g t #[v0, v1, v2, v3]) :
    w.cell? ⟨g, 0, none⟩ = some v0 ∧ w.cell? ⟨g, 1, none⟩ = some v1 ∧ w.cell? ⟨g, 2, none⟩ = some v2 ∧ w.cell? ⟨g, 3, none⟩ = some v3 :=
  ⟨h.cell 0, h.cell 1, h.cell 2, h.cell 3⟩
theorem Blk.free4 {w : World} {g : Nat} {t : TypeId} {cs : Array Value} (h : Blk w g t cs) :
    w.frozen? ⟨g, 0, none⟩ = false ∧ w.frozen? ⟨g, 1, none⟩ = false ∧ w.frozen? ⟨g, 2, none⟩ = false ∧ w.frozen? ⟨g, 3, none⟩ = false :=
  ⟨h.frozen 0, h.frozen 1, h.frozen 2, h.frozen 3⟩
theorem Blk.set4 {w : World} {g : Nat} {t : TypeId} {u0 u1 u2 u3 : Value} (h : Blk w g t #[u0, u1, u2, u3]) (v0 v1 v2 v3 : Value) :
    Blk ((((w.setCell ⟨g, 0, none⟩ v0).setCell ⟨g, 1, none⟩ v1).setCell ⟨g, 2, none⟩ v2).setCell ⟨g, 3, none⟩ v3) g t #[v0, v1, v2, v3] := by
  have := (((h.set 0 v0).set 1 v1).set 2 v2).set 3 v3
  simpa using this
theorem own_cells3 {w : World} {base e g cap n : Nat} {L : List ArcN} {k : Nat} (h : w.ownsRow base e 3 (.slice (some ⟨g, 0, none⟩) n cap) n (L.flatMap arcCells)) (hL : L.length = n) (hk : k < n) :
    ∃ a, L[k]? = some a ∧ w.cell? ⟨g, k * 3, none⟩ = some (.int .i64 a.frm) ∧ w.cell? ⟨g, k * 3 + 1, none⟩ = some (.int .i64 a.to) ∧ w.cell? ⟨g, k * 3 + 2, none⟩ = some (.int .i64 a.cap) ∧
      w.frozen? ⟨g, k * 3, none⟩ = false ∧ w.frozen? ⟨g, k * 3 + 1, none⟩ = false ∧ w.frozen? ⟨g, k * 3 + 2, none⟩ = false := by
  have ha : L[k]? = some L[k] := List.getElem?_eq_getElem (by omega)
  refine ⟨_, ha, ?_, ?_, ?_, h.frozenAt _, h.frozenAt _, h.frozenAt _⟩
  · rw [h.cellAt _ (by omega)]; exact flat_at (arc_len L) ha (j := 0) rfl
  · rw [h.cellAt _ (by omega)]; exact flat_at (arc_len L) ha (j := 1) rfl
  · rw [h.cellAt _ (by omega)]; exact flat_at (arc_len L) ha (j := 2) rfl
/-- A row stays owned while another block is written. -/
theorem own_far {w : World} {base n c : Nat} {e : TypeId} {size : Nat} {A : Option Addr} {xs : List Value} (h : w.ownsRow base e size (.slice A n c) n xs) {p : Addr} (hp : ∀ g, A = some ⟨g, 0, none⟩ → g ≠ p.block) (u : Value) : (w.setCell p u).ownsRow base e size (.slice A n c) n xs := by
  refine ⟨h.1, h.2.imp id ?_⟩
  rintro ⟨g, cap, cur, hv, hb, hh, r⟩
  refine ⟨g, cap, cur, hv, hb, ?_, r⟩
  injection hv with hA
  rw [Below.heap_setCell _ _ _ _ (hp g hA)]
  exact hh
/-- A row lies in a block of its own element type. -/
theorem own_ne {w : World} {base n c : Nat} {e : TypeId} {size : Nat} {A : Option Addr} {xs : List Value} {g : Nat} {t : TypeId} {cs : Array Value} (h : w.ownsRow base e size (.slice A n c) n xs) (hk : Blk w g t cs) (hne : e ≠ t) : ∀ g', A = some ⟨g', 0, none⟩ → g' ≠ g := by
  rintro g' rfl rfl
  rcases h.2 with ⟨h0, _⟩ | ⟨g, cap, cur, hv, hb, hh, _⟩
  · cases h0
  · injection hv with hA
    injection hA with hA
    injection hA with hA
    subst hA
    unfold Blk at hk
    rw [hh] at hk
    injection hk with hk
    injection hk with _ ht
    exact hne ht

section
variable {P : Program} (w : World)
theorem own_slice {w : World} {base n : Nat} {e : TypeId} {size : Nat} {v : Value} {xs : List Value} (h : w.ownsRow base e size v n xs) : ∃ A c, v = .slice A n c := by
  rcases h.2 with ⟨h0, h1⟩ | ⟨g, cap, cur, hv, _⟩
  · exact ⟨none, 0, by rw [h0, h1]⟩
  · exact ⟨_, _, hv⟩

/-- append of whatever source to a row of the call's own. -/
theorem run_append_row (base : Nat) (t ty e : TypeId) (i : TypeInfo) (z : Value) (size bytes : Nat) (ht : P.underlying t = some (.slice e)) (hi : P.info? e = some i) (hz : i.zero = some z)
    (hsize : i.size = size) (hby : i.bytes = bytes) (hzs : z.cells.size = size) (hsz : 0 < size)
    (A : Option Addr) (n c : Nat) (xs : List Value) (hown : w.ownsRow base e size (.slice A n c) n xs)
    (A2 : Option Addr) (m c2 : Nat) (news : List Value) (hl : news.length = m * size) (hsrc : 0 < m → ∃ ad, A2 = some ad ∧ ∀ j u, news[j]? = some u → w.cell? (ad.add j) = some u) (h1 : ∀ u ∈ news, u.oneCell' = true)
    (h63 : n + m ≤ maxLen) (hbytes : (n + m) * bytes ≤ 140737488355328) (hbase : base ≤ w.heap.size) :
    ∃ A' c' w', (Builtin.append_ #[t, t] ty #[.slice A n c, .slice A2 m c2]).run P w = .ok (.slice A' (n + m) c') w' ∧ w'.ownsRow base e size (.slice A' (n + m) c') (n + m) (xs ++ news) ∧
      w.grownBy w' (Value.slice A n c).ownBlock ∧ ((Value.slice A' (n + m) c').ownBlock = (Value.slice A n c).ownBlock ∨ (Value.slice A' (n + m) c').ownBlock = some w.heap.size) := by
  cases A2 with
  | none =>
    have hm : m = 0 := by
      rcases Nat.eq_zero_or_pos m with h0 | h0
      · exact h0
      · obtain ⟨ad, h, _⟩ := hsrc h0
        cases h
    subst hm
    have hn : news = [] := List.eq_nil_of_length_eq_zero (by simpa using hl)
    subst hn
    refine ⟨A, c, w, ?_, by simpa using hown, ⟨rfl, rfl, rfl, Nat.le_refl _, fun _ _ _ => rfl⟩, .inl rfl⟩
    rcases hown.2 with ⟨hv, h0⟩ | ⟨g, cap, cur, hv, _, _, hnc, _⟩
    · injection hv with e1 e2 e3
      subst e1; subst e2; subst e3
      simp [Builtin.append_, run_underlying ht, sizeOf, typeInfo, hi, Builtin.lenOf, Builtin.firstCells]
    · injection hv with e1 e2 e3
      subst e1; subst e3
      simp [Builtin.append_, run_underlying ht, sizeOf, typeInfo, hi, Builtin.lenOf, Builtin.firstCells, hnc, storeCells]
  | some ad =>
    have hc : ∀ j u, news[j]? = some u → w.cell? (ad.add j) = some u := by
      intro j u hu
      rcases Nat.eq_zero_or_pos m with h0 | h0
      · subst h0
        have hn : news = [] := List.eq_nil_of_length_eq_zero (by simpa using hl)
        subst hn
        simp at hu
      · obtain ⟨ad', h, hh⟩ := hsrc h0
        injection h with h
        subst h
        exact hh j u hu
    obtain ⟨v', w', hrun, h2, h3, _, h5⟩ := run_append_own_at (P := P) w base t ty e i z size bytes ht hi hz hsize hby hzs hsz (.slice A n c) n xs hown ad m c2 news hl hc h1 h63 hbytes hbase
    obtain ⟨A', c', rfl⟩ := own_slice h2
    exact ⟨A', c', w', hrun, h2, h3, h5⟩

theorem wpList_append_row {ops : Array Oper} {rest : List Oper} {o : Oper} {a : Act} {Q : Exit → Act → World → Prop} (hgd : o.guard = none) (s x : Operand) (t : TypeId)
    (ho : o.op = .call { callee := .builtin .append, args := #[s, x], argTypes := #[t, t] })
    (base : Nat) (e : TypeId) (i : TypeInfo) (z : Value) (size bytes : Nat) (ht : P.underlying t = some (.slice e)) (hi : P.info? e = some i) (hz : i.zero = some z)
    (hsize : i.size = size) (hby : i.bytes = bytes) (hzs : z.cells.size = size) (hsz : 0 < size)
    (A : Option Addr) (n c : Nat) (xs : List Value) (hs : a.eval s = .slice A n c) (hown : w.ownsRow base e size (.slice A n c) n xs)
    (A2 : Option Addr) (m c2 : Nat) (news : List Value) (hx : a.eval x = .slice A2 m c2) (hl : news.length = m * size) (hsrc : 0 < m → ∃ ad, A2 = some ad ∧ ∀ j u, news[j]? = some u → w.cell? (ad.add j) = some u) (h1 : ∀ u ∈ news, u.oneCell' = true)
    (h63 : n + m ≤ maxLen) (hbytes : (n + m) * bytes ≤ 140737488355328) (hbase : base ≤ w.heap.size)
    (h : ∀ A' c' w', Hid (w'.ownsRow base e size (.slice A' (n + m) c') (n + m) (xs ++ news)) → w.grownBy w' (Value.slice A n c).ownBlock → Hid ((Value.slice A' (n + m) c').ownBlock = (Value.slice A n c).ownBlock ∨ (Value.slice A' (n + m) c').ownBlock = some w.heap.size) → wpList P ops Q rest (a.put o.dst (.slice A' (n + m) c')) w') : wpList P ops Q (o :: rest) a w := by
  refine wpList_plain hgd fun _ hK => ?_
  obtain ⟨A', c', w', hrun, h2, h3, h4⟩ := run_append_row (P := P) w base t o.type e i z size bytes ht hi hz hsize hby hzs hsz A n c xs hown A2 m c2 news hl hsrc h1 h63 hbytes hbase
  unfold Oper.wp execOp
  simp only [ho, resolve, invoke, builtin, Sem.run_bind, Sem.run_pure, Result.andThen_ok, List.map_toArray, List.map_cons, List.map_nil, hs, hx, hrun]
  exact hK _ _ (h A' c' w' h2 h3 h4)
end

/-- Behind an append: which block is written. -/
theorem below_grown {B n c : Nat} {a w w' : World} {e : TypeId} {size base : Nat} {A : Option Addr} {xs : List Value} (h : Below B a w) (hg : w.grownBy w' (Value.slice A n c).ownBlock) (hown : w.ownsRow base e size (.slice A n c) n xs) (hB : B ≤ base) (hs : B ≤ w.heap.size) : Below B a w' :=
  h.grown hg hs fun k hk => by
    have := (hown.lt k hk).1
    omega

theorem Blk.grownO {w w' : World} {g : Nat} {t : TypeId} {cs : Array Value} {base n c : Nat} {e : TypeId} {size : Nat} {A : Option Addr} {xs : List Value} (h : Blk w g t cs) (hg : w.grownBy w' (Value.slice A n c).ownBlock) (hown : w.ownsRow base e size (.slice A n c) n xs) (hne : e ≠ t) : Blk w' g t cs := by
  refine h.grown hg fun he => ?_
  have hn := own_ne hown h hne
  rcases hown.2 with ⟨h0, _⟩ | ⟨g', cap, cur, hv, _⟩
  · injection h0 with h0
    subst h0
    cases he
  · injection hv with hA
    subst hA
    injection he with he
    exact hn g' rfl he.symm

theorem arcs_setCap : ∀ (L : List ArcN) (k : Nat) (b : ArcN) (c : Int), L[k]? = some b → (L.flatMap arcCells).set (k * 3 + 2) (.int .i64 c) = (L.set k ⟨b.frm, b.to, c⟩).flatMap arcCells
  | [], k, b, c, h => by simp at h
  | x :: r, 0, b, c, h => by simp at h; subst h; simp [arcCells]
  | x :: r, k + 1, b, c, h => by
    have ih := arcs_setCap r k b c (by simpa using h)
    simp only [List.set_cons_succ, List.flatMap_cons, ← ih]
    rw [show (k + 1) * 3 = (arcCells x).length + k * 3 from by simp [arcCells]; omega, Nat.add_assoc, set_app]
theorem own_setCap {w : World} {base e g cap n : Nat} {L : List ArcN} {k : Nat} {b : ArcN} (h : w.ownsRow base e 3 (.slice (some ⟨g, 0, none⟩) n cap) n (L.flatMap arcCells)) (hk : L[k]? = some b) (c : Int) :
    (w.setCell ⟨g, k * 3 + 2, none⟩ (.int .i64 c)).ownsRow base e 3 (.slice (some ⟨g, 0, none⟩) n cap) n ((L.set k ⟨b.frm, b.to, c⟩).flatMap arcCells) := by
  rw [← arcs_setCap L k b c hk]
  exact (h.stored _ _).1

/-- A block above a row's own stays while the row grows. -/
theorem Blk.grownUp {w0 w w' : World} {g : Nat} {t : TypeId} {cs : Array Value} {base n c : Nat} {e : TypeId} {size : Nat} {A : Option Addr} {xs : List Value} (h : Blk w g t cs) (hg : w.grownBy w' (Value.slice A n c).ownBlock) (hown : w0.ownsRow base e size (.slice A n c) n xs) (hle : w0.heap.size ≤ g) : Blk w' g t cs := by
  refine h.grown hg fun he => ?_
  have := (hown.lt g he.symm).2
  omega
theorem own_keptNe {w w' : World} {base n c : Nat} {e : TypeId} {size : Nat} {A : Option Addr} {xs : List Value} {b : Nat} (h : w.ownsRow base e size (.slice A n c) n xs) (hg : w.grownBy w' (some b)) (hne : ∀ g, A = some ⟨g, 0, none⟩ → b ≠ g) : w'.ownsRow base e size (.slice A n c) n xs := by
  refine h.kept hg ?_
  rcases h.2 with ⟨h0, _⟩ | ⟨g, cap, cur, hv, _⟩
  · injection h0 with h0
    subst h0
    exact .inl rfl
  · injection hv with hA
    subst hA
    exact .inr fun e => hne g rfl (by injection e with e; exact e.symm)
theorem grown_own_ne {A : Option Addr} {n c b : Nat} {w : World} {base : Nat} {e : TypeId} {size : Nat} {xs : List Value} (h : w.ownsRow base e size (.slice A n c) n xs) (hne : ∀ g, A = some ⟨g, 0, none⟩ → b ≠ g) : some b ≠ (Value.slice A n c).ownBlock := by
  rcases h.2 with ⟨h0, _⟩ | ⟨g, cap, cur, hv, _⟩
  · injection h0 with h0
    subst h0
    simp [Value.ownBlock]
  · injection hv with hA
    subst hA
    intro e
    exact hne g rfl (by injection e)
theorem snoc_set (J : List ArcN) (a b : ArcN) : (J ++ [a]).set J.length b = J ++ [b] := by
  simp

end Go.Proofs.Ytmmafibeciaghaa
