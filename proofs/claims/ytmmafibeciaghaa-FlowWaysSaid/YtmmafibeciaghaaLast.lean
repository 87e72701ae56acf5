/- A statement whose last step comes behind all others: it may be kept for the end. -/
import Derived.Test.YtmmafibeciaghaaLaws
import Derived.OrdersHeld
namespace Go.Proofs.Ytmmafibeciaghaa
open Go.RowKit

section
variable {P : Program} {ops : Array Oper} {o : Oper} {Q : Exit → Act → World → Prop} {md : Region.Mode}

/-- The last one waits for all others; the others look back alone; nothing is guarded. -/
def lastOk (md : Region.Mode) (ops : Array Oper) (o : Oper) : Bool :=
  o.guard.isNone && o.after.all (fun e => decide (e.on < ops.size)) && (List.range ops.size).all (fun i => o.after.any fun e => Region.binds md e && e.on == i) &&
    (List.range ops.size).all fun j => match ops[j]? with
      | some oj => oj.guard.isNone && oj.after.all fun e => decide (e.on < j)
      | none => true

theorem lastOk_last (h : lastOk md ops o = true) : o.guard = none ∧ (∀ e ∈ o.after, e.on < ops.size) ∧ ∀ i, i < ops.size → ∃ e ∈ o.after, Region.binds md e = true ∧ e.on = i := by
  simp only [lastOk, Bool.and_eq_true] at h
  obtain ⟨⟨⟨h1, h2⟩, h3⟩, _⟩ := h
  refine ⟨by simpa using h1, fun e he => by simpa using Array.all_eq_true_iff_forall_mem.1 h2 e he, fun i hi => ?_⟩
  have := List.all_eq_true.1 h3 i (List.mem_range.2 hi)
  obtain ⟨e, he, hb⟩ := Array.any_eq_true'.1 this
  simp only [Bool.and_eq_true, beq_iff_eq] at hb
  exact ⟨e, he, hb.1, hb.2⟩
theorem lastOk_head (h : lastOk md ops o = true) {j : Nat} {oj : Oper} (hj : ops[j]? = some oj) : oj.guard = none ∧ ∀ e ∈ oj.after, e.on < j := by
  simp only [lastOk, Bool.and_eq_true] at h
  have hlt : j < ops.size := (Array.getElem?_eq_some_iff.1 hj).1
  have := List.all_eq_true.1 h.2 j (List.mem_range.2 hlt)
  simp only [hj, Bool.and_eq_true] at this
  exact ⟨by simpa using this.1, fun e he => by simpa using Array.all_eq_true_iff_forall_mem.1 this.2 e he⟩

theorem push_at {i : Nat} (hi : i < ops.size) : (ops.push o)[i]? = ops[i]? := by
  rw [Array.getElem?_push, if_neg (by omega)]
theorem push_end : (ops.push o)[ops.size]? = some o := by simp

theorem getD_push {listed : Array Bool} {i : Nat} (d : Bool) (hi : i < listed.size) : (listed.push false).getD i d = listed.getD i d := by
  simp [Array.getD_eq_getD_getElem?, Array.getElem?_push, show ¬ i = listed.size by omega]
theorem getD_pushEnd {listed : Array Bool} (d : Bool) : (listed.push false).getD listed.size d = false := by
  simp [Array.getD_eq_getD_getElem?]

/-- Where nothing may come up, all have. -/
theorem all_listed (h : lastOk md ops o = true) {listed : Array Bool} (hs : listed.size = ops.size) (hr : Region.ready md ops listed = []) : ∀ i, i < ops.size → listed.getD i false = true := by
  intro i
  induction i using Nat.strongRecOn with
  | _ i ih =>
    intro hi
    have hoi : ops[i]? = some ops[i] := Array.getElem?_eq_getElem hi
    have hnot : i ∉ Region.ready md ops listed := by rw [hr]; simp
    cases hl : listed.getD i false with
    | true => rfl
    | false =>
      refine absurd (mem_ready.2 ⟨?_, ops[i], hoi, fun e he _ => ?_⟩) hnot
      · have : i < listed.size := by omega
        simp [this] at hl ⊢
        exact hl
      · have := (lastOk_head h hoi).2 e he
        exact ih _ this (by omega)

theorem ready_push (h : lastOk md ops o = true) {listed : Array Bool} (hs : listed.size = ops.size) {i : Nat} (hi : i ∈ Region.ready md (ops.push o) (listed.push false)) :
    (i < ops.size ∧ i ∈ Region.ready md ops listed) ∨ (i = ops.size ∧ ∀ k, k < ops.size → listed.getD k false = true) := by
  obtain ⟨h1, oi, h2, h3⟩ := mem_ready.1 hi
  have hlt : i < (ops.push o).size := (Array.getElem?_eq_some_iff.1 h2).1
  simp at hlt
  by_cases he : i = ops.size
  · subst he
    right
    refine ⟨rfl, fun k hk => ?_⟩
    rw [push_end] at h2
    injection h2 with h2
    subst h2
    obtain ⟨e, he, hb, rfl⟩ := (lastOk_last h).2.2 k hk
    have := h3 e he hb
    rwa [getD_push _ (by omega)] at this
  · left
    have hi' : i < ops.size := by omega
    rw [push_at hi'] at h2
    refine ⟨hi', mem_ready.2 ⟨?_, oi, h2, fun e he hb => ?_⟩⟩
    · rwa [getD_push _ (by omega)] at h1
    · have h4 := h3 e he hb
      have h5 := (lastOk_head h h2).2 e he
      rwa [getD_push _ (by omega)] at h4
theorem ready_end (h : lastOk md ops o = true) {listed : Array Bool} (hs : listed.size = ops.size) (hall : ∀ k, k < ops.size → listed.getD k false = true) : ops.size ∈ Region.ready md (ops.push o) (listed.push false) := by
  refine mem_ready.2 ⟨?_, o, push_end, fun e he _ => ?_⟩
  · rw [← hs]; exact getD_pushEnd _
  · have h1 := (lastOk_last h).2.1 e he
    rw [getD_push _ (by omega)]
    exact hall _ h1
theorem ready_in {listed : Array Bool} (h : lastOk md ops o = true) (hs : listed.size = ops.size) {i : Nat} (hi : i ∈ Region.ready md ops listed) : i ∈ Region.ready md (ops.push o) (listed.push false) := by
  obtain ⟨h1, oi, h2, h3⟩ := mem_ready.1 hi
  have hlt : i < ops.size := (Array.getElem?_eq_some_iff.1 h2).1
  refine mem_ready.2 ⟨?_, oi, by rw [push_at hlt]; exact h2, fun e he hb => ?_⟩
  · rw [getD_push _ (by omega)]; exact h1
  · have h5 := (lastOk_head h h2).2 e he
    rw [getD_push _ (by omega)]
    exact h3 e he hb

theorem upon_then {a : Act} {next K' : Act → World → Prop} {r : Result Next} (h : o.upon P a next (Exit.then K' Q) r) : o.upon P a next Q r := by
  cases r with
  | ok n w' => cases n <;> exact h
  | halt x w' => cases x <;> exact h
theorem wpOp_push (hl : lastOk md ops o = true) {i : Nat} {K K' : Act → World → Prop} {a : Act} {w : World} (hi : i < ops.size) (h : wpOp P ops (Exit.then K' Q) i K a w) : wpOp P (ops.push o) Q i K a w := by
  unfold wpOp at h ⊢
  rw [push_at hi]
  have hoi : ops[i]? = some ops[i] := Array.getElem?_eq_getElem hi
  simp only [hoi, Region.wanted, (lastOk_head hl hoi).1, if_true] at h ⊢
  exact h.imp upon_then id

theorem wpAny_push (hl : lastOk md ops o = true) : ∀ (fuel : Nat) (listed : Array Bool) (a : Act) (w : World), listed.size = ops.size →
    wpAny P md ops (Exit.then (fun a w => o.wp P a w (Q .normal) Q) Q) fuel listed a w → wpAny P md (ops.push o) Q (fuel + 1) (listed.push false) a w := by
  have fin : ∀ (fuel : Nat) (listed : Array Bool) (a : Act) (w : World), listed.size = ops.size → (∀ k, k < ops.size → listed.getD k false = true) → o.wp P a w (Q .normal) Q →
      wpAny P md (ops.push o) Q (fuel + 1) (listed.push false) a w := by
    intro fuel listed a w hs hall hw
    refine ⟨fun h0 => absurd (ready_end hl hs hall) (by rw [h0]; simp), fun i hi => ?_⟩
    rcases ready_push hl hs hi with ⟨hlt, hir⟩ | ⟨rfl, _⟩
    · have h1 := (mem_ready.1 hir).1
      have h2 := hall i hlt
      have : i < listed.size := by omega
      simp [this] at h1 h2
      rw [h1] at h2; cases h2
    · unfold wpOp
      simp only [push_end, Region.wanted, (lastOk_last hl).1, if_true]
      left
      refine Oper.wp_mono (fun a' w' hk => wpAny_done ?_ hk _) hw
      rw [← hs]
      cases hr : Region.ready md (ops.push o) ((listed.push false).setIfInBounds listed.size true) with
      | nil => rfl
      | cons j rs =>
        have hj : j ∈ Region.ready md (ops.push o) ((listed.push false).setIfInBounds listed.size true) := by rw [hr]; simp
        obtain ⟨h1, oj, h2, _⟩ := mem_ready.1 hj
        have hjl : j < (ops.push o).size := (Array.getElem?_eq_some_iff.1 h2).1
        simp at hjl
        by_cases e : j = listed.size
        · subst e
          simp [Array.getD_eq_getD_getElem?] at h1
        · rw [getD_set_ne true (fun e' => e e'.symm), getD_push _ (by omega)] at h1
          have h3 := hall j (by omega)
          have : j < listed.size := by omega
          simp [this] at h1 h3
          rw [h1] at h3; cases h3
  intro fuel
  induction fuel with
  | zero =>
    intro listed a w hs h
    exact fin 0 listed a w hs (all_listed hl hs h.1) h.2
  | succ fuel ih =>
    intro listed a w hs h
    cases hr : Region.ready md ops listed with
    | nil => exact fin _ listed a w hs (all_listed hl hs hr) (h.1 hr)
    | cons j rs =>
      have hj : j ∈ Region.ready md ops listed := by rw [hr]; simp
      refine ⟨fun h0 => absurd (ready_in hl hs hj) (by rw [h0]; simp), fun i hi => ?_⟩
      rcases ready_push hl hs hi with ⟨hlt, hir⟩ | ⟨rfl, hall⟩
      · have h1 := h.2 i hir
        refine wpOp_push hl hlt (wpOp_mono (fun a' w' hh => ?_) h1)
        have := ih (listed.setIfInBounds i true) a' w' (by simpa using hs) hh
        rwa [show (listed.push false).setIfInBounds i true = (listed.setIfInBounds i true).push false from by
          apply Array.ext'
          simp only [Array.toList_setIfInBounds, Array.toList_push]
          rw [List.set_append_left _ _ (by simpa using by omega)]]
      · have h1 := hall j ((Array.getElem?_eq_some_iff.1 (mem_ready.1 hj).2.choose_spec.1).1)
        have h2 := (mem_ready.1 hj).1
        have : j < listed.size := by rw [hs]; exact (Array.getElem?_eq_some_iff.1 (mem_ready.1 hj).2.choose_spec.1).1
        simp [this] at h1 h2
        rw [h1] at h2; cases h2

theorem replicate_push (n : Nat) : (Array.replicate n false).push false = Array.replicate (n + 1) false := by
  apply Array.ext'
  simp [List.replicate_succ']

/-- A region whose last step comes behind all others, begun: the others under S; then the last one. -/
theorem wp_region_last {S : World → Prop} {id : Nat} {all : Array Oper} {a : Act} {w : World} (ops : Array Oper) (o : Oper) (hm : P.follows .mixedOrders = true) (ha : all = ops.push o) (hl : lastOk .any ops o = true) (hS : S w.drew)
    (h : S w.drew → wpAnyH P .any ops (Exit.then (fun a w => o.wp P a w (Q .normal) Q) Q) S ops.size (Array.replicate ops.size false) a w.drew) : (Code.region id all true).wp P Q a w := by
  subst ha
  refine wp_region_any hm ?_
  have := wpAny_push hl ops.size _ a w.drew (by simp) (wpAny_of_held _ _ _ _ (h hS))
  rw [replicate_push] at this
  simpa using this

/-- The same, the statement told as a list. -/
theorem wp_region_lastL {S : World → Prop} {id : Nat} {a : Act} {w : World} {os : List Oper} {o : Oper} (ho : os.getLast? = some o) (hm : P.follows .mixedOrders = true) (hl : lastOk .any os.dropLast.toArray o = true) (hS : S w.drew)
    (h : S w.drew → wpAnyH P .any os.dropLast.toArray (Exit.then (fun a w => o.wp P a w (Q .normal) Q) Q) S os.dropLast.toArray.size (Array.replicate os.dropLast.toArray.size false) a w.drew) : (Code.region id os.toArray true).wp P Q a w := by
  refine wp_region_last _ o hm ?_ hl hS h
  obtain ⟨ys, rfl⟩ := List.getLast?_eq_some_iff.1 ho
  simp
end

section
variable {P : Program} (w : World)
theorem step_append_row {ops : Array Oper} {o : Oper} {a : Act} {K : Act → World → Prop} {Q : Exit → Act → World → Prop} {E : Prop} (hgd : o.guard = none) (s x : Operand) (t : TypeId)
    (ho : o.op = .call { callee := .builtin .append, args := #[s, x], argTypes := #[t, t] })
    (base : Nat) (e : TypeId) (i : TypeInfo) (z : Value) (size bytes : Nat) (ht : P.underlying t = some (.slice e)) (hi : P.info? e = some i) (hz : i.zero = some z)
    (hsize : i.size = size) (hby : i.bytes = bytes) (hzs : z.cells.size = size) (hsz : 0 < size)
    (A : Option Addr) (n c : Nat) (xs : List Value) (hs : a.eval s = .slice A n c) (hown : w.ownsRow base e size (.slice A n c) n xs)
    (A2 : Option Addr) (m c2 : Nat) (news : List Value) (hx : a.eval x = .slice A2 m c2) (hl : news.length = m * size) (hsrc : 0 < m → ∃ ad, A2 = some ad ∧ ∀ j u, news[j]? = some u → w.cell? (ad.add j) = some u) (h1 : ∀ u ∈ news, u.oneCell' = true)
    (h63 : n + m ≤ maxLen) (hbytes : (n + m) * bytes ≤ 140737488355328) (hbase : base ≤ w.heap.size)
    (h : ∀ A' c' w', Hid (w'.ownsRow base e size (.slice A' (n + m) c') (n + m) (xs ++ news)) → w.grownBy w' (Value.slice A n c).ownBlock → Hid ((Value.slice A' (n + m) c').ownBlock = (Value.slice A n c).ownBlock ∨ (Value.slice A' (n + m) c').ownBlock = some w.heap.size) → K (a.put o.dst (.slice A' (n + m) c')) w') :
    if Region.wanted o (yielded ops a.tmps) = true then Oper.wp P o a w K Q else E := by
  have hw : Region.wanted o (yielded ops a.tmps) = true := by simp [Region.wanted, hgd]
  rw [if_pos hw]
  obtain ⟨A', c', w', hrun, h2, h3, h4⟩ := run_append_row (P := P) w base t o.type e i z size bytes ht hi hz hsize hby hzs hsz A n c xs hown A2 m c2 news hl hsrc h1 h63 hbytes hbase
  unfold Oper.wp execOp
  simp only [ho, resolve, invoke, builtin, Sem.run_bind, Sem.run_pure, Result.andThen_ok, List.map_toArray, List.map_cons, List.map_nil, hs, hx, hrun]
  exact h A' c' w' h2 h3 h4
end

theorem Blk.set4' {w : World} {g : Nat} {t : TypeId} {u0 u1 u2 u3 : Value} (h : Blk w g t #[u0, u1, u2, u3]) (v3 : Value) : Blk (w.setCell ⟨g, 3, none⟩ v3) g t #[u0, u1, u2, v3] := by
  have := h.set 3 v3
  simpa using this

end Go.Proofs.Ytmmafibeciaghaa
