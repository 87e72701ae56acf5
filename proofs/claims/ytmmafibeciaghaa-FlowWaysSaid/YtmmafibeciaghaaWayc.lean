/- Ranging over a map that is told as a function of integers; how much may be sent, arc by arc. -/
import Derived.Test.YtmmafibeciaghaaWayb
namespace Go.Proofs.Ytmmafibeciaghaa
open Go.RowKit Go.Maps

/-- 'for k, v := range m' under way: 'left x': is x's entry still to come? -/
def RangesTo (w : World) (b r n : Nat) (m : Int → Option Int) (left : Int → Bool) (cnt : Nat) : Prop :=
  ∃ (D : DataW Unit) (L : Lit → Bool), w.ranges Try.prog 3 (plainElem Try.prog 2) b r n D L cnt ∧ (∀ x, InR x → D.atKey (.int .i64 x) (.lit (.int .i64 0)) = .lit (.int .i64 ((m x).getD 0))) ∧ ∀ x, left x = L (.int .i64 x)

section
variable {w w' : World} {b r n cnt : Nat} {m : Int → Option Int} {left : Int → Bool}
theorem RangesTo.left_eq (h : RangesTo w b r n m left cnt) : w.rangeLeft b r = cnt := by
  obtain ⟨D, L, h, _⟩ := h
  exact h.left_eq
theorem RangesTo.lt (h : RangesTo w b r n m left cnt) : r < w.heap.size ∧ b < w.heap.size := by
  obtain ⟨D, L, h, _⟩ := h
  exact ⟨h.lt, h.owns.lt⟩
theorem RangesTo.kept {row : Option Nat} (h : RangesTo w b r n m left cnt) (hg : w.grownBy w' row) (hb : some b ≠ row) (hr : some r ≠ row) : RangesTo w' b r n m left cnt := by
  obtain ⟨D, L, h, rest⟩ := h
  exact ⟨D, L, h.kept hg hb hr, rest⟩
theorem RangesTo.alloc (h : RangesTo w b r n m left cnt) (o : Obj) : RangesTo (w.alloc o) b r n m left cnt := by
  obtain ⟨D, L, h, rest⟩ := h
  exact ⟨D, L, h.alloc o, rest⟩
theorem RangesTo.drew (h : RangesTo w b r n m left cnt) : RangesTo w.drew b r n m left cnt := by
  obtain ⟨D, L, h, rest⟩ := h
  exact ⟨D, L, h, rest⟩
theorem RangesTo.drewN (h : RangesTo w b r n m left cnt) (k : Nat) : RangesTo (w.drewN k) b r n m left cnt := by
  obtain ⟨D, L, h, rest⟩ := h
  exact ⟨D, L, h, rest⟩
/-- A cell of another block is written. -/
theorem RangesTo.setCell (h : RangesTo w b r n m left cnt) {a : Addr} (hb : b ≠ a.block) (hr : r ≠ a.block) (u : Value) : RangesTo (w.setCell a u) b r n m left cnt := by
  refine h.kept (row := some a.block) ⟨rfl, rfl, rfl, by simp, fun k _ hk => Below.heap_setCell w a u k fun e => hk (by rw [e])⟩ ?_ ?_
  · intro e; injection e with e; exact hb e
  · intro e; injection e with e; exact hr e

variable {ops : Array Oper} {rest : List Oper} {o : Oper} {a : Act} {Q : Exit → Act → World → Prop}
theorem wpList_range_to (hg : o.guard = none) (mo : Operand) (hop : o.op = Op.range 60 mo) (hm : a.eval mo = .map (some b)) (hM : MapsTo intV Try.prog 3 2 w b n m)
    (hK : ∀ w' left cnt, RangesTo w' b w.heap.size n m left cnt → Hid (∀ x, InR x → left x = (m x).isSome) → w.grownBy w' none → w'.heap.size = w.heap.size + 1 → wpList Try.prog ops Q rest (a.put o.dst (.pointer (some ⟨w.heap.size, 0, none⟩))) w') :
    wpList Try.prog ops Q (o :: rest) a w := by
  obtain ⟨D, h1, h2⟩ := hM
  refine wpList_range_own w hg mo _ hop 3 2 (int_keyed Try.underlying3) Try.underlying60 _ b n D hm h1 ?_
  intro w' h3 h4 h5
  exact hK w' (fun x => Maps.has D (.int .i64 x)) _ ⟨D, _, h3, fun x hx => (h2 x _ (keyInt hx)).2, fun x => rfl⟩ (fun x hx => (h2 x _ (keyInt hx)).1) h4 h5
theorem inR_wf {x : Int} (h : (Lit.int .i64 x).wf = true) : InR x := by
  simp [Lit.wf, IntKind.min, IntKind.max, IntKind.signed, IntKind.bits] at h
  exact ⟨by omega, by omega⟩
theorem wpList_next_to (hg : o.guard = none) (it : Operand) (hop : o.op = Op.next it false) (hit : a.eval it = .pointer (some ⟨r, 0, none⟩)) (h : RangesTo w b r n m left cnt)
    (hDone : (∀ x, InR x → left x = false) → wpList Try.prog ops Q rest (a.put o.dst (.tuple #[.bool false])) w)
    (hMore : ∀ (x c : Int) (w' : World) (cnt' : Nat), InR x → left x = true → Hid (c = (m x).getD 0) → RangesTo w' b r n m (fun z => left z && !decide (z = x)) cnt' → cnt' < cnt → w.grownBy w' (some r) → w'.heap.size = w.heap.size →
      (Instr.entry (.pointer (some ⟨r, 0, none⟩))).run Try.prog w' = .ok (.tuple #[.int .i64 x, .int .i64 c]) w' → wpList Try.prog ops Q rest (a.put o.dst (.tuple #[.bool true, .int .i64 x, .int .i64 c])) w') :
    wpList Try.prog ops Q (o :: rest) a w := by
  obtain ⟨D, L, h1, h2, h3⟩ := h
  refine wpList_next_ranges_ii w hg it hop 3 2 .i64 .i64 (int_keyed Try.underlying3) Try.underlying3 Try.underlying2 b r n D L cnt hit h1 (fun _ hl => hDone fun x hx => by rw [h3, hl]) ?_
  intro x c w' cnt' hx hc hl hat hrg hlt hgr hsz hen
  have hxr := inR_wf hx
  refine hMore x c w' cnt' hxr (by rw [h3, hl]) ?_ ⟨D, _, hrg, h2, fun z => ?_⟩ hlt hgr hsz hen
  · have := (hat (.lit (.int .i64 0))).symm.trans (h2 x hxr)
    injection this with this
    injection this with _ this
  · simp only [h3, Lit.sameKey]
    congr 2
    simp
end

/-- The greatest number that those arcs take of which 'done' speaks. -/
def RoomTo (l : List ArcN) (F : List Int) (H : List HopN) (done : Nat → Prop) (r : Int) : Prop :=
  0 ≤ r ∧ r ≤ maxSum ∧ ∀ d, 0 ≤ d → d ≤ maxSum → (d ≤ r ↔ ∀ (i : Nat) (a : ArcN) (x : Int), done i → l[i]? = some a → F[i]? = some x → 0 ≤ x + d * surp H i ∧ x + d * surp H i ≤ a.cap)
section
variable {l : List ArcN} {F : List Int} {H : List HopN} {done done' : Nat → Prop} {r q x t : Int} {i : Nat} {a : ArcN}
theorem RoomTo.zero (h : ∀ i, ¬ done i) : RoomTo l F H done 4611686018427387904 :=
  ⟨by omega, by unfold maxSum; omega, fun d _ h2 => ⟨fun _ i a x hd => absurd hd (h i), fun _ => by unfold maxSum at h2; exact h2⟩⟩
theorem RoomTo.step (h : RoomTo l F H done r) (ha : l[i]? = some a) (hx : F[i]? = some x) (hd : ∀ j, done' j ↔ done j ∨ j = i) (hq0 : 0 ≤ q) (hq : ∀ d, 0 ≤ d → (d ≤ q ↔ 0 ≤ x + d * surp H i ∧ x + d * surp H i ≤ a.cap)) :
    RoomTo l F H done' (if r ≤ q then r else q) := by
  obtain ⟨h0, h1, h2⟩ := h
  refine ⟨by split <;> omega, by split <;> omega, fun d hd0 hd1 => ?_⟩
  have e : d ≤ (if r ≤ q then r else q) ↔ d ≤ r ∧ d ≤ q := by split <;> omega
  rw [e, h2 d hd0 hd1, hq d hd0]
  constructor
  · rintro ⟨h3, h4⟩ j b y hj hb hy
    rcases (hd j).1 hj with hj | rfl
    · exact h3 j b y hj hb hy
    · rw [ha] at hb; rw [hx] at hy
      injection hb with hb; injection hy with hy
      subst hb; subst hy
      exact h4
  · intro h3
    exact ⟨fun j b y hj hb hy => h3 j b y ((hd j).2 (.inl hj)) hb hy, h3 i a x ((hd i).2 (.inr rfl)) ha hx⟩
theorem RoomTo.same (h : RoomTo l F H done r) (hd : ∀ j, done' j ↔ done j ∨ j = i) (ht : surp H i = 0) (hF : FlowIn l F) : RoomTo l F H done' r := by
  obtain ⟨h0, h1, h2⟩ := h
  refine ⟨h0, h1, fun d hd0 hd1 => ?_⟩
  rw [h2 d hd0 hd1]
  constructor
  · intro h3 j b y hj hb hy
    rcases (hd j).1 hj with hj | rfl
    · exact h3 j b y hj hb hy
    · rw [ht, Int.mul_zero, Int.add_zero]
      exact hF.ent _ _ _ hb hy
  · exact fun h3 j b y hj hb hy => h3 j b y ((hd j).2 (.inl hj)) hb hy
theorem RoomTo.all (h : RoomTo l F H done r) (hd : ∀ j : Nat, ¬ done j → surp H j = 0) (hF : FlowIn l F) : IsRoom l F H r := by
  obtain ⟨h0, h1, h2⟩ := h
  refine ⟨h0, h1, fun d hd0 hd1 => ?_⟩
  rw [h2 d hd0 hd1]
  constructor
  · intro h3
    refine ⟨by rw [sent_len]; exact hF.len, fun i a y ha hy => ?_⟩
    obtain ⟨x, hx, rfl⟩ := sent_inv hy
    by_cases hdi : done i
    · exact h3 i a x hdi ha hx
    · rw [hd i hdi, Int.mul_zero, Int.add_zero]
      exact hF.ent i a x ha hx
  · intro h3 i a x _ ha hx
    exact h3.ent i a _ ha (sent_at H d hx)

theorem fits_up {c : Int} (h0 : 0 ≤ x) (h1 : x ≤ c) (ht : 0 < t) : 0 ≤ (c - x).tdiv t ∧ (c - x).tdiv t ≤ c ∧ ∀ d, 0 ≤ d → (d ≤ (c - x).tdiv t ↔ 0 ≤ x + d * t ∧ x + d * t ≤ c) := by
  rw [Int.tdiv_eq_ediv_of_nonneg (by omega)]
  refine ⟨Int.ediv_nonneg (by omega) (by omega), Int.le_trans (Int.ediv_le_self _ (by omega)) (by omega), fun d hd => ?_⟩
  rw [Int.le_ediv_iff_mul_le ht]
  have := Int.mul_nonneg hd (Int.le_of_lt ht)
  omega
theorem fits_down {c : Int} (h0 : 0 ≤ x) (h1 : x ≤ c) (ht : t < 0) : 0 ≤ x.tdiv (-t) ∧ x.tdiv (-t) ≤ c ∧ ∀ d, 0 ≤ d → (d ≤ x.tdiv (-t) ↔ 0 ≤ x + d * t ∧ x + d * t ≤ c) := by
  rw [Int.tdiv_eq_ediv_of_nonneg (by omega)]
  refine ⟨Int.ediv_nonneg (by omega) (by omega), Int.le_trans (Int.ediv_le_self _ (by omega)) (by omega), fun d hd => ?_⟩
  rw [Int.le_ediv_iff_mul_le (by omega), Int.mul_neg]
  have := Int.mul_nonneg hd (show 0 ≤ -t by omega)
  rw [Int.mul_neg] at this
  omega
theorem mapWay_getD (H : List HopN) (i : Int) : (mapWay H i).getD 0 = surp H i := by
  unfold mapWay
  split
  · rfl
  · rename_i h
    symm
    exact surp_none fun k hk e => h (List.any_eq_true.2 ⟨k, hk, by simpa using e⟩)
theorem mapWay_some {i : Int} (h : (mapWay H i).isSome = true) : ∃ k ∈ H, k.arc = i := by
  unfold mapWay at h
  split at h
  · rename_i h'
    obtain ⟨k, hk, e⟩ := List.any_eq_true.1 h'
    exact ⟨k, hk, by simpa using e⟩
  · cases h
theorem mapWay_none {i : Int} (h : (mapWay H i).isSome = false) : surp H i = 0 := by
  rw [← mapWay_getD]
  cases h' : mapWay H i with
  | none => rfl
  | some x => rw [h'] at h; cases h
end

end Go.Proofs.Ytmmafibeciaghaa
