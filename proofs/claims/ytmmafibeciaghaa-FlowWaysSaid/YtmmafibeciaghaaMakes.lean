/- Several makes in one statement, whichever comes first. -/
import Derived.Test.YtmmafibeciaghaaLaws
import Derived.OrdersHeld
namespace Go.Proofs.Ytmmafibeciaghaa
open Go.RowKit

section
variable {P : Program} {ops : Array Oper} {Q : Exit → Act → World → Prop} {S : World → Prop} {md : Region.Mode}

theorem wpOp_make {i : Nat} {o : Oper} {K : Act → World → Prop} {a : Act} {w : World} {x : Operand} {t e : TypeId} {M : Nat} {cs : Array Value}
    (ho : ops[i]? = some o) (hg : o.guard = none) (hop : o.op = .makeSlice t x x) (hx : a.eval x = .int .i64 (M : Int))
    (hmk : (Instr.makeSlice t (.int .i64 (M : Int)) (.int .i64 (M : Int))).run P w = .ok (.slice (some ⟨w.heap.size, 0, none⟩) M M) (w.alloc (.cells cs e)))
    (h : K (a.put o.dst (.slice (some ⟨w.heap.size, 0, none⟩) M M)) (w.alloc (.cells cs e))) : wpOp P ops Q i K a w := by
  unfold wpOp
  simp only [ho, Region.wanted, hg, if_true]
  left
  unfold Oper.wp execOp
  simp [hop, hx, hmk, Result.andThen, Oper.upon]
  exact h

/-- Take number i first, its slot written out. -/
theorem takeD {i : Nat} {oi : Oper} {v : Value} {fuel : Nat} {listed : Array Bool} {a : Act} {w : World} (d : Option Tmp) (hi : ops[i]? = some oi) (hd : oi.dst = d)
    (hs : Region.noSelect ops = true) (hf : Region.free md ops listed i = true) (hr : (Region.ready md ops listed).contains i = true)
    (hQ : ∀ c a w, Q (.panic c) (a.put oi.dst v) w → Q (.panic c) a w) (hy : YieldsIf P ops S oi v a) (hS : S w)
    (h : wpAnyH P md ops Q S fuel (listed.setIfInBounds i true) (a.put d v) w) : wpAnyH P md ops Q S (fuel + 1) listed a w := by
  subst hd
  exact wpAnyH_take hi hs hf hr hQ hy hS h

def putO (M d : Nat) (a : Act) : Option Nat → Act
  | none => a
  | some g => a.put (some d) (.slice (some ⟨g, 0, none⟩) M M)
def actN (D M : Nat → Nat) (a : Act) (b : Nat → Option Nat) : Nat → Act
  | 0 => a
  | n + 1 => putO (M n) (D n) (actN D M a b n) (b n)
def upd (b : Nat → Option Nat) (k g : Nat) : Nat → Option Nat := fun j => if j = k then some g else b j
def remN (b : Nat → Option Nat) : Nat → Nat
  | 0 => 0
  | n + 1 => remN b n + (if (b n).isNone then 1 else 0)

variable {D M : Nat → Nat} {a : Act} {b b' : Nat → Option Nat} {n k g : Nat}

theorem actN_congr (h : ∀ j, j < n → b j = b' j) : actN D M a b n = actN D M a b' n := by
  induction n with
  | zero => rfl
  | succ n ih => simp only [actN]; rw [ih fun j hj => h j (by omega), h n (by omega)]
theorem remN_congr (h : ∀ j, j < n → b j = b' j) : remN b n = remN b' n := by
  induction n with
  | zero => rfl
  | succ n ih => simp only [remN]; rw [ih fun j hj => h j (by omega), h n (by omega)]
theorem putO_put {m d d' : Nat} {o : Option Nat} {v : Value} (h : d ≠ d') : (putO m d a o).put (some d') v = putO m d (a.put (some d') v) o := by
  cases o with
  | none => rfl
  | some g =>
    show (a.put (some d) _).put (some d') v = (a.put (some d') v).put (some d) _
    exact Act.put_comm _ _ _ (fun e he => by injection he with he; subst he; intro h'; injection h' with h'; exact h h'.symm)
theorem actN_upd (hk : k < n) (hb : b k = none) (hD : ∀ i j, i < n → j < n → D i = D j → i = j) :
    (actN D M a b n).put (some (D k)) (.slice (some ⟨g, 0, none⟩) (M k) (M k)) = actN D M a (upd b k g) n := by
  induction n with
  | zero => omega
  | succ n ih =>
    by_cases e : k = n
    · subst e
      simp only [actN, hb, putO]
      rw [actN_congr (b' := b) (b := upd b k g) fun j hj => by unfold upd; rw [if_neg (by omega)]]
      simp [upd]
    · have hne : D n ≠ D k := fun h => e (hD n k (by omega) (by omega) h).symm
      simp only [actN]
      rw [putO_put hne, ih (by omega) fun i j hi hj => hD i j (by omega) (by omega)]
      simp [upd, show ¬ n = k by omega]
theorem remN_upd (hk : k < n) (hb : b k = none) : remN b n = remN (upd b k g) n + 1 := by
  induction n with
  | zero => omega
  | succ n ih =>
    by_cases e : k = n
    · subst e
      simp only [remN, hb]
      rw [remN_congr (b' := b) (b := upd b k g) fun j hj => by unfold upd; rw [if_neg (by omega)]]
      simp [upd]
    · simp only [remN]
      rw [ih (by omega)]
      simp [upd, show ¬ n = k by omega]
      omega
theorem remN_zero (h : remN b n = 0) : ∀ j, j < n → ∃ g, b j = some g := by
  induction n with
  | zero => intro j hj; omega
  | succ n ih =>
    intro j hj
    simp only [remN] at h
    by_cases e : j = n
    · subst e
      cases hb : b j with
      | none => simp [hb] at h
      | some g => exact ⟨g, rfl⟩
    · exact ih (by omega) j (by omega)
theorem remN_pos (h : remN b n ≠ 0) : ∃ j, j < n ∧ b j = none := by
  induction n with
  | zero => simp [remN] at h
  | succ n ih =>
    simp only [remN] at h
    by_cases e : remN b n = 0
    · refine ⟨n, by omega, ?_⟩
      cases hb : b n with
      | none => rfl
      | some g => simp [hb, e] at h
    · obtain ⟨j, hj, hb⟩ := ih e
      exact ⟨j, by omega, hb⟩
theorem remN_none (n : Nat) : remN (fun _ => none) n = n := by
  induction n with
  | zero => rfl
  | succ n ih => simp [remN, ih]
theorem actN_none (n : Nat) : actN D M a (fun _ => none) n = a := by
  induction n with
  | zero => rfl
  | succ n ih => simp [actN, putO, ih]
theorem actN_eval {x : Operand} (hx : ∀ j, j < n → x ≠ .tmp (D j)) : (actN D M a b n).eval x = a.eval x := by
  induction n with
  | zero => rfl
  | succ n ih =>
    have h := ih fun j hj => hx j (by omega)
    simp only [actN]
    cases b n with
    | none => exact h
    | some g => exact (Act.eval_put (fun d hd => by injection hd with hd; subst hd; exact hx n (by omega))).trans h

/-- The makes of a region, once only these may come up: whichever comes first, each has a block of its own in the end. -/
theorem wpAnyH_makes {fuel : Nat} {I : Nat → Nat} {E T : Nat → TypeId} {C : Nat → Array Value} {X : Nat → Operand} {L : (Nat → Bool) → Array Bool} {w0 : World}
    (hop : ∀ k, k < n → ∃ o, ops[I k]? = some o ∧ o.guard = none ∧ o.op = .makeSlice (T k) (X k) (X k) ∧ o.dst = some (D k))
    (hx : ∀ k, k < n → a.eval (X k) = .int .i64 (M k : Int)) (hxd : ∀ k j, k < n → j < n → X k ≠ .tmp (D j)) (hD : ∀ i j, i < n → j < n → D i = D j → i = j)
    (hmk : ∀ k, k < n → ∀ W : World, (Instr.makeSlice (T k) (.int .i64 (M k : Int)) (.int .i64 (M k : Int))).run P W = .ok (.slice (some ⟨W.heap.size, 0, none⟩) (M k) (M k)) (W.alloc (.cells (C k) (E k))))
    (hL : ∀ β β', (∀ k, k < n → β k = β' k) → L β = L β')
    (hset : ∀ k β, k < n → (L β).setIfInBounds (I k) true = L (fun j => if j = k then true else β j))
    (hr1 : ∀ β i, i ∈ Region.ready md ops (L β) → (∃ k, k < n ∧ β k = false ∧ i = I k) ∨ ∀ k, k < n → β k = true)
    (hr2 : ∀ β k, k < n → β k = false → Region.ready md ops (L β) ≠ [])
    (hS : ∀ w, Below w0.heap.size w0 w → S w)
    (hfin : ∀ (g : Nat → Nat) w, Below w0.heap.size w0 w → (∀ k, k < n → w0.heap.size ≤ g k ∧ Blk w (g k) (E k) (C k)) → (∀ k k', k < n → k' < n → g k = g k' → k = k') →
      wpAnyH P md ops Q S fuel (L fun _ => true) (actN D M a (fun k => some (g k)) n) w) :
    wpAnyH P md ops Q S (fuel + n) (L fun _ => false) a w0 := by
  have key : ∀ (c : Nat) (b : Nat → Option Nat) (w : World), remN b n = c → Below w0.heap.size w0 w → (∀ k g, k < n → b k = some g → w0.heap.size ≤ g ∧ Blk w g (E k) (C k)) →
      (∀ k k' g, k < n → k' < n → b k = some g → b k' = some g → k = k') → wpAnyH P md ops Q S (fuel + c) (L fun j => (b j).isSome) (actN D M a b n) w := by
    intro c
    induction c with
    | zero =>
      intro b w hc hb hk hi
      have hall := remN_zero hc
      have hg : ∀ j, j < n → b j = some ((b j).getD 0) := fun j hj => by obtain ⟨g, e⟩ := hall j hj; rw [e]; rfl
      have h := hfin (fun j => (b j).getD 0) w hb (fun k hkn => hk k _ hkn (hg k hkn)) (fun k k' h1 h2 he => hi k k' _ h1 h2 (hg k h1) (by rw [hg k' h2, ← he]))
      rw [actN_congr (b' := b) (b := fun k => some ((b k).getD 0)) fun j hj => (hg j hj).symm] at h
      rw [hL (fun j => (b j).isSome) (fun _ => true) fun k hkn => by rw [hg k hkn]; rfl]
      exact h
    | succ c ih =>
      intro b w hc hb hk hi
      obtain ⟨k0, hk0, hb0⟩ := remN_pos (show remN b n ≠ 0 by omega)
      refine ⟨fun h0 => absurd h0 (hr2 _ k0 hk0 (by simp [hb0])), fun i hir => ?_⟩
      rcases hr1 _ i hir with ⟨k, hkn, hbk, rfl⟩ | hall
      · have hbk' : b k = none := by simpa using hbk
        obtain ⟨o, h1, h2, h3, h4⟩ := hop k hkn
        refine wpOp_make h1 h2 h3 ((actN_eval fun j hj => hxd k j hkn hj).trans (hx k hkn)) (hmk k hkn w) ?_
        have hbw : Below w0.heap.size w0 (w.alloc (.cells (C k) (E k))) := hb.alloc hb.size _
        refine ⟨hS _ hbw, ?_⟩
        rw [h4, actN_upd hkn hbk' hD, hset k _ hkn]
        have hfe : (fun j => if j = k then true else (b j).isSome) = fun j => (upd b k w.heap.size j).isSome := by
          funext j
          unfold upd
          by_cases e : j = k
          · simp [e]
          · simp [e]
        rw [hfe]
        refine ih _ _ (by have := remN_upd (g := w.heap.size) hkn hbk'; omega) hbw ?_ ?_
        · intro j g hj hg
          unfold upd at hg
          by_cases e : j = k
          · subst e
            simp at hg
            subst hg
            exact ⟨hb.size, Blk.new rfl⟩
          · rw [if_neg e] at hg
            exact ⟨(hk j g hj hg).1, (hk j g hj hg).2.alloc _⟩
        · intro j j' g hj hj' hg hg'
          unfold upd at hg hg'
          by_cases e : j = k <;> by_cases e' : j' = k
          · rw [e, e']
          · rw [if_pos e] at hg; rw [if_neg e'] at hg'
            injection hg with hg
            have := (hk j' g hj' hg').2.lt
            omega
          · rw [if_neg e] at hg; rw [if_pos e'] at hg'
            injection hg' with hg'
            have := (hk j g hj hg).2.lt
            omega
          · rw [if_neg e] at hg; rw [if_neg e'] at hg'
            exact hi j j' g hj hj' hg hg'
      · have := hall k0 hk0
        simp [hb0] at this
  have h := key n (fun _ => none) w0 (remN_none n) (Below.refl _ _) (fun k g _ h => by cases h) (fun k k' g _ _ h => by cases h)
  rw [actN_none] at h
  exact h

/-- The same for five, what may come up checked by reckoning. -/
theorem wpAnyH_makes5 {fuel : Nat} {listed : Array Bool} {E T : Nat → TypeId} {C : Nat → Array Value} {w0 : World} (I0 I1 I2 I3 I4 : Nat) (I : Nat → Nat) (X : Nat → Operand) (D : Nat → Nat) (M : Nat → Nat) (L : Bool → Bool → Bool → Bool → Bool → Array Bool)
    (hI : I 0 = I0 ∧ I 1 = I1 ∧ I 2 = I2 ∧ I 3 = I3 ∧ I 4 = I4) (hl : listed = L false false false false false)
    (hop : ∀ k, k < 5 → ∃ o, ops[I k]? = some o ∧ o.guard = none ∧ o.op = .makeSlice (T k) (X k) (X k) ∧ o.dst = some (D k))
    (hx : ∀ k, k < 5 → a.eval (X k) = .int .i64 (M k : Int)) (hxd : ∀ k j, k < 5 → j < 5 → X k ≠ .tmp (D j)) (hD : ∀ i j, i < 5 → j < 5 → D i = D j → i = j)
    (hmk : ∀ k, k < 5 → ∀ W : World, (Instr.makeSlice (T k) (.int .i64 (M k : Int)) (.int .i64 (M k : Int))).run P W = .ok (.slice (some ⟨W.heap.size, 0, none⟩) (M k) (M k)) (W.alloc (.cells (C k) (E k))))
    (hset : ∀ b0 b1 b2 b3 b4, (L b0 b1 b2 b3 b4).setIfInBounds I0 true = L true b1 b2 b3 b4 ∧ (L b0 b1 b2 b3 b4).setIfInBounds I1 true = L b0 true b2 b3 b4 ∧ (L b0 b1 b2 b3 b4).setIfInBounds I2 true = L b0 b1 true b3 b4 ∧
      (L b0 b1 b2 b3 b4).setIfInBounds I3 true = L b0 b1 b2 true b4 ∧ (L b0 b1 b2 b3 b4).setIfInBounds I4 true = L b0 b1 b2 b3 true)
    (hr : ∀ b0 b1 b2 b3 b4 : Bool, (∀ i ∈ Region.ready md ops (L b0 b1 b2 b3 b4), (b0 = false ∧ i = I0) ∨ (b1 = false ∧ i = I1) ∨ (b2 = false ∧ i = I2) ∨ (b3 = false ∧ i = I3) ∨ (b4 = false ∧ i = I4) ∨ (b0 && b1 && b2 && b3 && b4) = true) ∧
      ((b0 && b1 && b2 && b3 && b4) = true ∨ (Region.ready md ops (L b0 b1 b2 b3 b4)).isEmpty = false))
    (hS : ∀ w, Below w0.heap.size w0 w → S w)
    (hfin : ∀ (g0 g1 g2 g3 g4 : Nat) w, Below w0.heap.size w0 w → w0.heap.size ≤ g0 → w0.heap.size ≤ g1 → w0.heap.size ≤ g2 → w0.heap.size ≤ g3 → w0.heap.size ≤ g4 →
      Blk w g0 (E 0) (C 0) → Blk w g1 (E 1) (C 1) → Blk w g2 (E 2) (C 2) → Blk w g3 (E 3) (C 3) → Blk w g4 (E 4) (C 4) →
      g0 ≠ g1 → g0 ≠ g2 → g0 ≠ g3 → g0 ≠ g4 → g1 ≠ g2 → g1 ≠ g3 → g1 ≠ g4 → g2 ≠ g3 → g2 ≠ g4 → g3 ≠ g4 →
      wpAnyH P md ops Q S fuel (L true true true true true) (((((a.put (some (D 0)) (.slice (some ⟨g0, 0, none⟩) (M 0) (M 0))).put (some (D 1)) (.slice (some ⟨g1, 0, none⟩) (M 1) (M 1))).put (some (D 2)) (.slice (some ⟨g2, 0, none⟩) (M 2) (M 2))).put (some (D 3)) (.slice (some ⟨g3, 0, none⟩) (M 3) (M 3))).put (some (D 4)) (.slice (some ⟨g4, 0, none⟩) (M 4) (M 4))) w) :
    wpAnyH P md ops Q S (fuel + 5) listed a w0 := by
  subst hl
  obtain ⟨e0, e1, e2, e3, e4⟩ := hI
  have five : ∀ k, k < 5 → k = 0 ∨ k = 1 ∨ k = 2 ∨ k = 3 ∨ k = 4 := fun k hk => by omega
  refine wpAnyH_makes (n := 5) (I := I) (L := fun β => L (β 0) (β 1) (β 2) (β 3) (β 4)) hop hx hxd hD hmk ?_ ?_ ?_ ?_ hS ?_
  · intro β β' h
    rw [h 0 (by omega), h 1 (by omega), h 2 (by omega), h 3 (by omega), h 4 (by omega)]
  · intro k β hk
    obtain ⟨s0, s1, s2, s3, s4⟩ := hset (β 0) (β 1) (β 2) (β 3) (β 4)
    rcases five k hk with rfl | rfl | rfl | rfl | rfl
    · rw [e0, s0]; rfl
    · rw [e1, s1]; rfl
    · rw [e2, s2]; rfl
    · rw [e3, s3]; rfl
    · rw [e4, s4]; rfl
  · intro β i hi
    rcases (hr (β 0) (β 1) (β 2) (β 3) (β 4)).1 i hi with h | h | h | h | h | h
    · exact .inl ⟨0, by omega, h.1, by rw [e0]; exact h.2⟩
    · exact .inl ⟨1, by omega, h.1, by rw [e1]; exact h.2⟩
    · exact .inl ⟨2, by omega, h.1, by rw [e2]; exact h.2⟩
    · exact .inl ⟨3, by omega, h.1, by rw [e3]; exact h.2⟩
    · exact .inl ⟨4, by omega, h.1, by rw [e4]; exact h.2⟩
    · simp only [Bool.and_eq_true] at h
      refine .inr fun k hk => ?_
      rcases five k hk with rfl | rfl | rfl | rfl | rfl
      · exact h.1.1.1.1
      · exact h.1.1.1.2
      · exact h.1.1.2
      · exact h.1.2
      · exact h.2
  · intro β k hk hb he
    rcases (hr (β 0) (β 1) (β 2) (β 3) (β 4)).2 with h | h
    · simp only [Bool.and_eq_true] at h
      rcases five k hk with rfl | rfl | rfl | rfl | rfl
      · rw [h.1.1.1.1] at hb; cases hb
      · rw [h.1.1.1.2] at hb; cases hb
      · rw [h.1.1.2] at hb; cases hb
      · rw [h.1.2] at hb; cases hb
      · rw [h.2] at hb; cases hb
    · rw [he] at h
      cases h
  · intro g w hb hk hi
    have ne : ∀ i j, i < 5 → j < 5 → i ≠ j → g i ≠ g j := fun i j hi' hj' hne h => hne (hi i j hi' hj' h)
    exact hfin (g 0) (g 1) (g 2) (g 3) (g 4) w hb (hk 0 (by omega)).1 (hk 1 (by omega)).1 (hk 2 (by omega)).1 (hk 3 (by omega)).1 (hk 4 (by omega)).1
      (hk 0 (by omega)).2 (hk 1 (by omega)).2 (hk 2 (by omega)).2 (hk 3 (by omega)).2 (hk 4 (by omega)).2
      (ne 0 1 (by omega) (by omega) (by omega)) (ne 0 2 (by omega) (by omega) (by omega)) (ne 0 3 (by omega) (by omega) (by omega)) (ne 0 4 (by omega) (by omega) (by omega)) (ne 1 2 (by omega) (by omega) (by omega)) (ne 1 3 (by omega) (by omega) (by omega)) (ne 1 4 (by omega) (by omega) (by omega)) (ne 2 3 (by omega) (by omega) (by omega)) (ne 2 4 (by omega) (by omega) (by omega)) (ne 3 4 (by omega) (by omega) (by omega))
end

end Go.Proofs.Ytmmafibeciaghaa
