/- Plain facts: parts in order; what is left; joined again. -/
import Derived.Test.YtfdidjgecdhaiaaJoinq
namespace Go.Proofs.Ytfdidjgecdhaiaa

theorem idxOf_grow (J : List ArcN) (a : ArcN) {p : Int × Int} {q : Nat} (h : idxOf J p = some q) : idxOf (J ++ [a]) p = some q := by
  unfold idxOf at h ⊢
  rw [List.findIdx?_append, h]
  rfl
theorem joinTo_step (l : List ArcN) {k : Nat} {a : ArcN} (ha : l[k]? = some a) {p : Int × Int} {q : Nat} (h : idxOf (joinTo l k).1 p = some q) : idxOf (joinTo l (k + 1)).1 p = some q := by
  rw [joinTo_succ ha]
  generalize joinTo l k = st at h
  obtain ⟨J, o⟩ := st
  by_cases e : a.frm = a.to
  · rw [joinStep_loop e]; exact h
  · cases hi : idxOf J (a.frm, a.to) with
    | some i => rw [joinStep_known e hi]; show idxOf (addAt J i a.cap) p = _; rw [idxOf_addAt]; exact h
    | none => rw [joinStep_new e hi]; exact idxOf_grow J a h
theorem joinTo_mono (l : List ArcN) {k : Nat} : ∀ {m : Nat}, k ≤ m → m ≤ l.length → ∀ {p : Int × Int} {q : Nat}, idxOf (joinTo l k).1 p = some q → idxOf (joinTo l m).1 p = some q
  | 0, hk, _, p, q, h => by obtain rfl : k = 0 := (by omega); exact h
  | m + 1, hk, hm, p, q, h => by
    by_cases e : k = m + 1
    · subst e; exact h
    · exact joinTo_step l (List.getElem?_eq_getElem (by omega)) (joinTo_mono l (by omega) (by omega) h)
theorem parts_step (l : List ArcN) {k : Nat} {a : ArcN} (ha : l[k]? = some a) : ∃ x, (joinTo l (k + 1)).2 = (joinTo l k).2 ++ [x] ∧
    ((a.frm = a.to ∧ x = -1 ∧ (joinTo l (k + 1)).1.length = (joinTo l k).1.length) ∨
     (a.frm ≠ a.to ∧ ∃ q : Nat, x = (q : Int) ∧ idxOf (joinTo l (k + 1)).1 (a.frm, a.to) = some q ∧ q ≤ (joinTo l k).1.length ∧ (joinTo l (k + 1)).1.length = max (joinTo l k).1.length (q + 1))) := by
  rw [joinTo_succ ha]
  generalize joinTo l k = st
  obtain ⟨J, o⟩ := st
  by_cases e : a.frm = a.to
  · rw [joinStep_loop e]; exact ⟨-1, rfl, .inl ⟨e, rfl, rfl⟩⟩
  · cases hi : idxOf J (a.frm, a.to) with
    | some i =>
      have := idxOf_lt hi
      rw [joinStep_known e hi]
      refine ⟨_, rfl, .inr ⟨e, i, rfl, ?_, ?_, ?_⟩⟩
      · show idxOf (addAt J i a.cap) _ = _; rw [idxOf_addAt]; exact hi
      · show i ≤ J.length; omega
      · show (addAt J i a.cap).length = max J.length (i + 1); rw [addAt_len]; omega
    | none =>
      rw [joinStep_new e hi]
      refine ⟨_, rfl, .inr ⟨e, J.length, rfl, ?_, Nat.le_refl _, ?_⟩⟩
      · show idxOf (J ++ [a]) _ = _; rw [idxOf_snoc J a _ hi, if_pos rfl]
      · simp
theorem parts_prefix (l : List ArcN) {k : Nat} : ∀ {m : Nat}, k ≤ m → m ≤ l.length → ∃ r, (joinTo l m).2 = (joinTo l k).2 ++ r
  | 0, hk, _ => by obtain rfl : k = 0 := (by omega); exact ⟨[], by simp⟩
  | m + 1, hk, hm => by
    by_cases e : k = m + 1
    · subst e; exact ⟨[], by simp⟩
    · obtain ⟨r, hr⟩ := parts_prefix l (k := k) (m := m) (by omega) (by omega)
      obtain ⟨x, hx, _⟩ := parts_step l (k := m) (List.getElem?_eq_getElem (by omega))
      exact ⟨r ++ [x], by rw [hx, hr, List.append_assoc]⟩
theorem parts_len (l : List ArcN) : ∀ k, k ≤ l.length → (joinTo l k).2.length = k
  | 0, _ => by rw [joinTo_zero]; rfl
  | k + 1, hk => by
    obtain ⟨x, hx, _⟩ := parts_step l (k := k) (List.getElem?_eq_getElem (by omega))
    rw [hx, List.length_append, parts_len l k (by omega)]
    rfl
def jn (l : List ArcN) (k : Nat) : Nat := (joinTo l k).1.length
theorem joinOf_to (l : List ArcN) : joinOf l = joinTo l l.length := by unfold joinTo; rw [List.take_length]

/-- The i-th part of a joined net. -/
theorem part_at {l J : List ArcN} {o : List Int} (hj : joinOf l = (J, o)) {i : Nat} {a : ArcN} (ha : l[i]? = some a) :
    ∃ x, o[i]? = some x ∧ ((a.frm = a.to ∧ x = -1 ∧ jn l (i + 1) = jn l i) ∨
      (a.frm ≠ a.to ∧ ∃ (q : Nat) (b : ArcN), x = (q : Int) ∧ J[q]? = some b ∧ b.frm = a.frm ∧ b.to = a.to ∧ q ≤ jn l i ∧ jn l (i + 1) = max (jn l i) (q + 1))) := by
  have hil := (List.getElem?_eq_some_iff.1 ha).1
  obtain ⟨x, hx, hc⟩ := parts_step l ha
  obtain ⟨r, hr⟩ := parts_prefix l (k := i + 1) (m := l.length) (by omega) (Nat.le_refl _)
  rw [← joinOf_to, hj, hx] at hr
  simp only at hr
  have hpl := parts_len l i (by omega)
  refine ⟨x, ?_, ?_⟩
  · rw [hr, List.append_assoc, List.getElem?_append_right (by omega), hpl, Nat.sub_self]
    rfl
  · rcases hc with ⟨h1, h2, h3⟩ | ⟨h1, q, h2, h3, h4, h5⟩
    · exact .inl ⟨h1, h2, h3⟩
    · have hm := joinTo_mono l (k := i + 1) (m := l.length) (by omega) (Nat.le_refl _) h3
      rw [← joinOf_to, hj] at hm
      obtain ⟨b, hb, e1, e2⟩ := idxOf_at hm
      exact .inr ⟨h1, q, b, h2, hb, e1, e2, h4, h5⟩
theorem jn_le {l J : List ArcN} {o : List Int} (hj : joinOf l = (J, o)) : ∀ {m k : Nat}, k ≤ m → m ≤ l.length → jn l k ≤ jn l m
  | 0, k, hk, _ => by obtain rfl : k = 0 := (by omega); exact Nat.le_refl _
  | m + 1, k, hk, hm => by
    by_cases e : k = m + 1
    · subst e; exact Nat.le_refl _
    · have h1 := jn_le hj (k := k) (m := m) (by omega) (by omega)
      obtain ⟨x, _, hc⟩ := part_at hj (i := m) (List.getElem?_eq_getElem (by omega))
      rcases hc with ⟨_, _, h⟩ | ⟨_, q, b, _, _, _, _, _, h⟩ <;> omega

/-- What is left of the joined arcs behind the first i arcs. -/
def leftTo (l J : List ArcN) (i : Nat) : List ArcN := J.map fun b => ⟨b.frm, b.to, b.cap - capOf (b.frm, b.to) (l.take i)⟩
theorem leftTo_zero (l J : List ArcN) : leftTo l J 0 = J := by
  unfold leftTo
  simp only [List.take_zero, capOf, Int.sub_zero]
  exact List.map_id'' (fun _ => rfl) J
theorem leftTo_len (l J : List ArcN) (i : Nat) : (leftTo l J i).length = J.length := by simp [leftTo]
theorem leftTo_loop {l J : List ArcN} (hap : Apart J) {i : Nat} {a : ArcN} (ha : l[i]? = some a) (e : a.frm = a.to) : leftTo l J (i + 1) = leftTo l J i := by
  unfold leftTo
  refine List.map_congr_left fun b hb => ?_
  rw [capOf_at ha, if_neg, Int.add_zero]
  intro e'
  have := hap.loop b hb
  simp only [Prod.mk.injEq] at e'
  omega
theorem leftTo_at {l J : List ArcN} {i q : Nat} {b : ArcN} (hb : J[q]? = some b) : (leftTo l J i)[q]? = some ⟨b.frm, b.to, b.cap - capOf (b.frm, b.to) (l.take i)⟩ := by
  simp [leftTo, hb]
theorem leftTo_set {l J : List ArcN} (hap : Apart J) {i q : Nat} {a b : ArcN} (ha : l[i]? = some a) (hb : J[q]? = some b) (e1 : b.frm = a.frm) (e2 : b.to = a.to) :
    leftTo l J (i + 1) = (leftTo l J i).set q ⟨b.frm, b.to, b.cap - capOf (b.frm, b.to) (l.take i) - a.cap⟩ := by
  apply List.ext_getElem?
  intro j
  rw [List.getElem?_set]
  have hql := (List.getElem?_eq_some_iff.1 hb).1
  by_cases ej : q = j
  · subst ej
    rw [if_pos rfl, if_pos (by rw [leftTo_len]; exact hql), leftTo_at hb, capOf_at ha, if_pos (by rw [e1, e2])]
    congr 2; omega
  · rw [if_neg ej]
    cases hj : J[j]? with
    | none => simp [leftTo, hj]
    | some d =>
      rw [leftTo_at hj, leftTo_at hj, capOf_at ha, if_neg, Int.add_zero]
      intro e'
      simp only [Prod.mk.injEq] at e'
      exact ej (hap.uniq q j b d hb hj (by rw [e1, e'.1]) (by rw [e2, e'.2]))

/-- A joined net, whole. -/
structure Joined (N S T : Int) (l J : List ArcN) (o : List Int) : Prop where
  eq : joinOf l = (J, o)
  olen : o.length = l.length
  jlen : J.length ≤ l.length
  nn : NonNeg J
  tot : total J ≤ total l
  fits : FitsAll J
  apart : Apart J
  caps : ∀ b ∈ J, b.cap = capOf (b.frm, b.to) l
  good : checkF N S T J = 0
theorem joined_of {N S T : Int} {l J : List ArcN} {o : List Int} (hf : FitsAll l) (hc : checkF N S T l = 0) (hj : joinOf l = (J, o)) : Joined N S T l J o := by
  obtain ⟨c0, c1, c2, c3, c4, c5⟩ := check_ok hc
  obtain ⟨hnn, hto⟩ := sumB_total c5
  have hI := joinInv_to hnn hf l.length (Nat.le_refl _)
  have hM := joinMore_to l l.length (Nat.le_refl _)
  rw [← joinOf_to, hj] at hI hM
  simp only at hI hM
  have ht : total J ≤ total l := by have := hI.tot; rwa [List.take_length] at this
  refine ⟨hj, hI.olen, hI.jlen, hI.nn, ht, fun b hb => ?_, hM.apart, fun b hb => ?_, ?_⟩
  · obtain ⟨i, hi⟩ := List.getElem?_of_mem hb
    have h1 := total_at hI.nn hi
    have h2 := hI.nn b hb
    obtain ⟨h3, h4⟩ := hI.ends b hb
    unfold maxSum at hto
    exact ⟨h3, h4, by omega, by omega⟩
  · have := hM.caps b hb
    rwa [List.take_length] at this
  · have hbt : betweenB N J = true := by
      unfold betweenB
      rw [List.all_eq_true]
      intro b hb
      obtain ⟨a, ha, e1, e2⟩ := hM.verts b hb
      unfold betweenB at c3
      rw [List.all_eq_true] at c3
      have := c3 a ha
      rwa [e1, e2] at this
    have hcp : capsB J = true := by
      unfold capsB
      rw [List.all_eq_true]
      intro b hb
      exact decide_eq_true (hI.nn b hb)
    have hsm := (sum_good hI.nn (by omega)).1
    have hl := hI.jlen
    refine check_all fun j hjj => ?_
    have : j = 0 ∨ j = 1 ∨ j = 2 ∨ j = 3 ∨ j = 4 ∨ j = 5 := by omega
    rcases this with rfl | rfl | rfl | rfl | rfl | rfl
    · exact c0
    · simp only [condB, decide_eq_true_eq]; omega
    · exact c2
    · exact hbt
    · exact hcp
    · exact hsm
theorem Joined.zero {N S T : Int} {l J : List ArcN} {o : List Int} (h : Joined N S T l J o) {i : Nat} (hi : ¬ i < l.length) : ∀ b ∈ leftTo l J i, b.cap = 0 := by
  intro b hb
  obtain ⟨d, hd, rfl⟩ := List.mem_map.1 hb
  simp only
  rw [List.take_of_length_le (by omega), h.caps d hd]
  omega
theorem Joined.left {N S T : Int} {l J : List ArcN} {o : List Int} (h : Joined N S T l J o) (hl : NonNeg l) {i q : Nat} {a b : ArcN} (ha : l[i]? = some a) (hb : J[q]? = some b) (e1 : b.frm = a.frm) (e2 : b.to = a.to) :
    0 ≤ b.cap - capOf (b.frm, b.to) (l.take i) - a.cap := by
  have h1 := h.caps b (mem_at hb)
  have hs : capOf (b.frm, b.to) l = capOf (b.frm, b.to) (l.take (i + 1)) + capOf (b.frm, b.to) (l.drop (i + 1)) := by rw [← capOf_append, List.take_append_drop]
  have h2 := capOf_nonneg (p := (b.frm, b.to)) (l := l.drop (i + 1)) fun x hx => hl x (List.mem_of_mem_drop hx)
  rw [capOf_at ha, if_pos (by rw [e1, e2])] at hs
  omega

/-- Joined again: the same. -/
theorem joinTo_again {J : List ArcN} (h : Apart J) : ∀ k, k ≤ J.length → joinTo J k = (J.take k, (List.range k).map fun i : Nat => (i : Int))
  | 0, _ => by rw [joinTo_zero]; simp
  | k + 1, hk => by
    have ha : J[k]? = some J[k] := List.getElem?_eq_getElem (by omega)
    rw [joinTo_succ ha, joinTo_again h k (by omega)]
    have hn : idxOf (J.take k) (J[k].frm, J[k].to) = none := by
      cases hx : idxOf (J.take k) (J[k].frm, J[k].to) with
      | none => rfl
      | some q =>
        obtain ⟨b, hb, e1, e2⟩ := idxOf_at hx
        rw [List.getElem?_take] at hb
        split at hb
        · rename_i hq
          have := h.uniq q k b _ hb ha e1 e2
          omega
        · cases hb
    rw [joinStep_new (h.loop _ (mem_at ha)) hn, take_at ha, List.range_succ, List.map_append]
    simp
    omega
theorem join_again {J : List ArcN} (h : Apart J) : joinOf J = (J, (List.range J.length).map fun i : Nat => (i : Int)) := by
  rw [joinOf_to, joinTo_again h _ (Nat.le_refl _), List.take_length]

end Go.Proofs.Ytfdidjgecdhaiaa
