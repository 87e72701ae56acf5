/- Plain functions: a net joined. -/
import Derived.Test.YtmmafibeciaghaaPlain
namespace Go.Proofs.Ytmmafibeciaghaa

def endsAt (x y : Int) (a : ArcN) : Bool := a.frm == x && a.to == y
def idxOf (J : List ArcN) (p : Int × Int) : Option Nat := J.findIdx? (endsAt p.1 p.2)
def addAt (J : List ArcN) (i : Nat) (c : Int) : List ArcN := J.modify i fun b => ⟨b.frm, b.to, b.cap + c⟩
def joinStep (st : List ArcN × List Int) (a : ArcN) : List ArcN × List Int :=
  if a.frm = a.to then (st.1, st.2 ++ [-1])
  else match idxOf st.1 (a.frm, a.to) with
    | some i => (addAt st.1 i a.cap, st.2 ++ [(i : Int)])
    | none => (st.1 ++ [a], st.2 ++ [(st.1.length : Int)])
def joinOf (l : List ArcN) : List ArcN × List Int := l.foldl joinStep ([], [])
def joinTo (l : List ArcN) (k : Nat) : List ArcN × List Int := joinOf (l.take k)

theorem joinTo_zero (l : List ArcN) : joinTo l 0 = ([], []) := by simp [joinTo, joinOf]
theorem joinTo_succ {l : List ArcN} {k : Nat} {a : ArcN} (h : l[k]? = some a) : joinTo l (k + 1) = joinStep (joinTo l k) a := by
  unfold joinTo joinOf
  rw [take_at h, List.foldl_append]
  rfl
theorem joinTo_end {l : List ArcN} {k n : Nat} (hl : l.length = n) (hk : ¬ k < n) : joinTo l k = joinOf l := by
  unfold joinTo
  rw [List.take_of_length_le (by omega)]

theorem joinStep_loop {J : List ArcN} {o : List Int} {a : ArcN} (h : a.frm = a.to) : joinStep (J, o) a = (J, o ++ [-1]) := by simp [joinStep, h]
theorem joinStep_known {J : List ArcN} {o : List Int} {a : ArcN} {i : Nat} (h : a.frm ≠ a.to) (hi : idxOf J (a.frm, a.to) = some i) : joinStep (J, o) a = (addAt J i a.cap, o ++ [(i : Int)]) := by simp [joinStep, h, hi]
theorem joinStep_new {J : List ArcN} {o : List Int} {a : ArcN} (h : a.frm ≠ a.to) (hi : idxOf J (a.frm, a.to) = none) : joinStep (J, o) a = (J ++ [a], o ++ [(J.length : Int)]) := by simp [joinStep, h, hi]

theorem addAt_len (J : List ArcN) (i : Nat) (c : Int) : (addAt J i c).length = J.length := by simp [addAt]
theorem idxOf_at {J : List ArcN} {p : Int × Int} {i : Nat} (h : idxOf J p = some i) : ∃ b, J[i]? = some b ∧ b.frm = p.1 ∧ b.to = p.2 := by
  unfold idxOf at h
  rw [List.findIdx?_eq_some_iff_getElem] at h
  obtain ⟨hi, hp, _⟩ := h
  refine ⟨J[i], List.getElem?_eq_getElem hi, ?_⟩
  simpa [endsAt] using hp
theorem idxOf_lt {J : List ArcN} {p : Int × Int} {i : Nat} (h : idxOf J p = some i) : i < J.length := by
  obtain ⟨b, hb, _⟩ := idxOf_at h
  exact (List.getElem?_eq_some_iff.1 hb).1
theorem idxOf_snoc (J : List ArcN) (a : ArcN) (p : Int × Int) (hn : idxOf J (a.frm, a.to) = none) : idxOf (J ++ [a]) p = if p = (a.frm, a.to) then some J.length else idxOf J p := by
  unfold idxOf at hn ⊢
  rw [List.findIdx?_append]
  by_cases e : p = (a.frm, a.to)
  · subst e
    rw [hn]
    simp [endsAt]
  · rw [if_neg e]
    have hf : endsAt p.1 p.2 a = false := by
      simp only [endsAt, Bool.and_eq_false_iff, beq_eq_false_iff_ne, ne_eq]
      rcases p with ⟨x, y⟩
      simp only [Prod.mk.injEq, not_and] at e
      by_cases h : a.frm = x
      · exact .inr fun h' => e h.symm h'.symm
      · exact .inl h
    simp [hf]
theorem findIdx?_modify {α : Type} (p : α → Bool) (f : α → α) (hf : ∀ a, p (f a) = p a) : ∀ (l : List α) (i : Nat), (l.modify i f).findIdx? p = l.findIdx? p
  | [], i => by simp
  | x :: r, 0 => by simp [List.findIdx?_cons, hf]
  | x :: r, i + 1 => by simp [List.findIdx?_cons, findIdx?_modify p f hf r i]
theorem idxOf_addAt (J : List ArcN) (i : Nat) (c : Int) (p : Int × Int) : idxOf (addAt J i c) p = idxOf J p :=
  findIdx?_modify (endsAt p.1 p.2) (fun b => ⟨b.frm, b.to, b.cap + c⟩) (fun _ => rfl) J i
theorem addAt_snoc (J : List ArcN) (a : ArcN) : addAt (J ++ [⟨a.frm, a.to, 0⟩]) J.length a.cap = J ++ [a] := by
  unfold addAt
  induction J with
  | nil => simp
  | cons x r ih => simpa using ih
theorem addAt_set {J : List ArcN} {i : Nat} {b : ArcN} (h : J[i]? = some b) (c : Int) : addAt J i c = J.set i ⟨b.frm, b.to, b.cap + c⟩ := by
  unfold addAt
  induction J generalizing i with
  | nil => simp at h
  | cons x r ih =>
    cases i with
    | zero => simp at h; subst h; rfl
    | succ i => have := ih (i := i) (by simpa using h); simpa using this

/-! What capacities come to. -/
def total : List ArcN → Int
  | [] => 0
  | a :: r => a.cap + total r
def NonNeg (l : List ArcN) : Prop := ∀ a ∈ l, 0 ≤ a.cap
theorem total_append (l m : List ArcN) : total (l ++ m) = total l + total m := by
  induction l with
  | nil => simp [total]
  | cons a r ih => simp [total, ih]; omega
theorem total_nonneg {l : List ArcN} (h : NonNeg l) : 0 ≤ total l := by
  induction l with
  | nil => simp [total]
  | cons a r ih =>
    have := h a (by simp)
    have := ih fun x hx => h x (by simp [hx])
    simp [total]; omega
theorem total_at {l : List ArcN} (h : NonNeg l) {i : Nat} {a : ArcN} (ha : l[i]? = some a) : a.cap ≤ total l := by
  induction l generalizing i with
  | nil => simp at ha
  | cons x r ih =>
    have hx := h x (by simp)
    have hr : NonNeg r := fun y hy => h y (by simp [hy])
    have hn := total_nonneg hr
    cases i with
    | zero => simp at ha; subst ha; simp [total]; omega
    | succ i => have := ih hr (i := i) (by simpa using ha); simp [total]; omega
theorem total_take {l : List ArcN} (h : NonNeg l) (k : Nat) : total (l.take k) ≤ total l := by
  have e := total_append (l.take k) (l.drop k)
  rw [List.take_append_drop] at e
  have := total_nonneg (l := l.drop k) fun a ha => h a (List.mem_of_mem_drop ha)
  omega
theorem total_set {J : List ArcN} {i : Nat} {b : ArcN} (h : J[i]? = some b) (b' : ArcN) : total (J.set i b') = total J - b.cap + b'.cap := by
  induction J generalizing i with
  | nil => simp at h
  | cons x r ih =>
    cases i with
    | zero => simp at h; subst h; simp [total]; omega
    | succ i => have := ih (i := i) (by simpa using h); simp [total, this]; omega

theorem sumFrom_total {s r : Int} {l : List ArcN} (h : sumFrom s l = some r) : r = s + total l ∧ NonNeg l := by
  induction l generalizing s with
  | nil => simp only [sumFrom, Option.some.injEq] at h; simp [total, NonNeg, h]
  | cons a t ih =>
    unfold sumFrom at h
    split at h
    · cases h
    · rename_i hc
      obtain ⟨h1, h2⟩ := ih h
      refine ⟨by simp [total]; omega, fun x hx => ?_⟩
      rcases List.mem_cons.1 hx with rfl | hx
      · omega
      · exact h2 x hx
theorem sumB_total {l : List ArcN} (h : sumB l = true) : NonNeg l ∧ total l ≤ maxSum := by
  unfold sumB at h
  obtain ⟨r, hr⟩ := Option.isSome_iff_exists.1 h
  have h1 := sumFrom_total hr
  have h2 := sumFrom_bound (Int.le_refl 0) (by simp [maxSum]) hr
  exact ⟨h1.2, by omega⟩

theorem check_ok {N S T : Int} {l : List ArcN} (h : checkF N S T l = 0) : vertsB N = true ∧ l.length ≤ 16384 ∧ endsB N S T = true ∧ betweenB N l = true ∧ capsB l = true ∧ sumB l = true := by
  unfold checkF at h
  split at h
  · cases h
  · split at h
    · cases h
    · split at h
      · cases h
      · split at h
        · cases h
        · split at h
          · cases h
          · split at h
            · cases h
            · simp_all

/-- What holds of a joined net on the way. -/
structure JoinInv (l : List ArcN) (k : Nat) (J : List ArcN) (o : List Int) : Prop where
  eq : joinTo l k = (J, o)
  olen : o.length = k
  jlen : J.length ≤ k
  nn : NonNeg J
  tot : total J ≤ total (l.take k)
  ends : ∀ a ∈ J, InR a.frm ∧ InR a.to

theorem JoinInv.zero (l : List ArcN) : JoinInv l 0 [] [] := ⟨joinTo_zero l, rfl, by simp, by simp [NonNeg], by simp [total], by simp⟩
section
variable {l : List ArcN} {k : Nat} {J : List ArcN} {o : List Int} {a : ArcN}
theorem JoinInv.bound (h : JoinInv l k J o) (hl : NonNeg l) (hm : total l ≤ maxSum) (ha : l[k]? = some a) : total J + a.cap ≤ maxSum := by
  have h1 := total_take hl (k + 1)
  rw [take_at ha, total_append] at h1
  have := h.tot
  simp [total] at h1
  omega
theorem JoinInv.loop (h : JoinInv l k J o) (hl : NonNeg l) (ha : l[k]? = some a) (e : a.frm = a.to) : JoinInv l (k + 1) J (o ++ [-1]) := by
  refine ⟨by rw [joinTo_succ ha, h.eq, joinStep_loop e], by simp [h.olen], by have := h.jlen; omega, h.nn, ?_, h.ends⟩
  have := h.tot
  have := hl a (mem_at ha)
  rw [take_at ha, total_append]
  simp [total]; omega
theorem JoinInv.known (h : JoinInv l k J o) (hl : NonNeg l) (ha : l[k]? = some a) (e : a.frm ≠ a.to) {i : Nat} (hi : idxOf J (a.frm, a.to) = some i) : JoinInv l (k + 1) (addAt J i a.cap) (o ++ [(i : Int)]) := by
  obtain ⟨b, hb, _⟩ := idxOf_at hi
  have hbn := h.nn b (mem_at hb)
  have han := hl a (mem_at ha)
  have hbe := h.ends b (mem_at hb)
  have hmem : ∀ x ∈ addAt J i a.cap, x ∈ J ∨ x = ⟨b.frm, b.to, b.cap + a.cap⟩ := by
    intro x hx
    rw [addAt_set hb] at hx
    exact List.mem_or_eq_of_mem_set hx
  refine ⟨by rw [joinTo_succ ha, h.eq, joinStep_known e hi], by simp [h.olen], by rw [addAt_len]; have := h.jlen; omega, ?_, ?_, ?_⟩
  · intro x hx
    rcases hmem x hx with hx | rfl
    · exact h.nn x hx
    · simp; omega
  · have := h.tot
    rw [addAt_set hb, total_set hb, take_at ha, total_append]
    simp [total]; omega
  · intro x hx
    rcases hmem x hx with hx | rfl
    · exact h.ends x hx
    · exact hbe
theorem JoinInv.new (h : JoinInv l k J o) (hl : NonNeg l) (hf : FitsAll l) (ha : l[k]? = some a) (e : a.frm ≠ a.to) (hi : idxOf J (a.frm, a.to) = none) : JoinInv l (k + 1) (J ++ [a]) (o ++ [(J.length : Int)]) := by
  have han := hl a (mem_at ha)
  have haf := hf a (mem_at ha)
  refine ⟨by rw [joinTo_succ ha, h.eq, joinStep_new e hi], by simp [h.olen], by simp; exact h.jlen, ?_, ?_, ?_⟩
  · intro x hx
    rcases List.mem_append.1 hx with hx | hx
    · exact h.nn x hx
    · simp at hx; subst hx; exact han
  · have := h.tot
    rw [total_append, take_at ha, total_append]
    simp [total]; omega
  · intro x hx
    rcases List.mem_append.1 hx with hx | hx
    · exact h.ends x hx
    · simp at hx; subst hx; exact ⟨haf.1, haf.2.1⟩
end

end Go.Proofs.Ytmmafibeciaghaa
