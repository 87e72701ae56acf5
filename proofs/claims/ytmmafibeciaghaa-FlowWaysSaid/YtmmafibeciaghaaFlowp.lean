/- Plain facts: flows and their excesses. -/
import Derived.Test.YtmmafibeciaghaaJoinp
import Derived.Test.YtmmafibeciaghaaCsrp
namespace Go.Proofs.Ytmmafibeciaghaa

/-- Numbers within the capacities. -/
structure FlowIn (l : List ArcN) (F : List Int) : Prop where
  len : F.length = l.length
  ent : ∀ (i : Nat) (a : ArcN) (x : Int), l[i]? = some a → F[i]? = some x → 0 ≤ x ∧ x ≤ a.cap

/-- What an arc with x on it adds to u's excess. -/
def dlt (a : ArcN) (x u : Int) : Int := (if a.to = u then x else 0) - (if a.frm = u then x else 0)
/-- u's excess. -/
def exOf : List ArcN → List Int → Int → Int
  | a :: l, x :: F, u => dlt a x u + exOf l F u
  | _, _, _ => 0
def exList (N : Nat) (l : List ArcN) (F : List Int) : List Int := (List.range N).map fun u : Nat => exOf l F (u : Int)
theorem exList_len (N : Nat) (l : List ArcN) (F : List Int) : (exList N l F).length = N := by simp [exList]
theorem exList_at {N : Nat} (l : List ArcN) (F : List Int) {u : Nat} (h : u < N) : (exList N l F)[u]? = some (exOf l F u) := by
  simp [exList, h]

theorem dlt_add (a : ArcN) (x y u : Int) : dlt a (x + y) u = dlt a x u + dlt a y u := by unfold dlt; split <;> split <;> omega
theorem dlt_bound (a : ArcN) {x : Int} (h : 0 ≤ x) (u : Int) : -x ≤ dlt a x u ∧ dlt a x u ≤ x := by unfold dlt; split <;> split <;> omega
theorem exOf_nil (F : List Int) (u : Int) : exOf [] F u = 0 := by simp [exOf]
theorem exOf_append : ∀ {l : List ArcN} {F : List Int} (m : List ArcN) (G : List Int) (u : Int) (_ : F.length = l.length), exOf (l ++ m) (F ++ G) u = exOf l F u + exOf m G u
  | [], [], m, G, u, _ => by simp [exOf]
  | a :: l, x :: F, m, G, u, h => by
    have := exOf_append (l := l) (F := F) m G u (by simpa using h)
    simp only [List.cons_append, exOf, this]
    omega
theorem exOf_take {l : List ArcN} {F : List Int} {k : Nat} {a : ArcN} {x : Int} (hl : F.length = l.length) (ha : l[k]? = some a) (hx : F[k]? = some x) (u : Int) :
    exOf (l.take (k + 1)) (F.take (k + 1)) u = exOf (l.take k) (F.take k) u + dlt a x u := by
  rw [take_at ha, take_at hx, exOf_append _ _ _ (by simp [hl])]
  simp [exOf]
theorem exOf_bound : ∀ {l : List ArcN} {F : List Int} (_ : FlowIn l F) (u : Int), -(total l) ≤ exOf l F u ∧ exOf l F u ≤ total l
  | [], F, _, u => by simp [exOf, total]
  | a :: l, [], h, _ => by have := h.len; simp at this
  | a :: l, x :: F, h, u => by
    have h' : FlowIn l F := ⟨by simpa using h.len, fun i b y hb hy => h.ent (i + 1) b y (by simpa using hb) (by simpa using hy)⟩
    have h1 := exOf_bound h' u
    have h2 := h.ent 0 a x rfl rfl
    have h3 := dlt_bound a h2.1 u
    simp only [exOf, total]
    omega
theorem FlowIn.take {l : List ArcN} {F : List Int} (h : FlowIn l F) (k : Nat) : FlowIn (l.take k) (F.take k) :=
  ⟨by simp [h.len], fun i a x ha hx => by
    have hi : i < k := by have := (List.getElem?_eq_some_iff.1 ha).1; simp at this; omega
    rw [List.getElem?_take_of_lt hi] at ha hx
    exact h.ent i a x ha hx⟩
theorem FlowIn.nonneg {l : List ArcN} {F : List Int} (h : FlowIn l F) : NonNeg l := fun a ha => by
  obtain ⟨i, hi⟩ := List.getElem?_of_mem ha
  have hlt := (List.getElem?_eq_some_iff.1 hi).1
  obtain ⟨x, hx⟩ : ∃ x, F[i]? = some x := ⟨_, List.getElem?_eq_getElem (by rw [h.len]; exact hlt)⟩
  have := h.ent i a x hi hx
  omega
theorem exOf_set : ∀ {l : List ArcN} {F : List Int} {i : Nat} {a : ArcN} {x : Int} (y u : Int) (_ : l[i]? = some a) (_ : F[i]? = some x), exOf l (F.set i y) u = exOf l F u + dlt a (y - x) u
  | [], _, _, _, _, _, _, h, _ => by simp at h
  | _ :: _, [], _, _, _, _, _, _, h => by simp at h
  | b :: l, z :: F, 0, a, x, y, u, ha, hx => by
    simp at ha hx
    subst ha; subst hx
    have := dlt_add b z (y - z) u
    rw [show z + (y - z) = y by omega] at this
    simp only [List.set_cons_zero, exOf]
    omega
  | b :: l, z :: F, i + 1, a, x, y, u, ha, hx => by
    have := exOf_set (l := l) (F := F) (i := i) y u (by simpa using ha) (by simpa using hx)
    simp only [List.set_cons_succ, exOf, this]
    omega
theorem exOf_turn : ∀ (l : List ArcN) (F : List Int) (u : Int), exOf (l.map turnArc) F u = -(exOf l F u)
  | [], F, u => by simp [exOf]
  | _ :: _, [], u => by simp [exOf]
  | a :: l, x :: F, u => by
    have := exOf_turn l F u
    simp only [List.map_cons, exOf, this, dlt, turnArc]
    omega
theorem exOf_plus : ∀ {l : List ArcN} {F G H : List Int} (_ : F.length = l.length) (_ : G.length = l.length) (_ : H.length = l.length) (_ : ∀ (i : Nat) (x y z : Int), F[i]? = some x → G[i]? = some y → H[i]? = some z → z = x + y) (u : Int), exOf l H u = exOf l F u + exOf l G u
  | [], _, _, _, _, _, _, _, u => by simp [exOf]
  | a :: l, x :: F, y :: G, z :: H, h1, h2, h3, he, u => by
    have := exOf_plus (l := l) (F := F) (G := G) (H := H) (by simpa using h1) (by simpa using h2) (by simpa using h3) (fun i x y z hx hy hz => he (i + 1) x y z (by simpa using hx) (by simpa using hy) (by simpa using hz)) u
    have e := he 0 x y z rfl rfl rfl
    subst e
    simp only [exOf, this, dlt_add]
    omega
  | _ :: _, [], _, _, h, _, _, _, _ => by simp at h
  | _ :: _, _ :: _, [], _, _, h, _, _, _ => by simp at h
  | _ :: _, _ :: _, _ :: _, [], _, _, h, _, _ => by simp at h
theorem exOf_zero : ∀ (l : List ArcN) (n : Nat) (u : Int), exOf l (List.replicate n 0) u = 0
  | [], n, u => by simp [exOf]
  | a :: l, 0, u => by simp [exOf]
  | a :: l, n + 1, u => by
    have := exOf_zero l n u
    simp only [List.replicate_succ, exOf, this, dlt]
    split <;> split <;> omega

/-! Sums over all vertices. -/
def sumN (f : Nat → Int) : Nat → Int
  | 0 => 0
  | n + 1 => sumN f n + f n
theorem sumN_congr {f g : Nat → Int} {n : Nat} (h : ∀ i, i < n → f i = g i) : sumN f n = sumN g n := by
  induction n with
  | zero => rfl
  | succ n ih => simp only [sumN]; rw [ih fun i hi => h i (by omega), h n (by omega)]
theorem sumN_add (f g : Nat → Int) (n : Nat) : sumN (fun i => f i + g i) n = sumN f n + sumN g n := by
  induction n with
  | zero => rfl
  | succ n ih => simp only [sumN, ih]; omega
theorem sumN_sub (f g : Nat → Int) (n : Nat) : sumN (fun i => f i - g i) n = sumN f n - sumN g n := by
  induction n with
  | zero => rfl
  | succ n ih => simp only [sumN, ih]; omega
theorem sumN_zero (n : Nat) : sumN (fun _ => 0) n = 0 := by
  induction n with
  | zero => rfl
  | succ n ih => simp only [sumN, ih]; omega
theorem sumN_one {p : Int} (x : Int) {n : Nat} (h0 : 0 ≤ p) (h1 : p < n) : sumN (fun u => if p = (u : Int) then x else 0) n = x := by
  obtain ⟨q, rfl⟩ := Int.eq_ofNat_of_zero_le h0
  have out : ∀ m : Nat, m ≤ q → sumN (fun u => if (q : Int) = (u : Int) then x else 0) m = 0 := by
    intro m hm
    rw [sumN_congr (g := fun _ => 0) fun i hi => if_neg (by omega), sumN_zero]
  have : ∀ m : Nat, q < m → sumN (fun u => if (q : Int) = (u : Int) then x else 0) m = x := by
    intro m hm
    induction m with
    | zero => omega
    | succ m ih =>
      simp only [sumN]
      by_cases e : q = m
      · subst e
        rw [out q (Nat.le_refl _), if_pos rfl]
        omega
      · rw [ih (by omega), if_neg (by omega)]
        omega
  exact this n (by omega)
theorem sum_dlt {a : ArcN} {N : Nat} (x : Int) (h : 0 ≤ a.frm ∧ a.frm < N ∧ 0 ≤ a.to ∧ a.to < N) : sumN (fun u => dlt a x (u : Int)) N = 0 := by
  unfold dlt
  rw [sumN_sub, sumN_one x h.2.2.1 h.2.2.2, sumN_one x h.1 h.2.1]
  omega
theorem sum_ex {N : Nat} : ∀ {l : List ArcN} (F : List Int) (_ : EndsIn N l), sumN (fun u => exOf l F (u : Int)) N = 0
  | [], F, _ => by simp only [exOf_nil]; exact sumN_zero N
  | _ :: _, [], _ => by simp only [exOf]; exact sumN_zero N
  | a :: l, x :: F, h => by
    simp only [exOf]
    rw [sumN_add, sum_dlt x (h a (by simp)), sum_ex F fun b hb => h b (by simp [hb])]
    rfl
theorem sumN_two {f : Nat → Int} {N s t : Nat} (hs : s < N) (ht : t < N) (hne : s ≠ t) (h : ∀ u, u < N → u ≠ s → u ≠ t → f u = 0) : sumN f N = f s + f t := by
  rw [sumN_congr (g := fun u => (if (s : Int) = (u : Int) then f s else 0) + (if (t : Int) = (u : Int) then f t else 0)) fun u hu => ?_]
  · rw [sumN_add, sumN_one _ (by omega) (by omega), sumN_one _ (by omega) (by omega)]
  · by_cases e1 : u = s
    · subst e1
      rw [if_pos rfl, if_neg (by omega)]
      omega
    · by_cases e2 : u = t
      · subst e2
        rw [if_pos rfl, if_neg (by omega)]
        omega
      · rw [if_neg (by omega), if_neg (by omega), h u hu e1 e2]
        rfl

theorem ends_in {N : Nat} {S T : Int} {l : List ArcN} (h : checkF N S T l = 0) : 2 ≤ N ∧ N ≤ 4096 ∧ l.length ≤ 16384 ∧ EndsIn N l ∧ 0 ≤ S ∧ S < N ∧ 0 ≤ T ∧ T < N ∧ S ≠ T ∧ NonNeg l ∧ total l ≤ maxSum := by
  obtain ⟨h1, h2, h3, h4, _, h6⟩ := check_ok h
  simp only [vertsB, decide_eq_true_eq] at h1
  simp only [endsB, isVertB, Bool.and_eq_true, decide_eq_true_eq] at h3
  obtain ⟨h7, h8⟩ := sumB_total h6
  refine ⟨by omega, by omega, h2, fun a ha => ?_, h3.1.1, h3.1.2, h3.2.1.1, h3.2.1.2, h3.2.2, h7, h8⟩
  have := List.all_eq_true.1 h4 a ha
  simp only [isVertB, Bool.and_eq_true, decide_eq_true_eq] at this
  omega

/-! Preflows, flows. -/
def PreIn (N : Nat) (S : Int) (l : List ArcN) (F : List Int) : Prop := ∀ u : Nat, u < N → (u : Int) = S ∨ 0 ≤ exOf l F u
def RightIn (N : Nat) (S T : Int) (l : List ArcN) (F : List Int) : Prop := ∀ u : Nat, u < N → (u : Int) = S ∨ (u : Int) = T ∨ exOf l F u = 0
/-- A flow's worth: what T has more, S has less. -/
theorem right_value {N : Nat} {S T : Int} {l : List ArcN} {F : List Int} (hc : checkF N S T l = 0) (h : RightIn N S T l F) : exOf l F S = -(exOf l F T) := by
  obtain ⟨_, _, _, hE, hS0, hS1, hT0, hT1, hST, _, _⟩ := ends_in hc
  obtain ⟨s, rfl⟩ := Int.eq_ofNat_of_zero_le hS0
  obtain ⟨t, rfl⟩ := Int.eq_ofNat_of_zero_le hT0
  have h1 := sum_ex F hE
  rw [sumN_two (s := s) (t := t) (by omega) (by omega) (by omega) fun u hu e1 e2 => ?_] at h1
  · omega
  · rcases h u hu with h' | h' | h'
    · omega
    · omega
    · exact h'

end Go.Proofs.Ytmmafibeciaghaa
