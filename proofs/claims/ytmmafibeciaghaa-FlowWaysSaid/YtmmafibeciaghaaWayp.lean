/- Plain facts: ways, and what is sent along them. -/
import Derived.Test.YtmmafibeciaghaaFlowp
namespace Go.Proofs.Ytmmafibeciaghaa

/-- A hop: an arc, along it or back. -/
structure HopN where
  arc : Int
  back : Bool
deriving DecidableEq

def hBegin (a : ArcN) (b : Bool) : Int := if b = true then a.to else a.frm
def hEnd (a : ArcN) (b : Bool) : Int := if b = true then a.frm else a.to
/-- Hop h goes along an arc of l from v to w. -/
def HopAt (l : List ArcN) (h : HopN) (v w : Int) : Prop := 0 ≤ h.arc ∧ ∃ a, l[h.arc.toNat]? = some a ∧ hBegin a h.back = v ∧ hEnd a h.back = w
/-- A way from v to w. -/
def Way (l : List ArcN) : Int → List HopN → Int → Prop
  | v, [], w => v = w
  | v, h :: t, w => ∃ x, HopAt l h v x ∧ Way l x t w
section
variable {l : List ArcN} {v w x y : Int} {h : HopN} {H K : List HopN}
theorem HopAt.lt (hh : HopAt l h v w) : h.arc < l.length := by
  obtain ⟨h0, a, ha, _⟩ := hh
  have := (List.getElem?_eq_some_iff.1 ha).1
  omega
theorem HopAt.same (h1 : HopAt l h v w) (h2 : HopAt l h x y) : v = x ∧ w = y := by
  obtain ⟨_, a, ha, e1, e2⟩ := h1
  obtain ⟨_, b, hb, e3, e4⟩ := h2
  rw [ha] at hb
  injection hb with hb
  subst hb
  exact ⟨e1.symm.trans e3, e2.symm.trans e4⟩
theorem HopAt.flip (hh : HopAt l h v w) : HopAt l ⟨h.arc, !h.back⟩ w v := by
  obtain ⟨h0, a, ha, e1, e2⟩ := hh
  refine ⟨h0, a, ha, ?_, ?_⟩
  · rw [← e2]; unfold hBegin hEnd; cases h.back <;> rfl
  · rw [← e1]; unfold hBegin hEnd; cases h.back <;> rfl
theorem HopAt.ends {N : Nat} (hE : EndsIn N l) (hh : HopAt l h v w) : 0 ≤ v ∧ v < N ∧ 0 ≤ w ∧ w < N := by
  obtain ⟨_, a, ha, e1, e2⟩ := hh
  have := hE a (mem_at ha)
  subst e1; subst e2
  unfold hBegin hEnd
  cases h.back <;> simp <;> omega
theorem Way.snoc (hw : Way l v H w) (hh : HopAt l h w x) : Way l v (H ++ [h]) x := by
  induction H generalizing v with
  | nil => simp only [Way] at hw; subst hw; exact ⟨x, hh, rfl⟩
  | cons k t ih =>
    obtain ⟨y, h1, h2⟩ := hw
    exact ⟨y, h1, ih h2⟩
theorem Way.append (h1 : Way l v H w) (h2 : Way l w K x) : Way l v (H ++ K) x := by
  induction H generalizing v with
  | nil => simp only [Way] at h1; subst h1; exact h2
  | cons k t ih =>
    obtain ⟨y, h3, h4⟩ := h1
    exact ⟨y, h3, ih h4⟩
theorem Way.unsnoc (hw : Way l v (H ++ [h]) x) : ∃ y, Way l v H y ∧ HopAt l h y x := by
  induction H generalizing v with
  | nil =>
    obtain ⟨y, h1, h2⟩ := hw
    simp only [Way] at h2
    subst h2
    exact ⟨v, rfl, h1⟩
  | cons k t ih =>
    obtain ⟨y, h1, h2⟩ := hw
    obtain ⟨z, h3, h4⟩ := ih h2
    exact ⟨z, ⟨y, h1, h3⟩, h4⟩
theorem Way.end_eq (h1 : Way l v H w) (h2 : Way l x H y) (hne : H ≠ []) : v = x ∧ w = y := by
  induction H generalizing v x with
  | nil => exact absurd rfl hne
  | cons k t ih =>
    obtain ⟨a, h3, h4⟩ := h1
    obtain ⟨b, h5, h6⟩ := h2
    obtain ⟨e1, e2⟩ := h3.same h5
    subst e1; subst e2
    refine ⟨rfl, ?_⟩
    cases t with
    | nil => simp only [Way] at h4 h6; omega
    | cons m t => exact (ih h4 h6 (by simp)).2
/-- The way back. -/
def backWay (H : List HopN) : List HopN := (H.map fun h => ⟨h.arc, !h.back⟩).reverse
theorem backWay_cons : backWay (h :: H) = backWay H ++ [⟨h.arc, !h.back⟩] := by simp [backWay]
theorem backWay_snoc : backWay (H ++ [h]) = ⟨h.arc, !h.back⟩ :: backWay H := by simp [backWay]
theorem Way.back (hw : Way l v H w) : Way l w (backWay H) v := by
  induction H generalizing v with
  | nil => simp only [Way] at hw; subst hw; rfl
  | cons k t ih =>
    obtain ⟨y, h1, h2⟩ := hw
    rw [backWay_cons]
    exact (ih h2).snoc h1.flip
theorem Way.ends {N : Nat} (hE : EndsIn N l) (hw : Way l v H w) (hv : 0 ≤ v ∧ v < N) : 0 ≤ w ∧ w < N := by
  induction H generalizing v with
  | nil => simp only [Way] at hw; subst hw; exact hv
  | cons k t ih =>
    obtain ⟨y, h1, h2⟩ := hw
    have := h1.ends hE
    exact ih h2 ⟨this.2.2.1, this.2.2.2⟩
theorem Way.arcs (hw : Way l v H w) : ∀ h ∈ H, 0 ≤ h.arc ∧ h.arc < l.length := by
  induction H generalizing v with
  | nil => simp
  | cons k t ih =>
    obtain ⟨y, h1, h2⟩ := hw
    intro h hh
    rcases List.mem_cons.1 hh with rfl | hh
    · exact ⟨h1.1, h1.lt⟩
    · exact ih h2 h hh
end

/-! How often a way goes along an arc, more than back. -/
def sgn (h : HopN) (i : Int) : Int := if h.arc = i then (if h.back = true then -1 else 1) else 0
def surp : List HopN → Int → Int
  | [], _ => 0
  | h :: t, i => sgn h i + surp t i
theorem surp_append (H K : List HopN) (i : Int) : surp (H ++ K) i = surp H i + surp K i := by
  induction H with
  | nil => simp [surp]
  | cons h t ih => simp only [List.cons_append, surp, ih]; omega
theorem surp_snoc (H : List HopN) (h : HopN) (i : Int) : surp (H ++ [h]) i = surp H i + sgn h i := by
  rw [surp_append]
  simp [surp]
theorem sgn_flip (h : HopN) (i : Int) : sgn ⟨h.arc, !h.back⟩ i = -(sgn h i) := by
  unfold sgn
  cases h.back <;> simp <;> split <;> rfl
theorem surp_back (H : List HopN) (i : Int) : surp (backWay H) i = -(surp H i) := by
  induction H with
  | nil => rfl
  | cons h t ih =>
    rw [backWay_cons, surp_snoc, ih, sgn_flip]
    simp only [surp]
    omega
theorem surp_bound (H : List HopN) (i : Int) : -(H.length : Int) ≤ surp H i ∧ surp H i ≤ H.length := by
  induction H with
  | nil => simp [surp]
  | cons h t ih =>
    have : -1 ≤ sgn h i ∧ sgn h i ≤ 1 := by unfold sgn; split; split <;> omega; omega
    simp only [surp, List.length_cons]
    omega
theorem surp_none {H : List HopN} {i : Int} (h : ∀ k ∈ H, k.arc ≠ i) : surp H i = 0 := by
  induction H with
  | nil => rfl
  | cons k t ih =>
    simp only [surp, sgn, if_neg (h k (by simp)), ih fun x hx => h x (by simp [hx])]
    rfl

/-- The numbers, d sent along the way. -/
def sent (F : List Int) (H : List HopN) (d : Int) : List Int := F.mapIdx fun i x => x + d * surp H (i : Int)
theorem sent_len (F : List Int) (H : List HopN) (d : Int) : (sent F H d).length = F.length := by simp [sent]
theorem sent_at {F : List Int} {i : Nat} {x : Int} (H : List HopN) (d : Int) (hx : F[i]? = some x) : (sent F H d)[i]? = some (x + d * surp H (i : Int)) := by
  simp [sent, hx]
theorem sent_inv {F : List Int} {H : List HopN} {d : Int} {i : Nat} {y : Int} (hy : (sent F H d)[i]? = some y) : ∃ x, F[i]? = some x ∧ y = x + d * surp H (i : Int) := by
  have hlt := (List.getElem?_eq_some_iff.1 hy).1
  rw [sent_len] at hlt
  have hx : F[i]? = some F[i] := List.getElem?_eq_getElem hlt
  rw [sent_at H d hx] at hy
  injection hy with hy
  exact ⟨_, hx, hy.symm⟩
theorem sent_ext {F G : List Int} {H : List HopN} {d : Int} (hl : G.length = F.length) (h : ∀ (i : Nat) (x : Int), F[i]? = some x → G[i]? = some (x + d * surp H (i : Int))) : G = sent F H d := by
  apply List.ext_getElem?
  intro i
  by_cases hi : i < F.length
  · have hx : F[i]? = some F[i] := List.getElem?_eq_getElem hi
    rw [h i _ hx, sent_at H d hx]
  · rw [List.getElem?_eq_none (by omega), List.getElem?_eq_none (by rw [sent_len]; omega)]
theorem sent_none (F : List Int) (H : List HopN) (d : Int) (h : ∀ i : Int, surp H i = 0) : sent F H d = F := by
  symm
  refine sent_ext rfl fun i x hx => ?_
  rw [h, Int.mul_zero, Int.add_zero]
  exact hx
theorem sent_nil (F : List Int) (d : Int) : sent F [] d = F := sent_none F [] d fun _ => rfl
theorem sent_zero (F : List Int) (H : List HopN) : sent F H 0 = F := by
  symm
  refine sent_ext rfl fun i x hx => ?_
  rw [Int.zero_mul, Int.add_zero]
  exact hx
theorem sent_back (F : List Int) (H : List HopN) (d : Int) : sent (sent F H d) (backWay H) d = F := by
  symm
  refine sent_ext (by rw [sent_len]) fun i y hy => ?_
  obtain ⟨x, hx, rfl⟩ := sent_inv hy
  rw [hx, surp_back, Int.mul_neg]
  congr 1
  omega
theorem surp_both (H : List HopN) (i : Int) : surp (H ++ backWay H) i = 0 := by
  rw [surp_append, surp_back]; omega

theorem sent_cons {F : List Int} {h : HopN} {t : List HopN} {d y : Int} (h0 : 0 ≤ h.arc) (hy : (sent F t d)[h.arc.toNat]? = some y) : sent F (h :: t) d = (sent F t d).set h.arc.toNat (y + d * (if h.back = true then -1 else 1)) := by
  symm
  refine sent_ext (by simp [sent_len]) fun i x hx => ?_
  have hlt := (List.getElem?_eq_some_iff.1 hx).1
  have hs := sent_at t d hx
  simp only [surp, sgn]
  by_cases e : h.arc = (i : Int)
  · have ei : h.arc.toNat = i := by omega
    rw [ei] at hy ⊢
    rw [hs] at hy
    injection hy with hy
    rw [List.getElem?_set_self (by rw [sent_len]; exact hlt), if_pos e]
    congr 1
    rw [← hy, Int.mul_add]
    omega
  · have ei : h.arc.toNat ≠ i := by omega
    rw [List.getElem?_set_ne ei, hs, if_neg e, Int.zero_add]

theorem dlt_hop {a : ArcN} (b : Bool) (d u : Int) : dlt a (d * (if b = true then -1 else 1)) u = (if hEnd a b = u then d else 0) - (if hBegin a b = u then d else 0) := by
  unfold dlt hEnd hBegin
  cases b
  · simp
  · simp only [if_true, Int.mul_neg, Int.mul_one]
    split <;> split <;> omega
/-- What is sent along a way moves the excess of its begin and its end alone. -/
theorem ex_sent {l : List ArcN} {F : List Int} (hl : F.length = l.length) {H : List HopN} {v w : Int} (hw : Way l v H w) (d u : Int) : exOf l (sent F H d) u = exOf l F u + ((if w = u then d else 0) - (if v = u then d else 0)) := by
  induction H generalizing v with
  | nil => simp only [Way] at hw; subst hw; rw [sent_nil]; omega
  | cons h t ih =>
    obtain ⟨x, ⟨h0, a, ha, e1, e2⟩, hw'⟩ := hw
    have hlt := (List.getElem?_eq_some_iff.1 ha).1
    obtain ⟨y, hy⟩ : ∃ y, (sent F t d)[h.arc.toNat]? = some y := ⟨_, List.getElem?_eq_getElem (by rw [sent_len, hl]; exact hlt)⟩
    rw [sent_cons h0 hy, exOf_set _ _ ha hy, ih hw']
    rw [show ∀ p q : Int, p + q - p = q from fun p q => by omega, dlt_hop, e1, e2]
    omega

/-- How much may be sent. -/
def IsRoom (l : List ArcN) (F : List Int) (H : List HopN) (r : Int) : Prop := 0 ≤ r ∧ r ≤ maxSum ∧ ∀ d, 0 ≤ d → d ≤ maxSum → (d ≤ r ↔ FlowIn l (sent F H d))
section
variable {l : List ArcN} {F : List Int} {H : List HopN} {r d : Int}
theorem IsRoom.sent (h : IsRoom l F H r) (h0 : 0 ≤ d) (h1 : d ≤ r) : FlowIn l (sent F H d) := (h.2.2 d h0 (by have := h.2.1; omega)).1 h1
theorem IsRoom.back (h : IsRoom l (Proofs.Ytmmafibeciaghaa.sent F H d) (backWay H) r) (hF : FlowIn l F) (h0 : 0 ≤ d) (h1 : d ≤ maxSum) : d ≤ r := (h.2.2 d h0 h1).2 (by rw [sent_back]; exact hF)
theorem IsRoom.both (h : IsRoom l F (H ++ backWay H) r) (hF : FlowIn l F) : r = maxSum := by
  have h1 := h.2.1
  have := (h.2.2 maxSum (by unfold maxSum; omega) (Int.le_refl _)).2 (by rw [sent_none F _ _ (surp_both H)]; exact hF)
  omega
end

end Go.Proofs.Ytmmafibeciaghaa
