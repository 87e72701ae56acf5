/- Layer 8: two nets compared by their sides' capacities. -/
import Derived.Test.YtfcjmhihheeifaaFawa
namespace Go.Proofs.Ytfcjmhihheeifaa
open Go.RowKit
set_option maxRecDepth 100000

/-- What a solution's value is, told by sides. -/
structure LeastCut (N s t : Nat) (l : List ArcN) (v : Int) : Prop where
  ex : ∃ K, IsCut N s t K ∧ capX K l = v
  low : ∀ C, IsCut N s t C → v ≤ capX C l
theorem SolIs.least {N M s t : Nat} {fst hd rv : Nat → Nat} {cp : Nat → Int} {l : List ArcN} {F : List Int} {K : List Bool} {v : Int} {σ : FS} (h : SolIs N M s t fst hd rv cp l F K v σ) (hck : checkF N s t l = 0) : LeastCut N s t l v := by
  refine ⟨⟨K, h.cut, ?_⟩, fun C hC => ?_⟩
  · rw [← (acc_cap h.flow).2.2 h.tight, acc_value hck h.cut h.right, h.val]
  · rw [← h.val, ← acc_value hck hC h.right]; exact (acc_cap h.flow).1
theorem LeastCut.nonneg {N s t : Nat} {l : List ArcN} {v : Int} (h : LeastCut N s t l v) (hn : NonNeg l) : 0 ≤ v := by
  obtain ⟨K, -, e⟩ := h.ex
  rw [← e]; exact (capX_bound hn).1
theorem LeastCut.same {N s t : Nat} {l l' : List ArcN} {v v' : Int} (h : LeastCut N s t l v) (h' : LeastCut N s t l' v') (e : ∀ K, capX K l' = capX K l) : v' = v := by
  obtain ⟨K, hK, e1⟩ := h.ex
  obtain ⟨K', hK', e2⟩ := h'.ex
  have a := h.low K' hK'
  have b := h'.low K hK
  rw [e] at b e2
  omega

/-! Twice as much. -/
def twiceArc (a : ArcN) : ArcN := ⟨a.frm, a.to, a.cap * 2⟩
theorem capX_twice (K : List Bool) : ∀ l : List ArcN, capX K (l.map twiceArc) = 2 * capX K l
  | [] => rfl
  | a :: r => by
    have : outB K (twiceArc a) = outB K a := rfl
    simp only [List.map_cons, capX, capX_twice K r, this]
    split <;> simp [twiceArc] <;> omega
theorem total_twice : ∀ l : List ArcN, total (l.map twiceArc) = 2 * total l
  | [] => rfl
  | a :: r => by simp only [List.map_cons, total, total_twice r]; simp only [twiceArc]; omega
theorem LeastCut.twice {N s t : Nat} {l : List ArcN} {v v' : Int} (h : LeastCut N s t l v) (h' : LeastCut N s t (l.map twiceArc) v') : v' = 2 * v := by
  obtain ⟨K, hK, e1⟩ := h.ex
  obtain ⟨K', hK', e2⟩ := h'.ex
  have a := h.low K' hK'
  have b := h'.low K hK
  rw [capX_twice] at b e2
  omega
theorem total_small {l : List ArcN} {c : Int} (h : ∀ a ∈ l, a.cap < c) : total l ≤ l.length * c := by
  induction l with
  | nil => simp [total]
  | cons a r ih =>
    have h1 := ih fun b hb => h b (by simp [hb])
    have h2 := h a (by simp)
    simp only [total, List.length_cons]
    have : ((r.length + 1 : Nat) : Int) * c = r.length * c + c := by push_cast; rw [Int.add_mul]; omega
    omega
theorem twice_check {N : Nat} {S T : Int} {l : List ArcN} (hck : checkF N S T l = 0) (hl : l.length ≤ 50) (hm : ∀ a ∈ l, a.cap < 1125899906842624) : checkF N S T (l.map twiceArc) = 0 := by
  obtain ⟨h1, h2, h3, h4, h5, h6, h7, h8, h9, h10, h11⟩ := ends_in hck
  refine check_of h1 h2 (by simp; omega) (fun a ha => ?_) h5 h6 h7 h8 h9 (fun a ha => ?_) ?_
  · obtain ⟨b, hb, rfl⟩ := List.mem_map.1 ha; exact h4 b hb
  · obtain ⟨b, hb, rfl⟩ := List.mem_map.1 ha
    have := h10 b hb
    simp only [twiceArc]; omega
  · have := total_small hm
    rw [total_twice]
    have : (l.length : Int) * 1125899906842624 ≤ 50 * 1125899906842624 := Int.mul_le_mul_of_nonneg_right (by omega) (by omega)
    unfold maxSum; omega

/-! One arc wider. -/
def moreArc (a : ArcN) (k : Int) : ArcN := ⟨a.frm, a.to, a.cap + k⟩
theorem capX_more (K : List Bool) {k : Int} (hk : 0 ≤ k) : ∀ (l : List ArcN) (i : Nat) (a : ArcN), l[i]? = some a → capX K l ≤ capX K (l.set i (moreArc a k)) ∧ capX K (l.set i (moreArc a k)) ≤ capX K l + k
  | [], i, a, h => by simp at h
  | x :: r, 0, a, h => by
    simp at h; subst h
    have : outB K (moreArc x k) = outB K x := rfl
    simp only [List.set_cons_zero, capX, this]
    split <;> simp [moreArc] <;> omega
  | x :: r, i + 1, a, h => by
    have := capX_more K hk r i a (by simpa using h)
    simp only [List.set_cons_succ, capX]
    omega
theorem total_more {k : Int} : ∀ (l : List ArcN) (i : Nat) (a : ArcN), l[i]? = some a → total (l.set i (moreArc a k)) = total l + k
  | [], i, a, h => by simp at h
  | x :: r, 0, a, h => by
    simp at h; subst h
    simp only [List.set_cons_zero, total, moreArc]; omega
  | x :: r, i + 1, a, h => by
    have := total_more (k := k) r i a (by simpa using h)
    simp only [List.set_cons_succ, total]
    omega
theorem LeastCut.more {N s t : Nat} {l : List ArcN} {v v' k : Int} {i : Nat} {a : ArcN} (h : LeastCut N s t l v) (ha : l[i]? = some a) (hk : 0 ≤ k) (h' : LeastCut N s t (l.set i (moreArc a k)) v') : v ≤ v' ∧ v' ≤ v + k := by
  obtain ⟨K, hK, e1⟩ := h.ex
  obtain ⟨K', hK', e2⟩ := h'.ex
  have a1 := h.low K' hK'
  have b1 := h'.low K hK
  have c1 := capX_more K hk l i a ha
  have c2 := capX_more K' hk l i a ha
  omega
theorem more_check {N : Nat} {S T : Int} {l : List ArcN} {i : Nat} {a : ArcN} {k : Int} (hck : checkF N S T l = 0) (hl : l.length ≤ 50) (hm : ∀ a ∈ l, a.cap < 1125899906842624) (ha : l[i]? = some a) (hk : 0 ≤ k) (hk' : k ≤ 1099511627776) : checkF N S T (l.set i (moreArc a k)) = 0 := by
  obtain ⟨h1, h2, h3, h4, h5, h6, h7, h8, h9, h10, h11⟩ := ends_in hck
  have hmm := mem_at ha
  have hmem : ∀ b ∈ l.set i (moreArc a k), b = moreArc a k ∨ b ∈ l := fun b hb => by
    rcases List.mem_or_eq_of_mem_set hb with h | h
    · exact .inr h
    · exact .inl h
  refine check_of h1 h2 (by simp; omega) (fun b hb => ?_) h5 h6 h7 h8 h9 (fun b hb => ?_) ?_
  · rcases hmem b hb with rfl | hb
    · exact h4 a hmm
    · exact h4 b hb
  · rcases hmem b hb with rfl | hb
    · have := h10 a hmm
      simp only [moreArc]; omega
    · exact h10 b hb
  · have := total_small hm
    rw [total_more l i a ha]
    have : (l.length : Int) * 1125899906842624 ≤ 50 * 1125899906842624 := Int.mul_le_mul_of_nonneg_right (by omega) (by omega)
    unfold maxSum; omega

/-! Nothing but one arc. -/
def noneArc (a : ArcN) : ArcN := ⟨a.frm, a.to, 0⟩
theorem capX_none (K : List Bool) : ∀ l : List ArcN, capX K (l.map noneArc) = 0
  | [] => rfl
  | a :: r => by
    simp only [List.map_cons, capX, capX_none K r]
    split <;> simp [noneArc]
theorem total_none : ∀ l : List ArcN, total (l.map noneArc) = 0
  | [] => rfl
  | a :: r => by simp only [List.map_cons, total, total_none r]; simp only [noneArc]; omega
def lone (l : List ArcN) (s t c : Int) : List ArcN := l.map noneArc ++ [⟨s, t, c⟩]
theorem lone_len (l : List ArcN) (s t c : Int) : (lone l s t c).length = l.length + 1 := by simp [lone]
theorem lone_check {N : Nat} {S T c : Int} {l : List ArcN} (hck : checkF N S T l = 0) (hl : l.length ≤ 50) : checkF N S T (lone l S T c) = 0 ↔ 0 ≤ c ∧ c ≤ 4611686018427387904 := by
  obtain ⟨h1, h2, h3, h4, h5, h6, h7, h8, h9, h10, h11⟩ := ends_in hck
  have ht : total (lone l S T c) = c := by
    unfold lone
    rw [total_append, total_none]
    simp [total]
  constructor
  · intro h
    obtain ⟨-, -, -, -, -, -, -, -, -, g1, g2⟩ := ends_in h
    rw [ht] at g2
    have := g1 ⟨S, T, c⟩ (by simp [lone])
    exact ⟨this, g2⟩
  · rintro ⟨g1, g2⟩
    refine check_of h1 h2 (by rw [lone_len]; omega) (fun b hb => ?_) h5 h6 h7 h8 h9 (fun b hb => ?_) (by rw [ht]; exact g2)
    all_goals
      rcases List.mem_append.1 hb with hb | hb
    · obtain ⟨b', hb', rfl⟩ := List.mem_map.1 hb; exact h4 b' hb'
    · simp at hb; subst hb; exact ⟨h5, h6, h7, h8⟩
    · obtain ⟨b', hb', rfl⟩ := List.mem_map.1 hb; exact Int.le_refl _
    · simp at hb; subst hb; exact g1
theorem ex_none {u : Int} : ∀ {l : List ArcN} {F : List Int}, FlowIn l F → (∀ a ∈ l, a.cap = 0 ∨ (a.frm ≠ u ∧ a.to ≠ u)) → exOf l F u = 0
  | [], F, _, _ => by simp [exOf]
  | a :: l, [], h, _ => by have := h.len; simp at this
  | a :: l, x :: F, h, hz => by
    have ih := ex_none h.tail fun b hb => hz b (by simp [hb])
    have h0 := h.ent 0 a x rfl rfl
    simp only [exOf, ih, dlt]
    rcases hz a (by simp) with e | ⟨e1, e2⟩
    · have : x = 0 := by omega
      subst this; simp
    · simp [e1, e2]
theorem lone_rest {s t c u : Int} {l : List ArcN} {F : List Int} (h : FlowIn (lone l s t c) F) (h1 : u ≠ s) (h2 : u ≠ t) : exOf (lone l s t c) F u = 0 :=
  ex_none h fun a ha => by
    rcases List.mem_append.1 ha with ha | ha
    · obtain ⟨b, -, rfl⟩ := List.mem_map.1 ha; exact .inl rfl
    · simp at ha; subst ha; exact .inr ⟨fun e => h1 e.symm, fun e => h2 e.symm⟩
theorem lone_cap {N : Nat} {s t c : Int} {l : List ArcN} {K : List Bool} (hK : IsCut N s t K) : capX K (lone l s t c) = c := by
  unfold lone
  have : outB K ⟨s, t, c⟩ = true := by simp [outB, hK.src, hK.snk]
  rw [capX_append, capX_none]
  simp [capX, this]
theorem lone_last {N : Nat} {s t c : Int} {l : List ArcN} {K : List Bool} {F : List Int} (hF : FlowIn (lone l s t c) F) (hK : IsCut N s t K) (hT : TightFor K (lone l s t c) F) : F[l.length]? = some c := by
  have hl := hF.len
  rw [lone_len] at hl
  have hx : F[l.length]? = some (F[l.length]'(by omega)) := List.getElem?_eq_getElem _
  have : outB K ⟨s, t, c⟩ = true := by simp [outB, hK.src, hK.snk]
  rw [hx, (hT l.length ⟨s, t, c⟩ _ (by simp [lone]) hx).1 this]

/-- A right net's rows once more, and what its residual capacities come to. -/
theorem net_rowf {N s t : Nat} {l : List ArcN} (hck : checkF N s t l = 0) : ∃ (M : Nat) (fst hd rv ai : Nat → Nat) (cp : Nat → Int) (bk : Nat → Bool), firstOf l N = M ∧ PNet N M s t fst hd rv ai cp bk ∧
    (∀ (W : World) (n0 gF gH gR gC gA gB : Nat), CsrAt W n0 N l gF gH gR gC gA gB → PIn W n0 N M (csrK N M gF gH gR gC gA gB) fst hd rv ai cp bk) ∧ (∀ a, a < M → ai a < l.length) ∧
    (∀ X E H, StIs N M s t hd rv cp X E H → (∀ v, v < N → actB s t E v = false) → FlowIn l (flF ai bk X l.length M) ∧ RightIn N s t l (flF ai bk X l.length M) ∧ exOf l (flF ai bk X l.length M) t = hOf E t ∧ ¬ Star (Opn l (flF ai bk X l.length M)) s t) ∧
    ∀ X E H, StIs N M s t hd rv cp X E H → FlowIn l (flF ai bk X l.length M) ∧ ∀ u : Nat, u < N → hOf E u = exOf l (flF ai bk X l.length M) (u : Int) := by
  obtain ⟨F, H, R, C, Ai, B, hL⟩ := csrL_ex N l
  have hE := (ends_in hck).2.2.2.1
  have hG := (hL.pnet hck).1
  refine ⟨_, _, _, _, _, _, _, rfl, hG, fun W n0 gF gH gR gC gA gB h => hL.pin hck (h.rows hE hL), fun a ha => ?_, fun X E H hS hno => ⟨fl_in hL hck hS.bal, fun u hu => ?_, ?_, fun hst => ?_⟩, fun X E H hS => ⟨fl_in hL hck hS.bal, fun u hu => ?_⟩⟩
  · obtain ⟨v, u, b, c, hI, _⟩ := hL.num hE ha
    exact hI.lt
  · by_cases e1 : u = s
    · exact .inl (by omega)
    by_cases e2 : u = t
    · exact .inr (.inl (by omega))
    refine .inr (.inr ?_)
    rw [fl_ex hL hck hS.bal, ← hS.exc u hu]
    have h1 := hS.neg u hu e1
    have h2 := hno u hu
    rw [← Bool.not_eq_true, act_iff] at h2
    have h3 : ¬ 0 < hOf E u := fun h => h2 ⟨e1, e2, h⟩
    omega
  · rw [fl_ex hL hck hS.bal, ← hS.exc t hG.ht]
  · obtain ⟨v', e, hr⟩ := fl_star hL hck hS.bal hst
    obtain rfl : t = v' := by omega
    exact hS.apart hG hr
  · rw [fl_ex hL hck hS.bal, ← hS.exc u hu]

/-- Solve, told by its value alone. -/
theorem solve_least (N s t n c : Nat) (A : Option Addr) (l : List ArcN) (w : World) (hA : Arcs w w.heap.size A n l) (hc : checkF N s t l = 0) :
    Calls Try.prog 10 #[.agg #[.int .i64 (N : Int), .int .i64 (s : Int), .int .i64 (t : Int), .slice A n c]] w fun e w' => ∃ (gf gs : Nat) (v : Int) (P L : Nat),
      e = .returned (.tuple #[.agg #[.slice (some ⟨gf, 0, none⟩) n n, .slice (some ⟨gs, 0, none⟩) N N, .int .i64 v], .agg #[.int .i64 (P : Int), .int .i64 (L : Int)], .int .i64 0]) ∧ LeastCut N s t l v ∧ Below w.heap.size w w' := by
  obtain ⟨M, fst, hd, rv, ai, cp, bk, hMe, hG, hI, hai, hEnd⟩ := net_rowe hc
  refine (fsolve_is N M s t n c A l fst hd rv ai cp bk w hA hc hMe hG hI hai hEnd).mono ?_
  rintro e w' ⟨gf, gs, F, K, v, σ, rfl, -, -, -, hs, B⟩
  exact ⟨gf, gs, v, σ.P, σ.L, rfl, hs.least hc, B⟩

end Go.Proofs.Ytfcjmhihheeifaa
