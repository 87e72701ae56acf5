/- PreEnds: what is left, as the numbers of a flow: plain facts. PreEnds: csr.Flow by numbers, wherever the rows lie. PreEnds: the walk. -/
import Derived.Test.YtgjokddcaadjdaaPlap
import Derived.Test.YtgjokddcaadjdaaReaches
import Derived.Test.YtgjokddcaadjdaaPinb
import Derived.Test.YtgjokddcaadjdaaPawa
import Derived.Test.YtgjokddcaadjdaaPbox
import Derived.Laws.CopyOwn
/-! Pep -/
namespace Go.Proofs.Ytgjokddcaadjdaa
open Go.RowKit
set_option maxRecDepth 100000

/-- The arcs' numbers, when k of what is left has been looked at. -/
def flF (ai : Nat → Nat) (bk : Nat → Bool) (X : List Int) (n : Nat) : Nat → List Int
  | 0 => List.replicate n 0
  | k + 1 => if bk k = true then (flF ai bk X n k).set (ai k) (hOf X k) else flF ai bk X n k
section
variable {ai : Nat → Nat} {bk : Nat → Bool} {X : List Int} {n M : Nat}
theorem flF_len : ∀ k, (flF ai bk X n k).length = n
  | 0 => by simp [flF]
  | k + 1 => by
    simp only [flF]
    split
    · rw [List.length_set, flF_len k]
    · exact flF_len k
theorem flF_at (haij : ∀ a b, a < M → b < M → ai a = ai b → bk a = bk b → a = b) (hl : ∀ a, a < M → ai a < n) {a : Nat} (hb : bk a = true) : ∀ k, k ≤ M → a < k → (flF ai bk X n k)[ai a]? = some (hOf X a)
  | 0, _, h => by omega
  | k + 1, hk, h => by
    simp only [flF]
    by_cases e : a = k
    · subst e
      rw [if_pos hb, List.getElem?_set, if_pos rfl, flF_len, if_pos (hl a (by omega))]
    · have ih := flF_at haij hl hb k (by omega) (by omega)
      split
      · next hbk =>
        rw [List.getElem?_set, if_neg fun e' => e (haij a k (by omega) (by omega) e'.symm (by rw [hb, hbk]))]
        exact ih
      · exact ih
theorem flF_no {i : Nat} (hi : i < n) : ∀ k, (∀ a, a < k → bk a = true → ai a ≠ i) → (flF ai bk X n k)[i]? = some 0
  | 0, _ => by simp [flF, hi]
  | k + 1, h => by
    have ih := flF_no hi k fun a ha => h a (by omega)
    simp only [flF]
    split
    · next hb =>
      rw [List.getElem?_set, if_neg (h k (by omega) hb)]
      exact ih
    · exact ih
end

/-- What an arc adds to u's excess, by its number. -/
def dAt (l : List ArcN) (F : List Int) (u : Int) (i : Nat) : Int := match l[i]?, F[i]? with
  | some a, some x => dlt a x u
  | _, _ => 0
theorem ex_dAt (u : Int) : ∀ (l : List ArcN) (F : List Int), F.length = l.length → exOf l F u = sumN (dAt l F u) l.length
  | [], _, _ => by simp [exOf, sumN]
  | _ :: _, [], h => by simp at h
  | a :: l, x :: F, h => by
    have ih := ex_dAt u l F (by simpa using h)
    simp only [exOf, List.length_cons]
    rw [sumN_front, ih]
    rfl

section
variable {N s t : Nat} {l : List ArcN} {F H R C Ai X E Hh : List Int} {B : List Bool}
/-- What stands where an arc's residual one does. -/
theorem CsrL.inc (h : CsrL N l F H R C Ai B) (hE : EndsIn N l) {i : Nat} {v u c : Int} {b : Bool} (hI : Inc l i v u b c) :
    posOf l i v < firstOf l N ∧ hdOf Ai (posOf l i v) = i ∧ bOf B (posOf l i v) = b ∧ hOf C (posOf l i v) = c ∧ (hdOf H (posOf l i v) : Int) = u ∧ hdOf R (posOf l i v) = posOf l i u := by
  have h0 := hI.ends hE
  have hp := pos_lt hI hE
  have e := h.ent.ent _ _ _ _ _ hI h0.1 hp
  have r := h.rev.ent _ _ _ _ _ hI h0.1 hp
  exact ⟨hp, hdOf_eq e.2.2.1, by unfold bOf; rw [e.2.2.2]; rfl, hOf_at e.2.1, hdOf_at e.1 h0.2.2.1, hdOf_eq r⟩
/-- Each of what is left is some arc's. -/
theorem CsrL.num (h : CsrL N l F H R C Ai B) (hE : EndsIn N l) {a : Nat} (ha : a < firstOf l N) : ∃ v u b c, Inc l (hdOf Ai a) v u b c ∧ posOf l (hdOf Ai a) v = a := by
  obtain ⟨i, q, v, u, b, c, hI, hp, hq, hql, e1, e2, e3, e4, e5⟩ := h.at hE ha
  have hi : hdOf Ai a = i := hdOf_eq e4
  rw [hi]
  exact ⟨v, u, b, c, hI, hp⟩

theorem fl_back (h : CsrL N l F H R C Ai B) (hc : checkF N s t l = 0) {i : Nat} {v u c : Int} (hI : Inc l i v u true c) : (flF (hdOf Ai) (bOf B) X l.length (firstOf l N))[i]? = some (hOf X (posOf l i v)) := by
  have hE := (ends_in hc).2.2.2.1
  have hG := (h.pnet hc).1
  obtain ⟨h1, h2, h3, -⟩ := h.inc hE hI
  have hil : ∀ a, a < firstOf l N → hdOf Ai a < l.length := fun a ha => by
    obtain ⟨v, u, b, c, hI, _⟩ := h.num hE ha
    exact hI.lt
  have := flF_at (X := X) (n := l.length) hG.aij hil h3 _ (Nat.le_refl _) h1
  rw [h2] at this
  exact this
theorem fl_loop (h : CsrL N l F H R C Ai B) (hc : checkF N s t l = 0) {i : Nat} {a : ArcN} (ha : l[i]? = some a) (he : a.frm = a.to) : (flF (hdOf Ai) (bOf B) X l.length (firstOf l N))[i]? = some 0 := by
  have hE := (ends_in hc).2.2.2.1
  refine flF_no (List.getElem?_eq_some_iff.1 ha).1 _ fun b hb _ e => ?_
  obtain ⟨v, u, b', c, ⟨hne, x, hx, hh⟩, _⟩ := h.num hE hb
  rw [e, ha] at hx
  injection hx with hx
  subst hx
  rcases hh with ⟨_, h1, h2, _⟩ | ⟨_, h1, h2, _⟩ <;> exact hne (by omega)
theorem fl_res (h : CsrL N l F H R C Ai B) (hc : checkF N s t l = 0) (hb : Bal (firstOf l N) (hdOf R) (hOf C) X) : ResOf l (flF (hdOf Ai) (bOf B) X l.length (firstOf l N)) (firstOf l N) X := by
  have hE := (ends_in hc).2.2.2.1
  refine ⟨hb.1, fun i v u b c x hI hx => ?_⟩
  obtain ⟨h1, h2, h3, h4, h5, h6⟩ := h.inc hE hI
  rw [hOf_get hb.1 h1]
  cases b with
  | true =>
    have e := fl_back (X := X) h hc hI
    rw [hx] at e
    injection e with e
    rw [e]; rfl
  | false =>
    obtain ⟨c', hI'⟩ := hI.flip
    have e := fl_back (X := X) h hc hI'
    rw [hx] at e
    injection e with e
    obtain ⟨k1, k2, k3, k4, k5, k6⟩ := h.inc hE hI'
    have hz : c' = 0 := by
      obtain ⟨_, _, _, hh⟩ := hI'
      rcases hh with ⟨g, _⟩ | ⟨_, _, _, g⟩
      · cases g
      · exact g
    have := (hb.2 _ h1).2
    rw [h6, h4, k4, hz] at this
    rw [capAt_fwd hI, e]
    simp only [Bool.false_eq_true, if_false]
    congr 1
    omega
theorem fl_in (h : CsrL N l F H R C Ai B) (hc : checkF N s t l = 0) (hb : Bal (firstOf l N) (hdOf R) (hOf C) X) : FlowIn l (flF (hdOf Ai) (bOf B) X l.length (firstOf l N)) := by
  have hE := (ends_in hc).2.2.2.1
  have hnn := (ends_in hc).2.2.2.2.2.2.2.2.2.1
  refine ⟨flF_len _, fun i a x ha hx => ?_⟩
  by_cases he : a.frm = a.to
  · rw [fl_loop h hc ha he] at hx
    injection hx with hx
    subst hx
    exact ⟨Int.le_refl _, hnn a (mem_at ha)⟩
  · have hr := fl_res h hc hb
    have h1 := h.inc hE (inc_fwd ha he)
    have h2 := h.inc hE (inc_bwd ha he)
    have e1 := hr.ent _ _ _ _ _ x (inc_fwd ha he) hx
    have e2 := hr.ent _ _ _ _ _ x (inc_bwd ha he) hx
    have g1 := (hb.2 _ h1.1).1
    have g2 := (hb.2 _ h2.1).1
    rw [hOf_at e1, capAt_fwd (inc_fwd ha he)] at g1
    rw [hOf_at e2] at g2
    simp only [Bool.false_eq_true, if_false, if_true] at g1 g2
    omega
theorem fl_ex (h : CsrL N l F H R C Ai B) (hc : checkF N s t l = 0) (hb : Bal (firstOf l N) (hdOf R) (hOf C) X) (u : Nat) :
    exOf l (flF (hdOf Ai) (bOf B) X l.length (firstOf l N)) (u : Int) = exT (firstOf l N) (hdOf H) (hdOf R) (hOf C) X u := by
  have hE := (ends_in hc).2.2.2.1
  have hr := fl_res h hc hb
  have hil : ∀ a, a < firstOf l N → hdOf Ai a < l.length := fun a ha => by
    obtain ⟨v, u, b, c, hI, _⟩ := h.num hE ha
    exact hI.lt
  obtain ⟨G, hG⟩ : ∃ G : Nat → Int, (fun j => if hdOf H (hdOf R j) = u then hOf X j - hOf C j else 0) = G := ⟨_, rfl⟩
  have e : sumN G (firstOf l N) = sumN (fun i => sumN (fun a => if hdOf Ai a = i then G a else 0) (firstOf l N)) l.length := by
    refine (sumN_congr fun a ha => ?_).trans (sumN_swap (fun a i => if hdOf Ai a = i then G a else 0) (firstOf l N) l.length)
    have := sumN_upd (f := fun _ => 0) (g := fun i => if hdOf Ai a = i then G a else 0) (a := hdOf Ai a) (n := l.length) (d := G a) (hil a ha) (fun j _ hne => if_neg fun e => hne e.symm) (by simp)
    rw [this, sumN_zero]
    omega
  unfold exT
  rw [hG, e, ex_dAt _ _ _ (flF_len _)]
  refine sumN_congr fun i hi => ?_
  obtain ⟨a, ha⟩ : ∃ a, l[i]? = some a := ⟨_, List.getElem?_eq_getElem hi⟩
  obtain ⟨x, hx⟩ : ∃ x, (flF (hdOf Ai) (bOf B) X l.length (firstOf l N))[i]? = some x := ⟨_, List.getElem?_eq_getElem (by rw [flF_len]; exact hi)⟩
  unfold dAt
  rw [ha, hx]
  dsimp only
  have hends : ∀ j, j < firstOf l N → hdOf Ai j = i → a.frm ≠ a.to ∧ (j = posOf l i a.frm ∨ j = posOf l i a.to) := by
    rintro j hj rfl
    obtain ⟨v, u, b', c, ⟨hne, y, hy, hh⟩, hp⟩ := h.num hE hj
    rw [ha] at hy
    injection hy with hy
    subst hy
    rcases hh with ⟨_, h1, h2, _⟩ | ⟨_, h1, h2, _⟩
    · exact ⟨by rw [h1, h2]; exact hne, .inl (by rw [h1, hp])⟩
    · exact ⟨by rw [h1, h2]; exact fun e => hne e.symm, .inr (by rw [h1, hp])⟩
  by_cases he : a.frm = a.to
  · rw [sumN_congr (g := fun _ => 0) fun j hj => if_neg fun e => (hends j hj e).1 he, sumN_zero]
    unfold dlt
    rw [he]
    omega
  · have I1 := inc_fwd ha he
    have I2 := inc_bwd ha he
    obtain ⟨p1, p2, p3, p4, p5, p6⟩ := h.inc hE I1
    obtain ⟨q1, q2, q3, q4, q5, q6⟩ := h.inc hE I2
    have e1 := hr.ent _ _ _ _ _ x I1 hx
    have e2 := hr.ent _ _ _ _ _ x I2 hx
    have hpq : posOf l i a.frm ≠ posOf l i a.to := fun e => he (pos_inj I1 I2 (I1.ends hE).1 (I2.ends hE).1 e).1
    rw [sumN_two (s := posOf l i a.frm) (t := posOf l i a.to) p1 q1 hpq fun j hj n1 n2 => if_neg fun e => (hends j hj e).2.elim n1 n2]
    rw [if_pos p2, if_pos q2, ← hG]
    dsimp only
    rw [p6, q6, hOf_at e1, hOf_at e2, p4, q4, capAt_fwd I1]
    simp only [Bool.false_eq_true, if_false, if_true]
    have g1 : (hdOf H (posOf l i a.to) = u) ↔ a.frm = (u : Int) := by rw [← q5]; omega
    have g2 : (hdOf H (posOf l i a.frm) = u) ↔ a.to = (u : Int) := by rw [← p5]; omega
    unfold dlt
    simp only [g1, g2]
    split <;> split <;> omega
theorem fl_star (h : CsrL N l F H R C Ai B) (hc : checkF N s t l = 0) (hb : Bal (firstOf l N) (hdOf R) (hOf C) X) {v : Int} (hs : Star (Opn l (flF (hdOf Ai) (bOf B) X l.length (firstOf l N))) (s : Int) v) :
    ∃ v' : Nat, v = v' ∧ Rch (firstOf l N) (hdOf H) (hdOf R) X s v' := by
  have hE := (ends_in hc).2.2.2.1
  induction hs with
  | here => exact ⟨s, rfl, .nil _⟩
  | more h1 h2 ih =>
    obtain ⟨w, rfl, hw⟩ := ih
    obtain ⟨i, b, c, hI, hp⟩ := (via_from (flF_len _) (fl_res h hc hb)).2 h2
    obtain ⟨k1, k2, k3, k4, k5, k6⟩ := h.inc hE hI
    obtain ⟨c', hI'⟩ := hI.flip
    obtain ⟨q1, q2, q3, q4, q5, q6⟩ := h.inc hE hI'
    refine ⟨_, k5.symm, hw.snoc k1 (by unfold leftB at hp; exact of_decide_eq_true hp) ?_⟩
    rw [k6]
    omega
end

/-- A right net's rows; and of a state of which nobody is active: what is left is a flow's. -/
theorem net_rowe {N s t : Nat} {l : List ArcN} (hck : checkF N s t l = 0) : ∃ (M : Nat) (fst hd rv ai : Nat → Nat) (cp : Nat → Int) (bk : Nat → Bool), firstOf l N = M ∧ PNet N M s t fst hd rv ai cp bk ∧
    (∀ (W : World) (n0 gF gH gR gC gA gB : Nat), CsrAt W n0 N l gF gH gR gC gA gB → PIn W n0 N M (csrK N M gF gH gR gC gA gB) fst hd rv ai cp bk) ∧ (∀ a, a < M → ai a < l.length) ∧
    ∀ X E H, StIs N M s t hd rv cp X E H → (∀ v, v < N → actB s t E v = false) → FlowIn l (flF ai bk X l.length M) ∧ RightIn N s t l (flF ai bk X l.length M) ∧ exOf l (flF ai bk X l.length M) t = hOf E t ∧ ¬ Star (Opn l (flF ai bk X l.length M)) s t := by
  obtain ⟨F, H, R, C, Ai, B, hL⟩ := csrL_ex N l
  have hE := (ends_in hck).2.2.2.1
  have hG := (hL.pnet hck).1
  refine ⟨_, _, _, _, _, _, _, rfl, hG, fun W n0 gF gH gR gC gA gB h => hL.pin hck (h.rows hE hL), fun a ha => ?_, fun X E H hS hno => ⟨fl_in hL hck hS.bal, fun u hu => ?_, ?_, fun hst => ?_⟩⟩
  · obtain ⟨v, u, b, c, hI, _⟩ := hL.num hE ha
    exact hI.lt
  · by_cases e1 : u = s
    · exact .inl (by omega)
    by_cases e2 : u = t
    · exact .inr (.inl (by omega))
    refine .inr (.inr ?_)
    rw [fl_ex hL hck hS.bal, ← hS.exc u hu]
    have h1 := hS.neg u hu e1
    have h2 := hno u hu
    rw [← Bool.not_eq_true, act_iff] at h2
    have h3 : ¬ 0 < hOf E u := fun h => h2 ⟨e1, e2, h⟩
    omega
  · rw [fl_ex hL hck hS.bal, ← hS.exc t hG.ht]
  · obtain ⟨v', e, hr⟩ := fl_star hL hck hS.bal hst
    obtain rfl : t = v' := by omega
    exact hS.apart hG hr

end Go.Proofs.Ytgjokddcaadjdaa

/-! Pfl -/
namespace Go.Proofs.Ytgjokddcaadjdaa
open Go.RowKit
set_option maxRecDepth 100000

set_option maxHeartbeats 4000000 in
theorem flow3 (N M s t n : Nat) (K : CsrS) (fst hd rv ai : Nat → Nat) (cp : Nat → Int) (bk : Nat → Bool) (AX : Option Addr) (cX : Nat) (X : List Int) (w : World) (hG : PNet N M s t fst hd rv ai cp bk) (hI : PIn w w.heap.size N M K fst hd rv ai cp bk)
    (hX : Ints w w.heap.size AX M X) (hXR : ∀ x ∈ X, InR x) (hbal : Bal M rv cp X) (hn : n ≤ 16384) (ha : ∀ a, a < M → ai a < n) :
    Calls Try.prog 35 #[csrW N M s t K, .slice AX M cX, .int .i64 n] w fun e w' => ∃ g, e = .returned (.tuple #[.slice (some ⟨g, 0, none⟩) n n, .int .i64 0]) ∧ w.heap.size ≤ g ∧ Blk w' g 2 (ivs (flF ai bk X n M)) ∧ Below w.heap.size w w' := by
  have hct := fun W => isCount_any (n : Int) W
  rw [decide_eq_true (show 0 ≤ (n : Int) ∧ (n : Int) ≤ 16384 by omega)] at hct
  have HCT := Lib.hid hct; clear hct
  have hlen := fun W => len2_any N M s t K W
  have HL := Lib.hid hlen; clear hlen
  have hM := hG.nM
  have hwf := fun W (h : PIn W W.heap.size N M K fst hd rv ai cp bk) => wf2 N M s t K fst hd rv ai cp bk W hG.g h (by omega)
  have HWF := Lib.hid hwf; clear hwf
  have hba := fun W (h : PIn W W.heap.size N M K fst hd rv ai cp bk) (hX : Ints W W.heap.size AX M X) => bal2 N M s t K fst hd rv ai cp bk AX cX X true W hG h hX hXR ⟨fun _ => (balN_iff hG hX.len).2 hbal, fun _ => rfl⟩
  have HBA := Lib.hid hba; clear hba hbal hXR
  obtain ⟨i1, hi, hz0, hz1, hz2⟩ := info_parts long_info
  have hml := fun W => run_make_lit (P := Try.prog) 26 2 i1 _ Try.underlying26 hi hz0 n (by rw [hz2]; omega) (by omega) W
  rw [hz1, ivs_made] at hml
  clear hi hz0 hz1 hz2
  have HIC := Lib.hid ha; clear ha
  have HI := Lib.hid hI; have HX := Lib.hid hX
  clear hI hX hG
  obtain ⟨AF, cF, AH, cH, AR, cR, AC, cC, AA, cA, AB, cB⟩ := K
  dsimp only [csrW] at HL HWF HBA ⊢
  go_enter Try.func35, Try.ntmps35
  go_wp2_with fail
  refine (HWF.out _ (HI.out.onAlloc _)).mono ?_
  rintro e w1 ⟨rfl, B1⟩
  have K1 : Blk w1 w.heap.size 32 _ := (Blk.new rfl).below B1 (by simp)
  have Bw := below_step (below_alloc _) B1
  have C1 := (HI.out.onAlloc _).on B1
  have X1 := (HX.out.onAlloc _).on B1
  obtain ⟨a0, a1, a2, a3, a4, a5, a6, a7, a8⟩ := K1.at9
  clear B1
  go_wp2_with fail
  refine (HL.out _).mono ?_
  rintro e w2 ⟨rfl, B2⟩
  have K2 := K1.below B2 K1.lt
  have C2 := C1.on B2
  have X2 := X1.on B2
  have Bw2 := below_step Bw B2
  clear a0 a1 a2 a3 a4 a5 a6 a7 a8 K1 C1 X1 Bw B2
  obtain ⟨a0, a1, a2, a3, a4, a5, a6, a7, a8⟩ := K2.at9
  go_wp2_with fail
  refine (HCT.out _).mono ?_
  rintro e w3 ⟨rfl, B3⟩
  have K3 := K2.below B3 K2.lt
  have C3 := C2.on B3
  have X3 := X2.on B3
  have Bw3 := below_step Bw2 B3
  clear a0 a1 a2 a3 a4 a5 a6 a7 a8 K2 C2 X2 Bw2 B3
  obtain ⟨a0, a1, a2, a3, a4, a5, a6, a7, a8⟩ := K3.at9
  go_wp2_with fail
  refine (below2 AA M cA _ n _ C3.iA (by omega) ?_).mono ?_
  · intro x hx
    obtain ⟨k, hk⟩ := List.getElem?_of_mem hx
    have hkM : k < M := by have := (List.getElem?_eq_some_iff.1 hk).1; rw [tab_len] at this; exact this
    rw [tab_at hkM] at hk
    injection hk with hk
    have := HIC.out k hkM
    omega
  rintro e w4 ⟨rfl, rfl⟩
  go_wp2_with fail
  refine (HBA.out _ C3 X3).mono ?_
  rintro e w5 ⟨rfl, B5⟩
  have K5 := K3.below B5 K3.lt
  have C5 := C3.on B5
  have X5 := X3.on B5
  have Bw5 := below_step Bw3 B5
  have hz5 := K5.lt
  clear a0 a1 a2 a3 a4 a5 a6 a7 a8 K3 C3 X3 Bw3 B5
  obtain ⟨a0, a1, a2, a3, a4, a5, a6, a7, a8⟩ := K5.at9
  go_wp2_with fail
  have Y5 : Blk (w5.alloc (.cells (ivs (List.replicate n 0)) 2)) w5.heap.size 2 (ivs (List.replicate n 0)) := Blk.new rfl
  refine (HL.out _).mono ?_
  rintro e w6 ⟨rfl, B6⟩
  have K6 := (K5.alloc (.cells (ivs (List.replicate n 0)) 2)).below B6 (K5.alloc _).lt
  have B56 : Below w5.heap.size w5 w6 := (below_alloc _).trans (B6.mono (by simp))
  have C6 := C5.below B56
  have X6 := X5.below B56
  have Y6 := Y5.below B6 Y5.lt
  have Bw6 := below_step Bw5 B56
  clear a0 a1 a2 a3 a4 a5 a6 a7 a8 K5 C5 X5 Bw5 B6 Y5 B56
  go_wp2_with fail
  go_loopw [9, 40] (fun _ i wr => ∃ (k : Nat), k ≤ M ∧ i = .int .i64 k ∧ Blk wr w5.heap.size 2 (ivs (flF ai bk X n k)) ∧ PIn wr w5.heap.size N M ⟨AF, cF, AH, cH, AR, cR, AC, cC, AA, cA, AB, cB⟩ fst hd rv ai cp bk ∧ Ints wr w5.heap.size AX M X ∧
      Blk wr w.heap.size 32 #[.int .i64 N, .int .i64 s, .int .i64 t, .slice AF (N + 1) cF, .slice AH M cH, .slice AR M cR, .slice AC M cC, .slice AA M cA, .slice AB M cB] ∧ Below w.heap.size w wr) (fun _ i _ => M - (intOf i).toNat)
  case atStart => exact ⟨0, Nat.zero_le _, rfl, Y6, C6, X6, K6, Bw6⟩
  case round =>
    clear Y6 C6 X6 K6 Bw6
    obtain ⟨k, hk, rfl, Y6, C6, X6, K6, Bw6⟩ := hrel
    obtain ⟨a0, a1, a2, a3, a4, a5, a6, a7, a8⟩ := K6.at9
    by_cases hlt : k < M
    · obtain ⟨bf, off, x, rfl, hbf, hfx, hcx⟩ := intl_at X6 (k := k) hlt
      have hxk : hOf X k = x := hOf_at hfx
      have HXK := Lib.hid hxk
      clear hxk
      obtain ⟨bA, oA, hA⟩ := C6.iA.adr (by omega)
      obtain ⟨bB, oB, hB, hbB, cb⟩ := tab_bool C6.iB hlt
      dsimp only at hA hB
      subst hA; subst hB
      obtain ⟨hbA, ca⟩ := tab_cell C6.iA hlt
      have hil := HIC.out k hlt
      clear hfx
      obtain ⟨i, hi⟩ : ∃ i, ai k = i := ⟨_, rfl⟩
      obtain ⟨b, hb⟩ : ∃ b, bk k = b := ⟨_, rfl⟩
      rw [hi] at ca hil
      rw [hb] at cb
      have HII := Lib.hid hi; have HBB := Lib.hid hb
      clear hi hb
      have hin : (i : Int) < (n : Int) := by omega
      cases b with
      | false =>
        go_wp2_with fail
        go_roundw
        case rel => exact ⟨k + 1, by omega, by go_num, by rw [flF, if_neg (by rw [HBB.out]; simp)]; exact Y6, C6, X6, K6, Bw6⟩
        case measure => simp [intOf]; omega
      | true =>
        obtain ⟨y1, hy1⟩ : ∃ y, (flF ai bk X n k)[i]? = some y := ⟨_, List.getElem?_eq_getElem (by rw [flF_len]; omega)⟩
        have c1 := Y6.iat hy1
        have d1 := Y6.frozen i
        have n1 : w5.heap.size ≠ w.heap.size := by omega
        have n2 : w5.heap.size ≠ bA := by omega
        have n3 : w5.heap.size ≠ bf := by omega
        have HX4 := Lib.hid Y6; have HC := Lib.hid C6; have HF := Lib.hid X6; have HK := Lib.hid K6; have HB := Lib.hid Bw6
        clear Y6 C6 X6 K6 Bw6 hy1
        go_wp2_with fail
        go_region_held3 (fun W => W.cell? ⟨w.heap.size, 7, none⟩ = some (.slice (some ⟨bA, oA, none⟩) M cA) ∧ W.cell? ⟨bA, oA + k, none⟩ = some (.int .i64 (i : Int)) ∧ W.cell? ⟨bf, off + k, none⟩ = some (.int .i64 x)) (go_keep) (first | fail)
        go_wp2_with fail
        go_roundw
        case rel =>
          have hb2 : Below w5.heap.size wr (wr.setCell ⟨w5.heap.size, i, none⟩ (.int .i64 x)).drew := ((Below.refl _ _).setCell (by simp) _).drew
          exact ⟨k + 1, by omega, by go_num, by rw [flF, if_pos HBB.out, HII.out, HXK.out]; exact (HX4.out.iset i x).drew, HC.out.below hb2, HF.out.below hb2, HK.out.below hb2 (by omega), HB.out.trans (hb2.mono (by omega))⟩
        case measure => simp [intOf]; omega
    · obtain rfl : k = M := by omega
      go_wp2_with fail
      go_ret2
      exact ⟨_, rfl, by omega, Y6, Bw6⟩


end Go.Proofs.Ytgjokddcaadjdaa

/-! Pen -/
namespace Go.Proofs.Ytgjokddcaadjdaa
open Go.RowKit
set_option maxRecDepth 100000

/-! Bytes in a block. -/
def uvs (L : List Int) : List Value := L.map (Value.int .u8)
theorem byte_size : (Try.prog.info? 5).map (·.size) = some 1 := by kernel_rfl
theorem byte_info : (Try.prog.info? 5).map (fun i => (i.zero, i.size, i.bytes)) = some (some (.int .u8 0), 1, 1) := by kernel_rfl
theorem uvs_made (n : Nat) : madeCells (Value.int .u8 0).cells (n * 1) = (uvs (List.replicate n 0)).toArray := by
  apply Array.ext'
  have : (Value.int .u8 0).cells = #[.int .u8 0] := rfl
  rw [this, toList_madeCells_one]
  simp [uvs]
theorem make_u8 (n : Nat) (hn : n ≤ 100000) (W : World) : (Instr.makeSlice 25 (.int .i64 (n : Int)) (.int .i64 (n : Int))).run Try.prog W = .ok (.slice (some ⟨W.heap.size, 0, none⟩) n n) (W.alloc (.cells (uvs (List.replicate n 0)).toArray 5)) := by
  obtain ⟨i1, hi, hz0, hz1, hz2⟩ := info_parts byte_info
  have h := run_make_lit (P := Try.prog) 25 5 i1 _ Try.underlying25 hi hz0 n (by rw [hz2]; omega) (by omega) W
  rw [hz1, uvs_made] at h
  exact h
theorem Blk.bytes {w : World} {g n : Nat} {t : TypeId} {L : List Int} (h : Blk w g t (uvs L).toArray) (hl : L.length = n) : Bytes w w.heap.size (some ⟨g, 0, none⟩) n L := by
  refine ⟨hl, fun _ => ⟨g, 0, rfl, h.lt, fun k a ha j u hu => ?_⟩⟩
  cases j with
  | zero =>
    simp only [byteCells, List.getElem?_cons_zero, Option.some.injEq] at hu
    subst hu
    have := h.cell k
    simp only [uvs, List.getElem?_toArray, List.getElem?_map, ha, Option.map_some] at this
    simpa using this
  | succ j => simp [byteCells] at hu
theorem copy_over {P : Program} {w : World} (dT sT ty elem : TypeId) (hu : P.underlying dT = some (.slice elem)) (hsz : (P.info? elem).map (·.size) = some 1) (g dLen dCap : Nat) (sp : Option Addr) (sLen sCap : Nat) (cur : List Value) (t : TypeId) (hg : w.heap[g]? = some (.cells cur.toArray t (0, 0))) (cs : List Value) (hn : cs.length = Nat.min sLen dLen)
    (hpos : 0 < cs.length → ∃ ad, sp = some ad ∧ ∀ j v, cs[j]? = some v → w.cell? (ad.add j) = some v) (hfit : cs.length ≤ cur.length) (h1 : ∀ v ∈ cs, v.oneCell' = true) :
    ∃ w', (Builtin.copy_ #[dT, sT] ty #[.slice (some ⟨g, 0, none⟩) dLen dCap, .slice sp sLen sCap]).run P w = .ok (goInt cs.length) w' ∧ w'.heap[g]? = some (.cells (splice cur 0 cs).toArray t (0, 0)) ∧ Below g w w' := by
  by_cases h0 : cs.length = 0
  · obtain rfl : cs = [] := List.eq_nil_of_length_eq_zero h0
    exact ⟨w, run_copy_none (P := P) w dT sT ty elem _ sp dLen dCap sLen sCap hu hsz (by simpa using hn.symm), by simpa [splice] using hg, Below.refl _ _⟩
  · obtain ⟨ad, rfl, hsrc⟩ := hpos (by omega)
    refine ⟨_, run_copy_row (P := P) w dT sT ty elem g 0 dLen dCap ad sLen sCap cur.toArray t cs hu hsz hg hn hsrc (by simpa using hfit) h1, ?_, below_setRow (Below.refl _ _) (Nat.le_refl _) _⟩
    simpa [splice] using setRow_heap w g _ _ t _ hg
theorem splice_uvs (L : List Int) (i : Nat) (M : List Int) : splice (uvs L) i (uvs M) = uvs (splice L i M) := by simp [splice, uvs]

theorem RdBy.kpsL {α : Type} {f : α → List Value} {size : Nat} {w w' : World} {x n : Nat} {A : Option Addr} {L : List α} {P : Nat → Obj → Prop} (h : RdBy f size w x A n L) (hk : Kps P w w') (hp : ∀ k o, k < x → P k o) : RdBy f size w' x A n L :=
  ⟨h.1, fun hn => by
    obtain ⟨b, off, e, hb, hc⟩ := h.2 hn
    refine ⟨b, off, e, hb, fun k a hka j u hu => ?_⟩
    exact hk.cell (p := ⟨b, off + (k * size + j), none⟩) (fun o _ => hp b o hb) (hc k a hka j u hu)⟩

/-! The side of all from which T is not reached. -/
section
variable {l : List ArcN} {F : List Int} {N s t : Nat} {K : List Bool}
theorem to_tight (hE : EndsIn N l) (hF : FlowIn l F) (hK : ∀ v : Nat, v < N → (inS K (v : Int) = true ↔ ¬ Star (Opn l F) (v : Int) (t : Int))) : TightFor K l F := by
  have h : ∀ v u : Nat, v < N → u < N → Opn l F (v : Int) (u : Int) → inS K (v : Int) = true → inS K (u : Int) = true := fun v u hv hu hR h => by
    rw [hK _ hv] at h
    rw [hK _ hu]
    exact fun h' => h (Star.ahead hR h')
  intro j a x ha hx
  have he := hE a (mem_at ha)
  have hb := hF.ent j a x ha hx
  obtain ⟨f, g, c⟩ := a
  simp only at he hb
  obtain ⟨f, rfl⟩ := Int.eq_ofNat_of_zero_le he.1
  obtain ⟨u, rfl⟩ := Int.eq_ofNat_of_zero_le he.2.2.1
  simp only [outB, innB, Bool.and_eq_true, Bool.not_eq_true']
  refine ⟨fun ⟨h1, h2⟩ => ?_, fun ⟨h1, h2⟩ => ?_⟩
  · refine Classical.byContradiction fun hne => ?_
    have := h f u (by omega) (by omega) ⟨j, _, x, ha, hx, fun e => (by simp only at e; rw [e, h2] at h1; cases h1), .inl ⟨rfl, rfl, by simp only; omega⟩⟩ h1
    rw [h2] at this; cases this
  · refine Classical.byContradiction fun hne => ?_
    have := h u f (by omega) (by omega) ⟨j, _, x, ha, hx, fun e => (by simp only at e; rw [← e, h1] at h2; cases h2), .inr ⟨rfl, rfl, by omega⟩⟩ h2
    rw [h1] at this; cases this
theorem to_cut (hs : s < N) (ht : t < N) (hl : K.length = N) (hn : ¬ Star (Opn l F) (s : Int) (t : Int)) (hK : ∀ v : Nat, v < N → (inS K (v : Int) = true ↔ ¬ Star (Opn l F) (v : Int) (t : Int))) : IsCut N s t K := by
  refine ⟨hl, (hK s hs).2 hn, ?_⟩
  rw [← Bool.not_eq_true]
  exact fun h => (hK t ht).1 h (.here _)
end

set_option maxHeartbeats 16000000 in
theorem pends_walk (N S T : Int) (A : Option Addr) (n c : Nat) (l : List ArcN) (AU : Option Addr) (nu cu : Nat) (U : List Int) (w : World) (hA : Arcs w w.heap.size A n l) (hf : FitsAll l) (hnc : n ≤ c) (hU : Bytes w w.heap.size AU nu U) (hUR : ∀ x ∈ U, 0 ≤ x ∧ x ≤ 255) (_ : nu ≤ cu) :
    Calls Try.prog 7 #[.agg #[.int .i64 N, .int .i64 S, .int .i64 T, .slice A n c], .slice AU nu cu] w fun e w' => e = .returned (.bool true) ∧ Below w.heap.size w w' := by
  have hso := fun W hW => some_any N S T A n c 10 24 l W hW hf hnc (by omega) (by omega) (by omega)
  obtain ⟨N1, hN1, hN2, hN3, hck, hln, hmem⟩ := some_net N S T 10 24 l (by omega) (by omega) (by omega)
  rw [hN1] at hso hck hln hmem
  generalize S % (N1 : Int) = S1 at *
  generalize someT (N1 : Int) S T = T1 at *
  generalize someL (N1 : Int) 24 l = l1 at *
  obtain ⟨-, -, -, -, hs0, hs1, ht0, ht1, hst, -, -⟩ := ends_in hck
  obtain ⟨s, rfl⟩ := Int.eq_ofNat_of_zero_le hs0
  obtain ⟨t, rfl⟩ := Int.eq_ofNat_of_zero_le ht0
  obtain ⟨M, fst, hd, rv, ai, cp, bk, hMe, hG, hrows, hail, hend⟩ := net_rowe hck
  have HSO := Lib.hid hso; have HCK := Lib.hid hck; have HG := Lib.hid hG; have HR := Lib.hid hrows; have HME := Lib.hid hMe; have HU := Lib.hid hU; have HUR := Lib.hid hUR; have HAIL := Lib.hid hail; have HEND := Lib.hid hend
  clear hso hck hN1 hmem hs0 hs1 ht0 ht1 hst hG hrows hMe hU hUR hail hend
  go_enter Try.func7, Try.ntmps7
  go_wp2_with fail
  refine (HSO.out _ (hA.onAlloc _)).mono ?_
  rintro e w1 ⟨A1, n1, c1, rfl, o1, hl1, B1⟩
  have K1 : Blk w1 w.heap.size 24 #[.int .i64 N, .int .i64 S, .int .i64 T, .slice A n c] := (Blk.new rfl).below B1 (by simp)
  have hz1 := K1.lt
  obtain ⟨r0, r1, r2, r3⟩ := K1.at4
  obtain ⟨f0, f1, f2, f3⟩ := K1.free4
  have ST := some_stored K1 o1 hl1 (below_step (below_alloc _) B1) (.int .i64 (N1 : Int)) (.int .i64 (s : Int)) (.int .i64 (t : Int))
  obtain ⟨w0, hw0⟩ : ∃ w0, (((w1.setCell ⟨w.heap.size, 0, none⟩ (.int .i64 (N1 : Int))).setCell ⟨w.heap.size, 1, none⟩ (.int .i64 (s : Int))).setCell ⟨w.heap.size, 2, none⟩ (.int .i64 (t : Int))).setCell ⟨w.heap.size, 3, none⟩ (.slice A1 n1 c1) = w0 := ⟨_, rfl⟩
  rw [hw0] at ST
  obtain ⟨K0, a0, Bw0⟩ := ST
  obtain ⟨L4, hL4⟩ : ∃ L, uvs (List.replicate 4000 0) = L := ⟨_, rfl⟩
  have hm5 : ∀ W : World, (Instr.makeSlice 25 (.int .i64 4000) (.int .i64 4000)).run Try.prog W = .ok (.slice (some ⟨W.heap.size, 0, none⟩) 4000 4000) (W.alloc (.cells L4.toArray 5)) := fun W => by rw [← hL4]; exact make_u8 4000 (by omega) W
  obtain ⟨g5, hg5⟩ : ∃ g, w0.heap.size = g := ⟨_, rfl⟩
  obtain ⟨wm, hwm⟩ : ∃ wm, w0.alloc (.cells L4.toArray 5) = wm := ⟨_, rfl⟩
  have G5m : Blk wm g5 5 L4.toArray := by rw [← hwm, ← hg5]; exact Blk.new rfl
  have B0m : Below g5 w0 wm := by rw [← hwm, ← hg5]; exact below_alloc _
  have hL4l : L4.length = 4000 := by rw [← hL4]; simp [uvs]
  have hul : U.length = nu := HU.out.len
  obtain ⟨cs, hcs⟩ : ∃ cs, uvs (U.take 4000) = cs := ⟨_, rfl⟩
  have hcsl : cs.length = Nat.min nu 4000 := by rw [← hcs]; simp only [uvs, List.length_map, List.length_take, hul]; exact Nat.min_comm _ _
  have hcsle : cs.length ≤ 4000 := by rw [hcsl]; exact Nat.min_le_right _ _
  have hUm : Bytes wm wm.heap.size AU nu U := by
    have hb := below_step Bw0 (hg5 ▸ B0m)
    exact (HU.out.below hb).more hb.size
  have hpos : 0 < cs.length → (some (⟨g5, 0, none⟩ : Addr) = some ⟨g5, 0, none⟩) ∧ ∃ ad, AU = some ad ∧ ∀ j v, cs[j]? = some v → wm.cell? (ad.add j) = some v := fun h0 => by
    have hnu : 0 < nu := by
      rw [hcsl] at h0
      exact Nat.lt_of_lt_of_le h0 (Nat.min_le_left _ _)
    obtain ⟨b, off, e, hb, hc⟩ := hUm.2 hnu
    refine ⟨rfl, _, e, fun j v hv => ?_⟩
    rw [← hcs] at hv
    simp only [uvs, List.getElem?_map, List.getElem?_take] at hv
    split at hv
    · cases hx : U[j]? with
      | none => rw [hx] at hv; cases hv
      | some x =>
        rw [hx] at hv
        simp only [Option.map_some, Option.some.injEq] at hv
        have := hc j x hx 0 (.int .u8 x) rfl
        rw [hv] at this
        have e2 : (⟨b, off, none⟩ : Addr).add j = ⟨b, off + (j * 1 + 0), none⟩ := by
          unfold Addr.add
          split <;> simp_all
        rw [e2]; exact this
    · cases hv
  have hone : ∀ v ∈ cs, v.oneCell' = true := fun v hv => by
    rw [← hcs] at hv
    simp only [uvs, List.mem_map] at hv
    obtain ⟨x, -, rfl⟩ := hv
    rfl
  obtain ⟨U4, hU4⟩ : ∃ U4, splice (List.replicate 4000 0) 0 (U.take 4000) = U4 := ⟨_, rfl⟩
  have hsp : splice L4 0 cs = uvs U4 := by rw [← hL4, ← hcs, splice_uvs, hU4]
  have hU4l : U4.length = 4000 := by
    rw [← hU4, length_splice _ _ _ (by simp only [List.length_take, List.length_replicate]; omega)]
    simp
  have hU4R : ∀ x ∈ U4, 0 ≤ x ∧ x ≤ 255 := fun x hx => by
    rw [← hU4] at hx
    simp only [splice, List.take_zero, List.nil_append, List.mem_append] at hx
    rcases hx with h | h
    · exact HUR.out x (List.mem_of_mem_take h)
    · obtain rfl := List.eq_of_mem_replicate (List.mem_of_mem_drop h)
      omega
  have HG5M := Lib.hid G5m; have HB0M := Lib.hid B0m; have HPOS := Lib.hid hpos; have HONE := Lib.hid hone; have HCSL := Lib.hid hcsl; have HCSE := Lib.hid hcsle; have HSPL := Lib.hid hsp; have HU4L := Lib.hid hU4l; have HU4R := Lib.hid hU4R; have HL4L := Lib.hid hL4l; have HK0 := Lib.hid K0; have Ha0 := Lib.hid a0; have HBW0 := Lib.hid Bw0; have HG5 := Lib.hid hg5
  clear hL4 hcs hU4 hsp hU4l hU4R hL4l hul hUm hpos hone hcsl hcsle G5m B0m K0 a0 Bw0 K1 o1 B1 HSO
  obtain ⟨wc, hcp, hGc, hBc⟩ := copy_over (P := Try.prog) (w := wm) 25 25 3 5 Try.underlying25 byte_size g5 4000 4000 AU nu cu L4 5 HG5M.out cs HCSL.out (fun h => (HPOS.out h).2) (by rw [HL4L.out]; exact HCSE.out) HONE.out
  have HGC := Lib.hid hGc; have HBC := Lib.hid (HB0M.out.trans hBc)
  clear hGc hBc
  have G5c : Blk wc g5 5 (uvs U4).toArray := by have h := HGC.out; rw [HSPL.out] at h; exact h
  have b0c : Below w0.heap.size w0 wc := by rw [HG5.out]; exact HBC.out
  obtain ⟨wb, hwb⟩ : ∃ wb, ((wc.alloc (.cells #[.int .i64 0, .int .i64 0, .int .i64 0, .slice none 0 0, .slice none 0 0, .slice none 0 0, .slice none 0 0, .slice none 0 0, .slice none 0 0] 32)).alloc (.cells #[.slice none 0 0, .slice none 0 0, .slice none 0 0] 29)) = wb := ⟨_, rfl⟩
  obtain ⟨g9, hg9⟩ : ∃ g, wc.heap.size = g := ⟨_, rfl⟩
  have bcb : Below wc.heap.size wc wb := by rw [← hwb]; exact ((Below.refl _ wc).alloc (Nat.le_refl _) _).alloc (by simp) _
  have G9 : Blk wb g9 32 #[.int .i64 0, .int .i64 0, .int .i64 0, .slice none 0 0, .slice none 0 0, .slice none 0 0, .slice none 0 0, .slice none 0 0, .slice none 0 0] := by rw [← hwb, ← hg9]; exact (Blk.new rfl).alloc _
  have G10 : Blk wb (g9 + 1) 29 #[.slice none 0 0, .slice none 0 0, .slice none 0 0] := by rw [← hwb, ← hg9]; exact Blk.new (by simp)
  have h5lt : g5 < g9 := by rw [← hg9]; exact G5c.lt
  have G5b := G5c.below bcb G5c.lt
  have b0b := below_step b0c bcb
  have N2 := HK0.out.below b0b HK0.out.lt
  have a2 := Ha0.out.on b0b
  have a2' : Arcs wb g5 A1 n1 l1 := by have h := Ha0.out.below b0b; rw [HG5.out] at h; exact h
  have Bw2 := below_step HBW0.out b0b
  have hlb : w.heap.size < g5 := by rw [← HG5.out]; exact HK0.out.lt
  have hsz2 : g9 + 1 < wb.heap.size := G10.lt
  have U2 : Bytes wb wb.heap.size (some ⟨g5, 0, none⟩) 4000 U4 := G5b.bytes HU4L.out
  have hub : 0 < 4000 → ∀ a, (some (⟨g5, 0, none⟩ : Addr)) = some a → ¬ (a.block = g9 ∨ a.block = g9 + 1) := fun _ a e => by
    injection e with e
    subst e
    show ¬ (g5 = g9 ∨ g5 = g9 + 1)
    omega
  have hplay := play_is N1 M s t l1 A1 n1 c1 (some ⟨g5, 0, none⟩) 4000 4000 U4 fst hd rv ai cp bk 34 #[.pointer (some ⟨g9, 0, none⟩), .pointer (some ⟨g9 + 1, 0, none⟩)] (fun k => k = g9 ∨ k = g9 + 1) w.heap.size
    (fun K S Q W => Blk W g9 32 #[.int .i64 (N1 : Int), .int .i64 (s : Int), .int .i64 (t : Int), .slice K.AF (N1 + 1) K.cF, .slice K.AH M K.cH, .slice K.AR M K.cR, .slice K.AC M K.cC, .slice K.AA M K.cA, .slice K.AB M K.cB] ∧ Blk W (g9 + 1) 29 #[.slice Q.AX M Q.cX, .slice Q.AE N1 Q.cE, .slice Q.AH N1 Q.cH])
    (fun W => (∃ v0 v1 v2 v3 v4 v5 v6 v7 v8, Blk W g9 32 #[v0, v1, v2, v3, v4, v5, v6, v7, v8]) ∧ ∃ x y z, Blk W (g9 + 1) 29 #[x, y, z]) wb a2 HCK.out HME.out HG.out HR.out U2 (by omega) HU4R.out (fun k hk => by omega) hub (by omega)
    (fun K S Q W W' h hb => ⟨h.1.below hb (by omega), h.2.below hb (by omega)⟩) (fun W hb => ⟨⟨_, _, _, _, _, _, _, _, _, G9.below hb G9.lt⟩, _, _, _, G10.below hb G10.lt⟩)
    (fun K Q W hkz hi _ _ => (pe1_is N1 M s t K Q Q g9 (g9 + 1) w.heap.size W (by omega) hi.1 hi.2 (by omega)).mono fun e W' h => ⟨h.1, ⟨h.2.1, h.2.2.1⟩, h.2.2.2⟩)
    (fun K S S' Q Q' W hkz hj _ _ _ _ _ _ => (pe1_is N1 M s t K Q Q' g9 (g9 + 1) w.heap.size W (by omega) ⟨_, _, _, _, _, _, _, _, _, hj.1⟩ ⟨_, _, _, hj.2⟩ (by omega)).mono fun e W' h => ⟨h.1, ⟨h.2.1, h.2.2.1⟩, h.2.2.2⟩)
    (enters_of Try.func34 (by kernel_rfl) rfl)
  have HPLAY := Lib.hid hplay; have HB2 := Lib.hid Bw2; have HN2 := Lib.hid N2; have HA2 := Lib.hid a2'
  have HGG := Lib.hid (And.intro hlb (And.intro h5lt hsz2))
  obtain ⟨q0, q1, q2, q3⟩ := N2.at4
  have hzb := N2.lt
  clear hplay Bw2 U2 a2 a2' G5c G5b G9 G10 b0b b0c bcb hub hlb hsz2 h5lt N2
  go_wp2_with fail
  clear hwb hg9 hcp hm5 hwm hw0 hg5 f0 f1 f2 f3 hz1 r0 r1 r2 r3 q0 q1 q2 q3 hzb
  refine HPLAY.out.mono ?_
  rintro e W3 ⟨rfl, KC, ⟨X, E, H⟩, Q, hpi, -, hsi, -, hok, hj, hkz⟩
  have N3 := hkz.kps.blk HN2.out (by have := HGG.out; omega)
  have A3 : Arcs W3 W3.heap.size A1 n1 l1 := (RdBy.kpsL HA2.out hkz.kps (fun k o hk => by have := HGG.out; omega)).more (Nat.le_trans (by have := HGG.out; omega) hkz.kps.size)
  have hb3 := HB2.out.trans hkz.bel
  dsimp only [OkS] at hsi hok
  have hM := HG.out.nM; have hN := HG.out.nN; have hsN := HG.out.hs; have htN := HG.out.ht
  have hact := fun W (hb : Below W3.heap.size W3 W) => active_is N1 M s t M N1 N1 KC Q fst hd rv X E H W HG.out.g (hpi.gi.on hb) (hsi.on hb) hsN htN (by omega) hN
  have e0 : activeTo s t N1 M M N1 N1 E = selTo (actB s t E) N1 := if_pos ⟨rfl, rfl, rfl⟩
  rw [e0] at hact
  obtain ⟨L, hL⟩ : ∃ L, selTo (actB s t E) N1 = L := ⟨_, rfl⟩
  rw [hL] at hact
  have hend := HEND.out X E H hok
  rw [hl1] at hend
  have hflow := fun W (hb : Below W3.heap.size W3 W) => flow3 N1 M s t n1 KC fst hd rv ai cp bk Q.AX Q.cX X W HG.out (hpi.on hb) (hsi.on hb).iX (hok.inX HG.out) hok.bal (by omega) (fun a ha => by have := HAIL.out a ha; omega)
  obtain ⟨f, hf⟩ : ∃ f, flF ai bk X n1 M = f := ⟨_, rfl⟩
  rw [hf] at hend hflow
  have hfl : f.length = n1 := by rw [← hf]; exact flF_len _
  have hEl := hok.le
  have hEt : ∀ W, Below W3.heap.size W3 W → Ints W W.heap.size Q.AE N1 E := fun W hb => (hsi.on hb).iE
  have HACT := Lib.hid hact; have HL := Lib.hid hL; have HE := Lib.hid hend; have HFLO := Lib.hid hflow; have HET := Lib.hid hEt; have HB3 := Lib.hid hb3; have HC3 := Lib.hid hj.1; have HP3 := Lib.hid hj.2; have HN3 := Lib.hid N3; have HA3 := Lib.hid A3
  clear hact e0 hL hend hflow hf hEt hb3 hj N3 A3 hpi hsi hok hkz HPLAY HN2 HA2 HB2 HGG HGC HBC HSPL HU4L HU4R HL4L HONE HCSL HCSE HPOS HG5M HB0M HK0 Ha0 HBW0 HG5 HEND HR HME HU HUR
  obtain ⟨AF, cF, AH, cH, AR, cR, AC, cC, AA, cA, AB, cB⟩ := KC
  obtain ⟨AX, cX, AE, cE, AHH, cHH⟩ := Q
  dsimp only [csrW, preW] at HACT HFLO HET HC3 HP3 ⊢
  have hBr := Below.refl W3.heap.size W3
  obtain ⟨a0, a1, a2, a3, a4, a5, a6, a7, a8⟩ := HC3.out.at9
  obtain ⟨⟨p0, p1, p2⟩, -, hz2⟩ := HP3.out.full3
  obtain ⟨q0, q1, q2, q3⟩ := HN3.out.at4
  have hz1 := HC3.out.lt; have hz3 := HN3.out.lt
  go_wp2_with fail
  refine (HACT.out _ hBr).mono ?_
  rintro e W4 ⟨A4, c4, rfl, -, B4⟩
  clear a0 a1 a2 a3 a4 a5 a6 a7 a8 p0 p1 p2 q0 q1 q2 q3 hz1 hz2 hz3
  have C4 := HC3.out.below B4 HC3.out.lt; have P4 := HP3.out.below B4 HP3.out.lt; have N4 := HN3.out.below B4 HN3.out.lt; have Ar4 := HA3.out.on B4
  obtain ⟨a0, a1, a2, a3, a4, a5, a6, a7, a8⟩ := C4.at9
  obtain ⟨⟨p0, p1, p2⟩, -, hz2⟩ := P4.full3
  obtain ⟨q0, q1, q2, q3⟩ := N4.at4
  have hz1 := C4.lt; have hz3 := N4.lt
  have HB4 := Lib.hid B4; have HA4 := Lib.hid Ar4
  clear C4 P4 N4 Ar4 B4
  by_cases h0 : 0 < L.length
  · go_wp2_with fail
    refine (awake7_is _).mono ?_
    rintro e W5 ⟨rfl, B5⟩
    go_wp2_with fail
    go_ret
    exact ⟨rfl, below_step (HB3.out.trans (HB4.out.mono HB3.out.size)) B5⟩
  have hL0 : L.length = 0 := by omega
  have hno : ∀ v, v < N1 → actB s t E v = false := fun v hv => by
    rw [← Bool.not_eq_true]
    intro h
    have hm : v ∈ L := by rw [← HL.out]; exact sel_mem.2 ⟨hv, h⟩
    rw [List.eq_nil_of_length_eq_zero hL0] at hm
    cases hm
  obtain ⟨hfi, hri, hex, hns⟩ := HE.out hno
  have HFI := Lib.hid hfi; have HRI := Lib.hid hri; have HEX := Lib.hid hex; have HNS := Lib.hid hns
  clear hno hfi hri hex hns HE HL HACT
  go_wp2_with fail
  refine (HFLO.out _ HB4.out).mono ?_
  rintro e W5 ⟨g6, rfl, hg6, F5, B45⟩
  have B5 := HB4.out.trans (B45.mono HB4.out.size)
  have HF5 := Lib.hid F5
  clear F5 B45
  clear a0 a1 a2 a3 a4 a5 a6 a7 a8 p0 p1 p2 q0 q1 q2 q3 hz1 hz2 hz3
  have C5 := HC3.out.below B5 HC3.out.lt; have P5 := HP3.out.below B5 HP3.out.lt; have N5 := HN3.out.below B5 HN3.out.lt; have Ar5 := HA3.out.on B5
  obtain ⟨a0, a1, a2, a3, a4, a5, a6, a7, a8⟩ := C5.at9
  obtain ⟨⟨p0, p1, p2⟩, -, hz2⟩ := P5.full3
  obtain ⟨q0, q1, q2, q3⟩ := N5.at4
  have hz1 := C5.lt; have hz3 := N5.lt
  have HB5 := Lib.hid B5; have HA5 := Lib.hid Ar5
  clear C5 P5 N5 Ar5 B5
  go_wp2_with fail
  refine (value_good N1 s t A1 n1 c1 l1 _ n1 _ f _ HA5.out HCK.out (HF5.out.ints hfl) (by omega) HFI.out HRI.out).mono ?_
  rintro e W6 ⟨rfl, B56⟩
  have B6 := HB5.out.trans (B56.mono HB5.out.size)
  have HF6 := Lib.hid (HF5.out.below B56 HF5.out.lt)
  clear B56
  clear a0 a1 a2 a3 a4 a5 a6 a7 a8 p0 p1 p2 q0 q1 q2 q3 hz1 hz2 hz3
  have C6 := HC3.out.below B6 HC3.out.lt; have P6 := HP3.out.below B6 HP3.out.lt; have N6 := HN3.out.below B6 HN3.out.lt; have Ar6 := HA3.out.on B6
  obtain ⟨a0, a1, a2, a3, a4, a5, a6, a7, a8⟩ := C6.at9
  obtain ⟨⟨p0, p1, p2⟩, -, hz2⟩ := P6.full3
  obtain ⟨q0, q1, q2, q3⟩ := N6.at4
  have hz1 := C6.lt; have hz3 := N6.lt
  have HB6 := Lib.hid B6; have HA6 := Lib.hid Ar6
  clear C6 P6 N6 Ar6 B6
  go_wp2_with fail
  refine (to_good N1 s t A1 n1 c1 l1 _ n1 _ f _ HA6.out HCK.out (HF6.out.ints hfl) HFI.out).mono ?_
  rintro e W7 ⟨g7, KS, rfl, hg7, S7, hlK, hK, B67⟩
  have B7 := HB6.out.trans (B67.mono HB6.out.size)
  have HF7 := Lib.hid (HF6.out.below B67 HF6.out.lt)
  have HS7 := Lib.hid S7
  have hcut := to_cut (F := f) (l := l1) hsN htN hlK HNS.out hK
  have htig := to_tight (ends_in HCK.out).2.2.2.1 HFI.out hK
  have hcap := acc_cap (K := KS) HFI.out
  rw [acc_value HCK.out hcut HRI.out] at hcap
  have hcx := hcap.2.2 htig
  rw [HEX.out] at hcx
  have HCUT := Lib.hid hcut; have HTIG := Lib.hid htig; have HCX := Lib.hid hcx
  clear B67 S7 hK hcut htig hcap hcx
  clear a0 a1 a2 a3 a4 a5 a6 a7 a8 p0 p1 p2 q0 q1 q2 q3 hz1 hz2 hz3
  have C7 := HC3.out.below B7 HC3.out.lt; have P7 := HP3.out.below B7 HP3.out.lt; have N7 := HN3.out.below B7 HN3.out.lt; have Ar7 := HA3.out.on B7
  obtain ⟨a0, a1, a2, a3, a4, a5, a6, a7, a8⟩ := C7.at9
  obtain ⟨⟨p0, p1, p2⟩, -, hz2⟩ := P7.full3
  obtain ⟨q0, q1, q2, q3⟩ := N7.at4
  have hz1 := C7.lt; have hz3 := N7.lt
  have HB7 := Lib.hid B7; have HA7 := Lib.hid Ar7
  clear C7 P7 N7 Ar7 B7
  go_wp2_with fail
  refine (cap_good N1 s t A1 n1 c1 l1 _ N1 _ KS _ HA7.out HCK.out (HS7.out.bools hlK) HCUT.out).mono ?_
  rintro e W8 ⟨rfl, B78⟩
  have B8 := HB7.out.trans (B78.mono HB7.out.size)
  have HF8 := Lib.hid (HF7.out.below B78 HF7.out.lt)
  have HS8 := Lib.hid (HS7.out.below B78 HS7.out.lt)
  rw [HEX.out, ← HCX.out]
  have I8 := HET.out _ B8
  obtain ⟨bE, oE, hE⟩ := I8.adr (by omega)
  subst hE
  obtain ⟨hbE, ct⟩ := I8.cel (k := t) (x := hOf E t) (hOf_get hEl htN)
  obtain ⟨xe, hxe⟩ : ∃ x, hOf E t = x := ⟨_, rfl⟩
  rw [hxe] at ct ⊢
  clear B78 hxe I8
  clear a0 a1 a2 a3 a4 a5 a6 a7 a8 p0 p1 p2 q0 q1 q2 q3 hz1 hz2 hz3
  have C8 := HC3.out.below B8 HC3.out.lt; have P8 := HP3.out.below B8 HP3.out.lt; have N8 := HN3.out.below B8 HN3.out.lt; have Ar8 := HA3.out.on B8
  obtain ⟨a0, a1, a2, a3, a4, a5, a6, a7, a8⟩ := C8.at9
  obtain ⟨⟨p0, p1, p2⟩, -, hz2⟩ := P8.full3
  obtain ⟨q0, q1, q2, q3⟩ := N8.at4
  have hz1 := C8.lt; have hz3 := N8.lt
  have HB8 := Lib.hid B8; have HA8 := Lib.hid Ar8
  clear C8 P8 N8 Ar8 B8
  go_wp2_with fail
  refine (tight_is N1 s t A1 n1 c1 l1 _ n1 _ f _ N1 _ KS true _ HA8.out HCK.out (HF8.out.ints hfl) HFI.out (HS8.out.bools hlK) HCUT.out ⟨fun _ => HTIG.out, fun _ => rfl⟩).mono ?_
  rintro e W9 ⟨rfl, B89⟩
  have Bw9 := below_step (HB3.out.trans (HB8.out.mono HB3.out.size)) B89
  clear B89 a0 a1 a2 a3 a4 a5 a6 a7 a8 p0 p1 p2 q0 q1 q2 q3 hz1 hz2 hz3
  go_wp2_with fail
  refine (awake7_is _).mono ?_
  rintro e W10 ⟨rfl, B10⟩
  go_wp2_with fail
  go_ret
  exact ⟨rfl, below_step Bw9 B10⟩

end Go.Proofs.Ytgjokddcaadjdaa
