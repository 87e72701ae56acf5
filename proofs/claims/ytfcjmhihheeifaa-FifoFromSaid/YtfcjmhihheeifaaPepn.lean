/- What is left, as the numbers of a flow: plain facts; csr.Flow by numbers, wherever the rows lie; the side of all from which T is not reached. (Taken out of Pen.) -/
import Derived.Test.YtfcjmhihheeifaaPlap
import Derived.Test.YtfcjmhihheeifaaReaches
import Derived.Test.YtfcjmhihheeifaaPnet
import Derived.Laws.CopyOwn
/-! Pep -/
namespace Go.Proofs.Ytfcjmhihheeifaa
open Go.RowKit
set_option maxRecDepth 100000

/-- The arcs' numbers, when k of what is left has been looked at. -/
def flF (ai : Nat → Nat) (bk : Nat → Bool) (X : List Int) (n : Nat) : Nat → List Int
  | 0 => List.replicate n 0
  | k + 1 => if bk k = true then (flF ai bk X n k).set (ai k) (hOf X k) else flF ai bk X n k
section
variable {ai : Nat → Nat} {bk : Nat → Bool} {X : List Int} {n M : Nat}
theorem flF_len : ∀ k, (flF ai bk X n k).length = n
  | 0 => by simp [flF]
  | k + 1 => by
    simp only [flF]
    split
    · rw [List.length_set, flF_len k]
    · exact flF_len k
theorem flF_at (haij : ∀ a b, a < M → b < M → ai a = ai b → bk a = bk b → a = b) (hl : ∀ a, a < M → ai a < n) {a : Nat} (hb : bk a = true) : ∀ k, k ≤ M → a < k → (flF ai bk X n k)[ai a]? = some (hOf X a)
  | 0, _, h => by omega
  | k + 1, hk, h => by
    simp only [flF]
    by_cases e : a = k
    · subst e
      rw [if_pos hb, List.getElem?_set, if_pos rfl, flF_len, if_pos (hl a (by omega))]
    · have ih := flF_at haij hl hb k (by omega) (by omega)
      split
      · next hbk =>
        rw [List.getElem?_set, if_neg fun e' => e (haij a k (by omega) (by omega) e'.symm (by rw [hb, hbk]))]
        exact ih
      · exact ih
theorem flF_no {i : Nat} (hi : i < n) : ∀ k, (∀ a, a < k → bk a = true → ai a ≠ i) → (flF ai bk X n k)[i]? = some 0
  | 0, _ => by simp [flF, hi]
  | k + 1, h => by
    have ih := flF_no hi k fun a ha => h a (by omega)
    simp only [flF]
    split
    · next hb =>
      rw [List.getElem?_set, if_neg (h k (by omega) hb)]
      exact ih
    · exact ih
end

/-- What an arc adds to u's excess, by its number. -/
def dAt (l : List ArcN) (F : List Int) (u : Int) (i : Nat) : Int := match l[i]?, F[i]? with
  | some a, some x => dlt a x u
  | _, _ => 0
theorem ex_dAt (u : Int) : ∀ (l : List ArcN) (F : List Int), F.length = l.length → exOf l F u = sumN (dAt l F u) l.length
  | [], _, _ => by simp [exOf, sumN]
  | _ :: _, [], h => by simp at h
  | a :: l, x :: F, h => by
    have ih := ex_dAt u l F (by simpa using h)
    simp only [exOf, List.length_cons]
    rw [sumN_front, ih]
    rfl

section
variable {N s t : Nat} {l : List ArcN} {F H R C Ai X E Hh : List Int} {B : List Bool}
/-- What stands where an arc's residual one does. -/
theorem CsrL.inc (h : CsrL N l F H R C Ai B) (hE : EndsIn N l) {i : Nat} {v u c : Int} {b : Bool} (hI : Inc l i v u b c) :
    posOf l i v < firstOf l N ∧ hdOf Ai (posOf l i v) = i ∧ bOf B (posOf l i v) = b ∧ hOf C (posOf l i v) = c ∧ (hdOf H (posOf l i v) : Int) = u ∧ hdOf R (posOf l i v) = posOf l i u := by
  have h0 := hI.ends hE
  have hp := pos_lt hI hE
  have e := h.ent.ent _ _ _ _ _ hI h0.1 hp
  have r := h.rev.ent _ _ _ _ _ hI h0.1 hp
  exact ⟨hp, hdOf_eq e.2.2.1, by unfold bOf; rw [e.2.2.2]; rfl, hOf_at e.2.1, hdOf_at e.1 h0.2.2.1, hdOf_eq r⟩
/-- Each of what is left is some arc's. -/
theorem CsrL.num (h : CsrL N l F H R C Ai B) (hE : EndsIn N l) {a : Nat} (ha : a < firstOf l N) : ∃ v u b c, Inc l (hdOf Ai a) v u b c ∧ posOf l (hdOf Ai a) v = a := by
  obtain ⟨i, q, v, u, b, c, hI, hp, hq, hql, e1, e2, e3, e4, e5⟩ := h.at hE ha
  have hi : hdOf Ai a = i := hdOf_eq e4
  rw [hi]
  exact ⟨v, u, b, c, hI, hp⟩

theorem fl_back (h : CsrL N l F H R C Ai B) (hc : checkF N s t l = 0) {i : Nat} {v u c : Int} (hI : Inc l i v u true c) : (flF (hdOf Ai) (bOf B) X l.length (firstOf l N))[i]? = some (hOf X (posOf l i v)) := by
  have hE := (ends_in hc).2.2.2.1
  have hG := (h.pnet hc).1
  obtain ⟨h1, h2, h3, -⟩ := h.inc hE hI
  have hil : ∀ a, a < firstOf l N → hdOf Ai a < l.length := fun a ha => by
    obtain ⟨v, u, b, c, hI, _⟩ := h.num hE ha
    exact hI.lt
  have := flF_at (X := X) (n := l.length) hG.aij hil h3 _ (Nat.le_refl _) h1
  rw [h2] at this
  exact this
theorem fl_loop (h : CsrL N l F H R C Ai B) (hc : checkF N s t l = 0) {i : Nat} {a : ArcN} (ha : l[i]? = some a) (he : a.frm = a.to) : (flF (hdOf Ai) (bOf B) X l.length (firstOf l N))[i]? = some 0 := by
  have hE := (ends_in hc).2.2.2.1
  refine flF_no (List.getElem?_eq_some_iff.1 ha).1 _ fun b hb _ e => ?_
  obtain ⟨v, u, b', c, ⟨hne, x, hx, hh⟩, _⟩ := h.num hE hb
  rw [e, ha] at hx
  injection hx with hx
  subst hx
  rcases hh with ⟨_, h1, h2, _⟩ | ⟨_, h1, h2, _⟩ <;> exact hne (by omega)
theorem fl_res (h : CsrL N l F H R C Ai B) (hc : checkF N s t l = 0) (hb : Bal (firstOf l N) (hdOf R) (hOf C) X) : ResOf l (flF (hdOf Ai) (bOf B) X l.length (firstOf l N)) (firstOf l N) X := by
  have hE := (ends_in hc).2.2.2.1
  refine ⟨hb.1, fun i v u b c x hI hx => ?_⟩
  obtain ⟨h1, h2, h3, h4, h5, h6⟩ := h.inc hE hI
  rw [hOf_get hb.1 h1]
  cases b with
  | true =>
    have e := fl_back (X := X) h hc hI
    rw [hx] at e
    injection e with e
    rw [e]; rfl
  | false =>
    obtain ⟨c', hI'⟩ := hI.flip
    have e := fl_back (X := X) h hc hI'
    rw [hx] at e
    injection e with e
    obtain ⟨k1, k2, k3, k4, k5, k6⟩ := h.inc hE hI'
    have hz : c' = 0 := by
      obtain ⟨_, _, _, hh⟩ := hI'
      rcases hh with ⟨g, _⟩ | ⟨_, _, _, g⟩
      · cases g
      · exact g
    have := (hb.2 _ h1).2
    rw [h6, h4, k4, hz] at this
    rw [capAt_fwd hI, e]
    simp only [Bool.false_eq_true, if_false]
    congr 1
    omega
theorem fl_in (h : CsrL N l F H R C Ai B) (hc : checkF N s t l = 0) (hb : Bal (firstOf l N) (hdOf R) (hOf C) X) : FlowIn l (flF (hdOf Ai) (bOf B) X l.length (firstOf l N)) := by
  have hE := (ends_in hc).2.2.2.1
  have hnn := (ends_in hc).2.2.2.2.2.2.2.2.2.1
  refine ⟨flF_len _, fun i a x ha hx => ?_⟩
  by_cases he : a.frm = a.to
  · rw [fl_loop h hc ha he] at hx
    injection hx with hx
    subst hx
    exact ⟨Int.le_refl _, hnn a (mem_at ha)⟩
  · have hr := fl_res h hc hb
    have h1 := h.inc hE (inc_fwd ha he)
    have h2 := h.inc hE (inc_bwd ha he)
    have e1 := hr.ent _ _ _ _ _ x (inc_fwd ha he) hx
    have e2 := hr.ent _ _ _ _ _ x (inc_bwd ha he) hx
    have g1 := (hb.2 _ h1.1).1
    have g2 := (hb.2 _ h2.1).1
    rw [hOf_at e1, capAt_fwd (inc_fwd ha he)] at g1
    rw [hOf_at e2] at g2
    simp only [Bool.false_eq_true, if_false, if_true] at g1 g2
    omega
theorem fl_ex (h : CsrL N l F H R C Ai B) (hc : checkF N s t l = 0) (hb : Bal (firstOf l N) (hdOf R) (hOf C) X) (u : Nat) :
    exOf l (flF (hdOf Ai) (bOf B) X l.length (firstOf l N)) (u : Int) = exT (firstOf l N) (hdOf H) (hdOf R) (hOf C) X u := by
  have hE := (ends_in hc).2.2.2.1
  have hr := fl_res h hc hb
  have hil : ∀ a, a < firstOf l N → hdOf Ai a < l.length := fun a ha => by
    obtain ⟨v, u, b, c, hI, _⟩ := h.num hE ha
    exact hI.lt
  obtain ⟨G, hG⟩ : ∃ G : Nat → Int, (fun j => if hdOf H (hdOf R j) = u then hOf X j - hOf C j else 0) = G := ⟨_, rfl⟩
  have e : sumN G (firstOf l N) = sumN (fun i => sumN (fun a => if hdOf Ai a = i then G a else 0) (firstOf l N)) l.length := by
    refine (sumN_congr fun a ha => ?_).trans (sumN_swap (fun a i => if hdOf Ai a = i then G a else 0) (firstOf l N) l.length)
    have := sumN_upd (f := fun _ => 0) (g := fun i => if hdOf Ai a = i then G a else 0) (a := hdOf Ai a) (n := l.length) (d := G a) (hil a ha) (fun j _ hne => if_neg fun e => hne e.symm) (by simp)
    rw [this, sumN_zero]
    omega
  unfold exT
  rw [hG, e, ex_dAt _ _ _ (flF_len _)]
  refine sumN_congr fun i hi => ?_
  obtain ⟨a, ha⟩ : ∃ a, l[i]? = some a := ⟨_, List.getElem?_eq_getElem hi⟩
  obtain ⟨x, hx⟩ : ∃ x, (flF (hdOf Ai) (bOf B) X l.length (firstOf l N))[i]? = some x := ⟨_, List.getElem?_eq_getElem (by rw [flF_len]; exact hi)⟩
  unfold dAt
  rw [ha, hx]
  dsimp only
  have hends : ∀ j, j < firstOf l N → hdOf Ai j = i → a.frm ≠ a.to ∧ (j = posOf l i a.frm ∨ j = posOf l i a.to) := by
    rintro j hj rfl
    obtain ⟨v, u, b', c, ⟨hne, y, hy, hh⟩, hp⟩ := h.num hE hj
    rw [ha] at hy
    injection hy with hy
    subst hy
    rcases hh with ⟨_, h1, h2, _⟩ | ⟨_, h1, h2, _⟩
    · exact ⟨by rw [h1, h2]; exact hne, .inl (by rw [h1, hp])⟩
    · exact ⟨by rw [h1, h2]; exact fun e => hne e.symm, .inr (by rw [h1, hp])⟩
  by_cases he : a.frm = a.to
  · rw [sumN_congr (g := fun _ => 0) fun j hj => if_neg fun e => (hends j hj e).1 he, sumN_zero]
    unfold dlt
    rw [he]
    omega
  · have I1 := inc_fwd ha he
    have I2 := inc_bwd ha he
    obtain ⟨p1, p2, p3, p4, p5, p6⟩ := h.inc hE I1
    obtain ⟨q1, q2, q3, q4, q5, q6⟩ := h.inc hE I2
    have e1 := hr.ent _ _ _ _ _ x I1 hx
    have e2 := hr.ent _ _ _ _ _ x I2 hx
    have hpq : posOf l i a.frm ≠ posOf l i a.to := fun e => he (pos_inj I1 I2 (I1.ends hE).1 (I2.ends hE).1 e).1
    rw [sumN_two (s := posOf l i a.frm) (t := posOf l i a.to) p1 q1 hpq fun j hj n1 n2 => if_neg fun e => (hends j hj e).2.elim n1 n2]
    rw [if_pos p2, if_pos q2, ← hG]
    dsimp only
    rw [p6, q6, hOf_at e1, hOf_at e2, p4, q4, capAt_fwd I1]
    simp only [Bool.false_eq_true, if_false, if_true]
    have g1 : (hdOf H (posOf l i a.to) = u) ↔ a.frm = (u : Int) := by rw [← q5]; omega
    have g2 : (hdOf H (posOf l i a.frm) = u) ↔ a.to = (u : Int) := by rw [← p5]; omega
    unfold dlt
    simp only [g1, g2]
    split <;> split <;> omega
theorem fl_star (h : CsrL N l F H R C Ai B) (hc : checkF N s t l = 0) (hb : Bal (firstOf l N) (hdOf R) (hOf C) X) {v : Int} (hs : Star (Opn l (flF (hdOf Ai) (bOf B) X l.length (firstOf l N))) (s : Int) v) :
    ∃ v' : Nat, v = v' ∧ Rch (firstOf l N) (hdOf H) (hdOf R) X s v' := by
  have hE := (ends_in hc).2.2.2.1
  induction hs with
  | here => exact ⟨s, rfl, .nil _⟩
  | more h1 h2 ih =>
    obtain ⟨w, rfl, hw⟩ := ih
    obtain ⟨i, b, c, hI, hp⟩ := (via_from (flF_len _) (fl_res h hc hb)).2 h2
    obtain ⟨k1, k2, k3, k4, k5, k6⟩ := h.inc hE hI
    obtain ⟨c', hI'⟩ := hI.flip
    obtain ⟨q1, q2, q3, q4, q5, q6⟩ := h.inc hE hI'
    refine ⟨_, k5.symm, hw.snoc k1 (by unfold leftB at hp; exact of_decide_eq_true hp) ?_⟩
    rw [k6]
    omega
end

/-- A right net's rows; and of a state of which nobody is active: what is left is a flow's. -/
theorem net_rowe {N s t : Nat} {l : List ArcN} (hck : checkF N s t l = 0) : ∃ (M : Nat) (fst hd rv ai : Nat → Nat) (cp : Nat → Int) (bk : Nat → Bool), firstOf l N = M ∧ PNet N M s t fst hd rv ai cp bk ∧
    (∀ (W : World) (n0 gF gH gR gC gA gB : Nat), CsrAt W n0 N l gF gH gR gC gA gB → PIn W n0 N M (csrK N M gF gH gR gC gA gB) fst hd rv ai cp bk) ∧ (∀ a, a < M → ai a < l.length) ∧
    ∀ X E H, StIs N M s t hd rv cp X E H → (∀ v, v < N → actB s t E v = false) → FlowIn l (flF ai bk X l.length M) ∧ RightIn N s t l (flF ai bk X l.length M) ∧ exOf l (flF ai bk X l.length M) t = hOf E t ∧ ¬ Star (Opn l (flF ai bk X l.length M)) s t := by
  obtain ⟨F, H, R, C, Ai, B, hL⟩ := csrL_ex N l
  have hE := (ends_in hck).2.2.2.1
  have hG := (hL.pnet hck).1
  refine ⟨_, _, _, _, _, _, _, rfl, hG, fun W n0 gF gH gR gC gA gB h => hL.pin hck (h.rows hE hL), fun a ha => ?_, fun X E H hS hno => ⟨fl_in hL hck hS.bal, fun u hu => ?_, ?_, fun hst => ?_⟩⟩
  · obtain ⟨v, u, b, c, hI, _⟩ := hL.num hE ha
    exact hI.lt
  · by_cases e1 : u = s
    · exact .inl (by omega)
    by_cases e2 : u = t
    · exact .inr (.inl (by omega))
    refine .inr (.inr ?_)
    rw [fl_ex hL hck hS.bal, ← hS.exc u hu]
    have h1 := hS.neg u hu e1
    have h2 := hno u hu
    rw [← Bool.not_eq_true, act_iff] at h2
    have h3 : ¬ 0 < hOf E u := fun h => h2 ⟨e1, e2, h⟩
    omega
  · rw [fl_ex hL hck hS.bal, ← hS.exc t hG.ht]
  · obtain ⟨v', e, hr⟩ := fl_star hL hck hS.bal hst
    obtain rfl : t = v' := by omega
    exact hS.apart hG hr

end Go.Proofs.Ytfcjmhihheeifaa

/-! Pfl -/
namespace Go.Proofs.Ytfcjmhihheeifaa
open Go.RowKit
set_option maxRecDepth 100000

set_option maxHeartbeats 4000000 in
theorem flow3 (N M s t n : Nat) (K : CsrS) (fst hd rv ai : Nat → Nat) (cp : Nat → Int) (bk : Nat → Bool) (AX : Option Addr) (cX : Nat) (X : List Int) (w : World) (hG : PNet N M s t fst hd rv ai cp bk) (hI : PIn w w.heap.size N M K fst hd rv ai cp bk)
    (hX : Ints w w.heap.size AX M X) (hXR : ∀ x ∈ X, InR x) (hbal : Bal M rv cp X) (hn : n ≤ 16384) (ha : ∀ a, a < M → ai a < n) :
    Calls Try.prog 29 #[csrW N M s t K, .slice AX M cX, .int .i64 n] w fun e w' => ∃ g, e = .returned (.tuple #[.slice (some ⟨g, 0, none⟩) n n, .int .i64 0]) ∧ w.heap.size ≤ g ∧ Blk w' g 2 (ivs (flF ai bk X n M)) ∧ Below w.heap.size w w' := by
  have hct := fun W => isCount_any (n : Int) W
  rw [decide_eq_true (show 0 ≤ (n : Int) ∧ (n : Int) ≤ 16384 by omega)] at hct
  have HCT := Lib.hid hct; clear hct
  have hlen := fun W => len2_any N M s t K W
  have HL := Lib.hid hlen; clear hlen
  have hM := hG.nM
  have hwf := fun W (h : PIn W W.heap.size N M K fst hd rv ai cp bk) => wf2 N M s t K fst hd rv ai cp bk W hG.g h (by omega)
  have HWF := Lib.hid hwf; clear hwf
  have hba := fun W (h : PIn W W.heap.size N M K fst hd rv ai cp bk) (hX : Ints W W.heap.size AX M X) => bal2 N M s t K fst hd rv ai cp bk AX cX X true W hG h hX hXR ⟨fun _ => (balN_iff hG hX.len).2 hbal, fun _ => rfl⟩
  have HBA := Lib.hid hba; clear hba hbal hXR
  obtain ⟨i1, hi, hz0, hz1, hz2⟩ := info_parts long_info
  have hml := fun W => run_make_lit (P := Try.prog) 25 2 i1 _ Try.underlying25 hi hz0 n (by rw [hz2]; omega) (by omega) W
  rw [hz1, ivs_made] at hml
  clear hi hz0 hz1 hz2
  have HIC := Lib.hid ha; clear ha
  have HI := Lib.hid hI; have HX := Lib.hid hX
  clear hI hX hG
  obtain ⟨AF, cF, AH, cH, AR, cR, AC, cC, AA, cA, AB, cB⟩ := K
  dsimp only [csrW] at HL HWF HBA ⊢
  go_enter Try.func29, Try.ntmps29
  go_wp2_with fail
  refine (HWF.out _ (HI.out.onAlloc _)).mono ?_
  rintro e w1 ⟨rfl, B1⟩
  have K1 : Blk w1 w.heap.size 45 _ := (Blk.new rfl).below B1 (by simp)
  have Bw := below_step (below_alloc _) B1
  have C1 := (HI.out.onAlloc _).on B1
  have X1 := (HX.out.onAlloc _).on B1
  obtain ⟨a0, a1, a2, a3, a4, a5, a6, a7, a8⟩ := K1.at9
  clear B1
  go_wp2_with fail
  refine (HL.out _).mono ?_
  rintro e w2 ⟨rfl, B2⟩
  have K2 := K1.below B2 K1.lt
  have C2 := C1.on B2
  have X2 := X1.on B2
  have Bw2 := below_step Bw B2
  clear a0 a1 a2 a3 a4 a5 a6 a7 a8 K1 C1 X1 Bw B2
  obtain ⟨a0, a1, a2, a3, a4, a5, a6, a7, a8⟩ := K2.at9
  go_wp2_with fail
  refine (HCT.out _).mono ?_
  rintro e w3 ⟨rfl, B3⟩
  have K3 := K2.below B3 K2.lt
  have C3 := C2.on B3
  have X3 := X2.on B3
  have Bw3 := below_step Bw2 B3
  clear a0 a1 a2 a3 a4 a5 a6 a7 a8 K2 C2 X2 Bw2 B3
  obtain ⟨a0, a1, a2, a3, a4, a5, a6, a7, a8⟩ := K3.at9
  go_wp2_with fail
  refine (below2 AA M cA _ n _ C3.iA (by omega) ?_).mono ?_
  · intro x hx
    obtain ⟨k, hk⟩ := List.getElem?_of_mem hx
    have hkM : k < M := by have := (List.getElem?_eq_some_iff.1 hk).1; rw [tab_len] at this; exact this
    rw [tab_at hkM] at hk
    injection hk with hk
    have := HIC.out k hkM
    omega
  rintro e w4 ⟨rfl, rfl⟩
  go_wp2_with fail
  refine (HBA.out _ C3 X3).mono ?_
  rintro e w5 ⟨rfl, B5⟩
  have K5 := K3.below B5 K3.lt
  have C5 := C3.on B5
  have X5 := X3.on B5
  have Bw5 := below_step Bw3 B5
  have hz5 := K5.lt
  clear a0 a1 a2 a3 a4 a5 a6 a7 a8 K3 C3 X3 Bw3 B5
  obtain ⟨a0, a1, a2, a3, a4, a5, a6, a7, a8⟩ := K5.at9
  go_wp2_with fail
  have Y5 : Blk (w5.alloc (.cells (ivs (List.replicate n 0)) 2)) w5.heap.size 2 (ivs (List.replicate n 0)) := Blk.new rfl
  refine (HL.out _).mono ?_
  rintro e w6 ⟨rfl, B6⟩
  have K6 := (K5.alloc (.cells (ivs (List.replicate n 0)) 2)).below B6 (K5.alloc _).lt
  have B56 : Below w5.heap.size w5 w6 := (below_alloc _).trans (B6.mono (by simp))
  have C6 := C5.below B56
  have X6 := X5.below B56
  have Y6 := Y5.below B6 Y5.lt
  have Bw6 := below_step Bw5 B56
  clear a0 a1 a2 a3 a4 a5 a6 a7 a8 K5 C5 X5 Bw5 B6 Y5 B56
  go_wp2_with fail
  go_loopw [9, 40] (fun _ i wr => ∃ (k : Nat), k ≤ M ∧ i = .int .i64 k ∧ Blk wr w5.heap.size 2 (ivs (flF ai bk X n k)) ∧ PIn wr w5.heap.size N M ⟨AF, cF, AH, cH, AR, cR, AC, cC, AA, cA, AB, cB⟩ fst hd rv ai cp bk ∧ Ints wr w5.heap.size AX M X ∧
      Blk wr w.heap.size 45 #[.int .i64 N, .int .i64 s, .int .i64 t, .slice AF (N + 1) cF, .slice AH M cH, .slice AR M cR, .slice AC M cC, .slice AA M cA, .slice AB M cB] ∧ Below w.heap.size w wr) (fun _ i _ => M - (intOf i).toNat)
  case atStart => exact ⟨0, Nat.zero_le _, rfl, Y6, C6, X6, K6, Bw6⟩
  case round =>
    clear Y6 C6 X6 K6 Bw6
    obtain ⟨k, hk, rfl, Y6, C6, X6, K6, Bw6⟩ := hrel
    obtain ⟨a0, a1, a2, a3, a4, a5, a6, a7, a8⟩ := K6.at9
    by_cases hlt : k < M
    · obtain ⟨bf, off, x, rfl, hbf, hfx, hcx⟩ := intl_at X6 (k := k) hlt
      have hxk : hOf X k = x := hOf_at hfx
      have HXK := Lib.hid hxk
      clear hxk
      obtain ⟨bA, oA, hA⟩ := C6.iA.adr (by omega)
      obtain ⟨bB, oB, hB, hbB, cb⟩ := tab_bool C6.iB hlt
      dsimp only at hA hB
      subst hA; subst hB
      obtain ⟨hbA, ca⟩ := tab_cell C6.iA hlt
      have hil := HIC.out k hlt
      clear hfx
      obtain ⟨i, hi⟩ : ∃ i, ai k = i := ⟨_, rfl⟩
      obtain ⟨b, hb⟩ : ∃ b, bk k = b := ⟨_, rfl⟩
      rw [hi] at ca hil
      rw [hb] at cb
      have HII := Lib.hid hi; have HBB := Lib.hid hb
      clear hi hb
      have hin : (i : Int) < (n : Int) := by omega
      cases b with
      | false =>
        go_wp2_with fail
        go_roundw
        case rel => exact ⟨k + 1, by omega, by go_num, by rw [flF, if_neg (by rw [HBB.out]; simp)]; exact Y6, C6, X6, K6, Bw6⟩
        case measure => simp [intOf]; omega
      | true =>
        obtain ⟨y1, hy1⟩ : ∃ y, (flF ai bk X n k)[i]? = some y := ⟨_, List.getElem?_eq_getElem (by rw [flF_len]; omega)⟩
        have c1 := Y6.iat hy1
        have d1 := Y6.frozen i
        have n1 : w5.heap.size ≠ w.heap.size := by omega
        have n2 : w5.heap.size ≠ bA := by omega
        have n3 : w5.heap.size ≠ bf := by omega
        have HX4 := Lib.hid Y6; have HC := Lib.hid C6; have HF := Lib.hid X6; have HK := Lib.hid K6; have HB := Lib.hid Bw6
        clear Y6 C6 X6 K6 Bw6 hy1
        go_wp2_with fail
        go_region_held3 (fun W => W.cell? ⟨w.heap.size, 7, none⟩ = some (.slice (some ⟨bA, oA, none⟩) M cA) ∧ W.cell? ⟨bA, oA + k, none⟩ = some (.int .i64 (i : Int)) ∧ W.cell? ⟨bf, off + k, none⟩ = some (.int .i64 x)) (go_keep) (first | fail)
        go_wp2_with fail
        go_roundw
        case rel =>
          have hb2 : Below w5.heap.size wr (wr.setCell ⟨w5.heap.size, i, none⟩ (.int .i64 x)).drew := ((Below.refl _ _).setCell (by simp) _).drew
          exact ⟨k + 1, by omega, by go_num, by rw [flF, if_pos HBB.out, HII.out, HXK.out]; exact (HX4.out.iset i x).drew, HC.out.below hb2, HF.out.below hb2, HK.out.below hb2 (by omega), HB.out.trans (hb2.mono (by omega))⟩
        case measure => simp [intOf]; omega
    · obtain rfl : k = M := by omega
      go_wp2_with fail
      go_ret2
      exact ⟨_, rfl, by omega, Y6, Bw6⟩


end Go.Proofs.Ytfcjmhihheeifaa

/-! Sides -/
namespace Go.Proofs.Ytfcjmhihheeifaa
open Go.RowKit
set_option maxRecDepth 100000
/-! The side of all from which T is not reached. -/
section
variable {l : List ArcN} {F : List Int} {N s t : Nat} {K : List Bool}
theorem to_tight (hE : EndsIn N l) (hF : FlowIn l F) (hK : ∀ v : Nat, v < N → (inS K (v : Int) = true ↔ ¬ Star (Opn l F) (v : Int) (t : Int))) : TightFor K l F := by
  have h : ∀ v u : Nat, v < N → u < N → Opn l F (v : Int) (u : Int) → inS K (v : Int) = true → inS K (u : Int) = true := fun v u hv hu hR h => by
    rw [hK _ hv] at h
    rw [hK _ hu]
    exact fun h' => h (Star.ahead hR h')
  intro j a x ha hx
  have he := hE a (mem_at ha)
  have hb := hF.ent j a x ha hx
  obtain ⟨f, g, c⟩ := a
  simp only at he hb
  obtain ⟨f, rfl⟩ := Int.eq_ofNat_of_zero_le he.1
  obtain ⟨u, rfl⟩ := Int.eq_ofNat_of_zero_le he.2.2.1
  simp only [outB, innB, Bool.and_eq_true, Bool.not_eq_true']
  refine ⟨fun ⟨h1, h2⟩ => ?_, fun ⟨h1, h2⟩ => ?_⟩
  · refine Classical.byContradiction fun hne => ?_
    have := h f u (by omega) (by omega) ⟨j, _, x, ha, hx, fun e => (by simp only at e; rw [e, h2] at h1; cases h1), .inl ⟨rfl, rfl, by simp only; omega⟩⟩ h1
    rw [h2] at this; cases this
  · refine Classical.byContradiction fun hne => ?_
    have := h u f (by omega) (by omega) ⟨j, _, x, ha, hx, fun e => (by simp only at e; rw [← e, h1] at h2; cases h2), .inr ⟨rfl, rfl, by omega⟩⟩ h2
    rw [h1] at this; cases this
theorem to_cut (hs : s < N) (ht : t < N) (hl : K.length = N) (hn : ¬ Star (Opn l F) (s : Int) (t : Int)) (hK : ∀ v : Nat, v < N → (inS K (v : Int) = true ↔ ¬ Star (Opn l F) (v : Int) (t : Int))) : IsCut N s t K := by
  refine ⟨hl, (hK s hs).2 hn, ?_⟩
  rw [← Bool.not_eq_true]
  exact fun h => (hK t ht).1 h (.here _)
end


end Go.Proofs.Ytfcjmhihheeifaa
