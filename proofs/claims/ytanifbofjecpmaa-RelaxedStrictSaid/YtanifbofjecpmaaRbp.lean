/- Layer 9, plainly: the state with all of S's arcs full is sound. -/
import Derived.Test.YtanifbofjecpmaaFlx
import Derived.Test.YtanifbofjecpmaaRlp
namespace Go.Proofs.Ytanifbofjecpmaa
open Go.RowKit
set_option maxRecDepth 100000

/-- All of S's arcs full. -/
def fullA (s : Nat) (a : ArcN) : Int := if a.frm = s ∧ a.to ≠ s then a.cap else 0
def fullF (s : Nat) (l : List ArcN) : List Int := l.map (fullA s)
section
variable {N s t : Nat} {l : List ArcN} {F H R C Ai X E : List Int} {B : List Bool}
theorem fullF_at {i : Nat} {a : ArcN} (h : l[i]? = some a) : (fullF s l)[i]? = some (fullA s a) := by simp [fullF, h]
theorem fullF_len : (fullF s l).length = l.length := by simp [fullF]
theorem full_in (hn : NonNeg l) : FlowIn l (fullF s l) := by
  refine ⟨fullF_len, fun i a x ha hx => ?_⟩
  rw [fullF_at ha] at hx
  injection hx with hx
  subst hx
  have := hn a (mem_at ha)
  unfold fullA
  split <;> omega
theorem exf_pos {u : Int} (hu : u ≠ s) : ∀ {l : List ArcN} {F : List Int}, F.length = l.length → (∀ (i : Nat) (a : ArcN) (x : Int), l[i]? = some a → F[i]? = some x → 0 ≤ x ∧ (x ≠ 0 → a.frm = s)) → 0 ≤ exOf l F u
  | [], _, _, _ => by simp [exOf]
  | a :: l, [], _, _ => by simp [exOf]
  | a :: l, x :: F, hl, h => by
    have ih := exf_pos hu (l := l) (F := F) (by simpa using hl) fun i b y hb hy => h (i + 1) b y (by simpa using hb) (by simpa using hy)
    have h0 := h 0 a x rfl rfl
    simp only [exOf]
    unfold dlt
    by_cases hx : x = 0
    · subst hx; simp; exact ih
    · have := h0.2 hx
      rw [if_neg (show ¬ a.frm = u from fun e => hu (by rw [← e, this]))]
      split <;> omega
/-- What is left by a flow is as it should be. -/
theorem res_bal {f : List Int} (h : CsrL N l F H R C Ai B) (hc : checkF N s t l = 0) (hf : FlowIn l f) (hX : ResOf l f (firstOf l N) X) : Bal (firstOf l N) (hdOf R) (hOf C) X := by
  have hE := (ends_in hc).2.2.2.1
  refine ⟨hX.len, fun a ha => ?_⟩
  obtain ⟨v, u, b, c, hI, hp⟩ := h.num hE ha
  obtain ⟨i, hi⟩ : ∃ i, hdOf Ai a = i := ⟨_, rfl⟩
  rw [hi] at hI hp
  have hI' := hI
  obtain ⟨hne, ar, har, hh⟩ := hI'
  obtain ⟨x, hx⟩ : ∃ x, f[i]? = some x := ⟨_, List.getElem?_eq_getElem (by rw [hf.len]; exact (List.getElem?_eq_some_iff.1 har).1)⟩
  have hb := hf.ent i ar x har hx
  obtain ⟨k1, k2, k3, k4, k5, k6⟩ := h.inc hE hI
  have e1 := hX.ent _ _ _ _ _ _ hI hx
  obtain ⟨c', hF⟩ := hI.flip
  obtain ⟨j1, j2, j3, j4, j5, j6⟩ := h.inc hE hF
  have e2 := hX.ent _ _ _ _ _ _ hF hx
  have hcap : capAt l i = ar.cap := by unfold capAt; rw [har]
  rw [hp] at e1 k4 k6
  rw [hOf_at e1, k6, hOf_at e2, k4, j4, hcap]
  have hc1 : (b = false → c = ar.cap ∧ c' = 0) ∧ (b = true → c = 0 ∧ c' = ar.cap) := by
    obtain ⟨-, ar2, har2, hh2⟩ := hF
    rw [har] at har2
    injection har2 with har2
    subst har2
    constructor
    · intro hb0
      subst hb0
      rcases hh with ⟨_, _, _, g⟩ | ⟨g, _⟩
      · rcases hh2 with ⟨g2, _⟩ | ⟨_, _, _, g2⟩
        · simp at g2
        · exact ⟨g, g2⟩
      · cases g
    · intro hb0
      subst hb0
      rcases hh with ⟨g, _⟩ | ⟨_, _, _, g⟩
      · cases g
      · rcases hh2 with ⟨_, _, _, g2⟩ | ⟨g2, _⟩
        · exact ⟨g, g2⟩
        · simp at g2
  cases b with
  | false =>
    obtain ⟨c1, c2⟩ := hc1.1 rfl
    simp only [Bool.not_false, if_true, Bool.false_eq_true, if_false]
    omega
  | true =>
    obtain ⟨c1, c2⟩ := hc1.2 rfl
    simp only [Bool.not_true, if_true, Bool.false_eq_true, if_false]
    omega
/-- What is left tells the flow, but on arcs from a vertex to itself. -/
theorem fl_of_res {f : List Int} (h : CsrL N l F H R C Ai B) (hc : checkF N s t l = 0) (hf : FlowIn l f) (hX : ResOf l f (firstOf l N) X) (h0 : ∀ (i : Nat) (a : ArcN) (x : Int), l[i]? = some a → f[i]? = some x → a.frm = a.to → x = 0) :
    flF (hdOf Ai) (bOf B) X l.length (firstOf l N) = f := by
  refine List.ext_getElem? fun i => ?_
  by_cases hi : i < l.length
  · obtain ⟨a, ha⟩ : ∃ a, l[i]? = some a := ⟨_, List.getElem?_eq_getElem hi⟩
    obtain ⟨x, hx⟩ : ∃ x, f[i]? = some x := ⟨_, List.getElem?_eq_getElem (by rw [hf.len]; exact hi)⟩
    rw [hx]
    by_cases he : a.frm = a.to
    · rw [fl_loop h hc ha he, h0 i a x ha hx he]
    · rw [fl_back h hc (inc_bwd ha he)]
      have e := hX.ent _ _ _ _ _ _ (inc_bwd ha he) hx
      rw [hOf_at e]
      rfl
  · rw [List.getElem?_eq_none (by rw [flF_len]; omega), List.getElem?_eq_none (by rw [hf.len]; omega)]
theorem exList_hOf (F : List Int) {v : Nat} (hv : v < N) : hOf (exList N l F) v = exOf l F v := hOf_at (exList_at l F hv)
/-- The first state is sound. -/
theorem full_ok (h : CsrL N l F H R C Ai B) (hc : checkF N s t l = 0) (hX : ResOf l (fullF s l) (firstOf l N) X) :
    SndIs N (firstOf l N) s t (hdOf H) (hdOf R) (hOf C) X (exList N l (fullF s l)) (begH N s) := by
  obtain ⟨h2, hN, hln, hE, hs0, hs, ht0, ht, hst, hnn, htot⟩ := ends_in hc
  have hf := full_in (s := s) hnn
  have hb := res_bal h hc hf hX
  have hz : ∀ (i : Nat) (a : ArcN) (x : Int), l[i]? = some a → (fullF s l)[i]? = some x → a.frm = a.to → x = 0 := fun i a x ha hx he => by
    rw [fullF_at ha] at hx
    injection hx with hx
    subst hx
    unfold fullA
    rw [if_neg]
    rintro ⟨h1, h2⟩
    exact h2 (he ▸ h1)
  have hfl := fl_of_res h hc hf hX hz
  have hl : (begH N s).length = N := by simp [begH]
  have hat : ∀ v, v < N → hOf (begH N s) v = if s = v then (N : Int) else 0 := fun v hv => by
    unfold begH
    rw [hOf_put (by simp; omega), hOf_rep]
  refine ⟨hb, exList_len _ _ _, hl, fun v hv => ?_, fun v hv hvs => ?_, ?_, ?_, fun v hv => ?_⟩
  · rw [exList_hOf _ hv, ← fl_ex h hc hb v, hfl]
  · rw [exList_hOf _ hv]
    refine exf_pos (s := s) (by omega) hf.len fun i a x ha hx => ?_
    have := hf.ent i a x ha hx
    rw [fullF_at ha] at hx
    injection hx with hx
    refine ⟨this.1, fun hne => ?_⟩
    unfold fullA at hx
    split at hx
    · exact (‹_ ∧ _›).1
    · exact absurd hx.symm hne
  · rw [hat s (by omega), if_pos rfl]
  · rw [hat t (by omega), if_neg (by omega)]
  · rw [hat v hv]
    split <;> omega
/-- A step of the loop over arcs. -/
theorem ex_step {k : Nat} {a : ArcN} {f w : Nat} (ha : l[k]? = some a) (hfa : a.frm = f) (hta : a.to = w) (hne : f ≠ w) {x : Int} (hx : fullA s a = x) :
    ((exList N (l.take k) ((fullF s l).take k)).set f (exOf (l.take k) ((fullF s l).take k) f - x)).set w (exOf (l.take k) ((fullF s l).take k) w + x) = exList N (l.take (k + 1)) ((fullF s l).take (k + 1)) := by
  have hlen := exList_len N (l.take k) ((fullF s l).take k)
  refine List.ext_getElem? fun i => ?_
  by_cases hi : i < N
  · rw [exList_at _ _ hi, exOf_take fullF_len ha (fullF_at ha), hx]
    unfold dlt
    rw [hfa, hta, List.getElem?_set, List.length_set, hlen, List.getElem?_set, hlen, exList_at _ _ hi]
    by_cases h1 : w = i
    · subst h1
      rw [if_pos rfl, if_pos hi, if_pos rfl, if_neg (by omega)]
      congr 1; omega
    · rw [if_neg h1, if_neg (show ¬ (w : Int) = (i : Int) by omega)]
      by_cases h2 : f = i
      · subst h2
        rw [if_pos rfl, if_pos hi, if_pos rfl]
        congr 1; omega
      · rw [if_neg h2, if_neg (show ¬ (f : Int) = (i : Int) by omega)]
        congr 1; omega
  · rw [List.getElem?_eq_none (by simp [hlen]; omega), List.getElem?_eq_none (by rw [exList_len]; omega)]
theorem ex_skip {k : Nat} {a : ArcN} (ha : l[k]? = some a) (hx : fullA s a = 0) : exList N (l.take (k + 1)) ((fullF s l).take (k + 1)) = exList N (l.take k) ((fullF s l).take k) := by
  refine List.ext_getElem? fun i => ?_
  by_cases hi : i < N
  · rw [exList_at _ _ hi, exList_at _ _ hi, exOf_take fullF_len ha (fullF_at ha), hx]
    unfold dlt
    simp
  · rw [List.getElem?_eq_none (by rw [exList_len]; omega), List.getElem?_eq_none (by rw [exList_len]; omega)]
end

end Go.Proofs.Ytanifbofjecpmaa
