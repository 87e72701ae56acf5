/- RelaxedStrict, plainly: pushes and lifts of layer 7 are strict moves, and strict moves of a right state are these. -/
import Derived.Test.YtanifbofjecpmaaRst
import Derived.Test.YtanifbofjecpmaaMayo
import Derived.Test.YtanifbofjecpmaaBego
namespace Go.Proofs.Ytanifbofjecpmaa
open Go.RowKit
set_option maxRecDepth 100000

section
variable {N M s t : Nat} {fst hd rv ai : Nat → Nat} {cp : Nat → Int} {bk : Nat → Bool} {X E H : List Int} {e : EvS} {u : Nat}
theorem low_none : ∀ {k : Nat}, lowO fst hd X H u k = none → ∀ a, fst u ≤ a → a < fst u + k → ¬ 0 < hOf X a
  | 0, _, a, h1, h2 => by omega
  | k + 1, h, a, h1, h2 => by
    simp only [lowO] at h
    split at h
    · split at h
      · cases h
      · split at h <;> cases h
    · by_cases e : a = fst u + k
      · subst e; assumption
      · exact low_none h a h1 (by omega)
theorem low_some : ∀ {k : Nat} {l : Int}, lowO fst hd X H u k = some l → (∃ a, fst u ≤ a ∧ a < fst u + k ∧ 0 < hOf X a ∧ hOf H (hd a) = l) ∧ ∀ a, fst u ≤ a → a < fst u + k → 0 < hOf X a → l ≤ hOf H (hd a)
  | 0, _, h => by cases h
  | k + 1, l, h => by
    simp only [lowO] at h
    split at h
    · rename_i ho
      split at h
      · rename_i hn
        injection h with h
        subst h
        refine ⟨⟨_, Nat.le_add_right _ _, by omega, ho, rfl⟩, fun a h1 h2 h3 => ?_⟩
        by_cases e : a = fst u + k
        · subst e; omega
        · exact absurd h3 (low_none hn a h1 (by omega))
      · rename_i l' hl'
        obtain ⟨⟨a, a1, a2, a3, a4⟩, hle⟩ := low_some hl'
        split at h
        · injection h with h
          subst h
          refine ⟨⟨_, Nat.le_add_right _ _, by omega, ho, rfl⟩, fun b h1 h2 h3 => ?_⟩
          by_cases e : b = fst u + k
          · subst e; omega
          · have := hle b h1 (by omega) h3; omega
        · injection h with h
          subst h
          refine ⟨⟨a, a1, by omega, a3, a4⟩, fun b h1 h2 h3 => ?_⟩
          by_cases e : b = fst u + k
          · subst e; omega
          · exact hle b h1 (by omega) h3
    · rename_i ho
      obtain ⟨⟨a, a1, a2, a3, a4⟩, hle⟩ := low_some h
      refine ⟨⟨a, a1, by omega, a3, a4⟩, fun b h1 h2 h3 => ?_⟩
      by_cases e : b = fst u + k
      · subst e; exact absurd h3 ho
      · exact hle b h1 (by omega) h3
end

section
variable {N M : Nat} {fst hd rv : Nat → Nat} {X H : List Int} {p : Nat → Bool}
theorem downs_mem (hG : Grid N M fst hd rv) {u a : Nat} (hu : u < N) : a ∈ downs fst hd rv X H u ↔ a < M ∧ hd (rv a) = u ∧ admB hd rv X H a = true := by
  have hm := hG.mono u hu
  unfold downs
  rw [rls_mem (by omega)]
  constructor
  · rintro ⟨h1, h2, h3⟩
    have h4 := hG.monoN (i := u + 1) (j := N) (by omega) (Nat.le_refl _)
    rw [hG.fN] at h4
    exact ⟨by omega, hG.tail u a hu h1 (by omega), h3⟩
  · rintro ⟨h1, rfl, h3⟩
    obtain ⟨h4, h5, -⟩ := hG.row h1
    exact ⟨h4, by omega, h3⟩
theorem mayA_mem (hG : Grid N M fst hd rv) {a : Nat} : a ∈ mayA fst hd rv X H (selTo p N) ↔ a < M ∧ p (hd (rv a)) = true ∧ admB hd rv X H a = true := by
  rw [mayA_sel hG N (Nat.le_refl _), hG.fN, sel_mem, Bool.and_eq_true]
theorem mayV_mem {u : Nat} : u ∈ mayV fst hd rv X H (selTo p N) ↔ u < N ∧ p u = true ∧ downs fst hd rv X H u = [] := by
  simp only [mayV, List.mem_filter, sel_mem, List.isEmpty_iff, and_assoc]
/-- Begins one of these arcs at v? -/
def begB (hd rv : Nat → Nat) (A : List Nat) (v : Nat) : Bool := A.any fun a => decide (hd (rv a) = v)
/-- What stands at v behind these arcs and these vertices. -/
def mvAt (hd rv : Nat → Nat) (A V : List Nat) (v : Nat) : Nat := if begB hd rv A v then 1 else if v ∈ V then 2 else 0
theorem begB_iff {A : List Nat} {v : Nat} : begB hd rv A v = true ↔ ∃ a, a ∈ A ∧ hd (rv a) = v := by simp [begB]
theorem begB_snoc {A : List Nat} {a v : Nat} : begB hd rv (A ++ [a]) v = (begB hd rv A v || decide (hd (rv a) = v)) := by simp [begB]
theorem beg_may (hG : Grid N M fst hd rv) {v : Nat} (hv : v < N) : begB hd rv (mayA fst hd rv X H (selTo p N)) v = true ↔ p v = true ∧ downs fst hd rv X H v ≠ [] := by
  rw [begB_iff]
  constructor
  · rintro ⟨a, ha, rfl⟩
    obtain ⟨h1, h2, h3⟩ := (mayA_mem hG).1 ha
    exact ⟨h2, fun e => by have := (downs_mem hG hv).2 ⟨h1, rfl, h3⟩; rw [e] at this; cases this⟩
  · rintro ⟨h1, h2⟩
    obtain ⟨a, ha⟩ := List.exists_mem_of_ne_nil _ h2
    obtain ⟨h3, h4, h5⟩ := (downs_mem hG hv).1 ha
    exact ⟨a, (mayA_mem hG).2 ⟨h3, by rw [h4]; exact h1, h5⟩, h4⟩
theorem mv_yes (hG : Grid N M fst hd rv) {v : Nat} (hv : v < N) (hp : p v = true) : mvAt hd rv (mayA fst hd rv X H (selTo p N)) (mayV fst hd rv X H (selTo p N)) v = 1 ∨ mvAt hd rv (mayA fst hd rv X H (selTo p N)) (mayV fst hd rv X H (selTo p N)) v = 2 := by
  unfold mvAt
  by_cases h : downs fst hd rv X H v = []
  · right
    rw [if_neg (fun e => ((beg_may hG hv).1 e).2 h), if_pos (mayV_mem.2 ⟨hv, hp, h⟩)]
  · left
    rw [if_pos ((beg_may hG hv).2 ⟨hp, h⟩)]
theorem mv_no (hG : Grid N M fst hd rv) {v : Nat} (hv : v < N) (hp : p v = false) : mvAt hd rv (mayA fst hd rv X H (selTo p N)) (mayV fst hd rv X H (selTo p N)) v = 0 := by
  unfold mvAt
  rw [if_neg (fun e => by rw [((beg_may hG hv).1 e).1] at hp; cases hp), if_neg (fun e => by rw [(mayV_mem.1 e).2.1] at hp; cases hp)]
/-- A vertex that may be lifted is no arc's begin. -/
theorem mv_apart (hG : Grid N M fst hd rv) {u : Nat} (hu : u ∈ mayV fst hd rv X H (selTo p N)) : begB hd rv (mayA fst hd rv X H (selTo p N)) u = false := by
  obtain ⟨h1, -, h3⟩ := mayV_mem.1 hu
  exact Bool.eq_false_iff.2 fun e => ((beg_may hG h1).1 e).2 h3
theorem mayV_nodup : (mayV fst hd rv X H (selTo p N)).Nodup := sel_nodup.filter _
end


section
variable {N M s t : Nat} {fst hd rv ai : Nat → Nat} {cp : Nat → Int} {bk : Nat → Bool} {X E H : List Int} {e : EvS} {u a : Nat}
/-- A strict push. -/
theorem str_push (h : strB N s t fst hd X E H e = true) (hw : e.what = 1) : legI N s t fst X E H e = 0 ∧ hOf H (hd e.arc.toNat) = e.h - 1 ∧ e.d = min (hOf E e.u.toNat) (hOf X e.arc.toNat) := by
  unfold strB at h
  rw [Bool.and_eq_true, if_pos hw] at h
  unfold strP at h
  rw [Bool.and_eq_true] at h
  exact ⟨of_decide_eq_true h.1, of_decide_eq_true h.2.1, of_decide_eq_true h.2.2⟩
/-- A strict lift. -/
theorem str_lift (h : strB N s t fst hd X E H e = true) (hw : e.what ≠ 1) : legI N s t fst X E H e = 0 ∧ 0 < hOf E e.u.toNat ∧ ∃ l, lowO fst hd X H e.u.toNat (fst (e.u.toNat + 1) - fst e.u.toNat) = some l ∧ e.h = l + 1 := by
  unfold strB at h
  rw [Bool.and_eq_true, if_neg hw] at h
  unfold strL at h
  refine ⟨of_decide_eq_true h.1, ?_⟩
  have h2 := h.2
  cases hl : lowO fst hd X H e.u.toNat (fst (e.u.toNat + 1) - fst e.u.toNat) with
  | none => rw [hl] at h2; cases h2
  | some l =>
    rw [hl] at h2
    simp only [strO, Bool.and_eq_true] at h2
    exact ⟨of_decide_eq_true h2.1, l, rfl, of_decide_eq_true h2.2⟩
theorem StIs.snd (h : StIs N M s t hd rv cp X E H) : SndIs N M s t hd rv cp X E H :=
  ⟨h.bal, h.le, h.lh, h.exc, h.neg, h.src, h.snk, fun v hv => ⟨(h.bnd v hv).1, by have := (h.bnd v hv).2; omega⟩⟩
/-- The event of a push of layer 7. -/
def evP (hd rv : Nat → Nat) (X E H : List Int) (a : Nat) : EvS := ⟨0, 1, hd (rv a), a, pushD hd rv X E a, hOf H (hd (rv a)), hOf H (hd (rv a)) - 1⟩
/-- The event of a lift of layer 7. -/
def evL (u : Nat) (h : Int) : EvS := ⟨0, 2, u, 0, 0, h, 0⟩
theorem push7 (hG : PNet N M s t fst hd rv ai cp bk) (hS : StIs N M s t hd rv cp X E H) (ha : a < M) (h1 : actB s t E (hd (rv a)) = true) (h2 : admB hd rv X H a = true) :
    legI N s t fst X E H (evP hd rv X E H a) = 0 ∧ strB N s t fst hd X E H (evP hd rv X E H a) = true ∧ StIs N M s t hd rv cp (mvX rv X a (pushD hd rv X E a)) (mvE hd rv E a (pushD hd rv X E a)) H := by
  obtain ⟨a1, a2, a3⟩ := act_iff.1 h1
  obtain ⟨b1, b2⟩ := adm_iff.1 h2
  obtain ⟨r1, r2, r3⟩ := hG.g.row ha
  have hd1 : 1 ≤ pushD hd rv X E a ∧ pushD hd rv X E a ≤ hOf E (hd (rv a)) ∧ pushD hd rv X E a ≤ hOf X a := by unfold pushD; omega
  have hl : legI N s t fst X E H (evP hd rv X E H a) = 0 := by
    unfold legI chkP evP
    rw [if_pos (show isV N s t ((hd (rv a) : Nat) : Int) from ⟨by omega, by omega, by omega⟩), if_pos rfl, if_pos (by unfold inRow; simp only [Int.toNat_natCast]; omega), if_pos]
    unfold pushFits
    simp only [Int.toNat_natCast]
    refine ⟨hd1.1, hd1.2.1, hd1.2.2, ?_, by omega⟩
    first | trivial | rfl
  refine ⟨hl, ?_, hS.push hG ha h2 h1 (by omega) hd1.2.2 hd1.2.1⟩
  unfold strB
  rw [hl, if_pos (show (evP hd rv X E H a).what = 1 from rfl)]
  unfold strP evP
  simp only [Int.toNat_natCast, decide_true, Bool.true_and, Bool.and_eq_true, decide_eq_true_eq]
  refine ⟨by omega, ?_⟩
  first | rfl | trivial
theorem low_ex : ∀ {k : Nat}, (∃ b, fst u ≤ b ∧ b < fst u + k ∧ 0 < hOf X b) → ∃ l, lowO fst hd X H u k = some l
  | k, ⟨b, b1, b2, b3⟩ => by
    cases hl : lowO fst hd X H u k with
    | none => exact absurd b3 (low_none hl b b1 b2)
    | some l => exact ⟨l, rfl⟩
theorem lowV_at (hG : PNet N M s t fst hd rv ai cp bk) (hu : u < N) {l : Int} (h : lowO fst hd X H u (fst (u + 1) - fst u) = some l) : lowV fst hd X H u = l := by
  have hm := hG.g.mono u hu
  obtain ⟨⟨b, b1, b2, b3, b4⟩, hle⟩ := low_some h
  exact lowV_eq ⟨⟨b, b1, by omega, opn_iff.2 b3, b4.symm⟩, fun c c1 c2 c3 => hle c c1 (by omega) (opn_iff.1 c3)⟩
theorem lift7 (hG : PNet N M s t fst hd rv ai cp bk) (hS : StIs N M s t hd rv cp X E H) (hu : u < N) (h1 : actB s t E u = true) (h2 : downs fst hd rv X H u = []) :
    legI N s t fst X E H (evL u (lowV fst hd X H u + 1)) = 0 ∧ strB N s t fst hd X E H (evL u (lowV fst hd X H u + 1)) = true ∧ StIs N M s t hd rv cp X E (H.set u (lowV fst hd X H u + 1)) := by
  obtain ⟨a1, a2, a3⟩ := act_iff.1 h1
  have hm := hG.g.mono u hu
  obtain ⟨b, b1, b2, b3, b4, b5⟩ := hS.low hG hu a1 a3
  obtain ⟨l, hl⟩ := low_ex (fst := fst) (hd := hd) (X := X) (H := H) (u := u) (k := fst (u + 1) - fst u) ⟨b, b1, by omega, b4⟩
  have hV := lowV_at hG hu hl
  obtain ⟨⟨c, c1, c2, c3, c4⟩, hle⟩ := low_some hl
  have hfst := hG.g.fle (v := u + 1) (by omega)
  have hst : Stuck hd rv fst X H u := fun x x1 x2 => by
    cases hx : admB hd rv X H x with
    | false => rfl
    | true =>
      have hxM : x < M := by omega
      have := (downs_mem hG.g hu).2 ⟨hxM, hG.g.tail u x hu x1 x2, hx⟩
      rw [h2] at this
      cases this
  -- the first of the lowest
  obtain ⟨f, hf⟩ : ∃ f, LowIs fst hd X H u f := by
    have hmin : ∀ k f, f < k → fst u ≤ f → f < fst (u + 1) → opn X f = true → hOf H (hd f) = l → ∃ f, LowIs fst hd X H u f := by
      intro k
      induction k with
      | zero => intro f h; omega
      | succ k ih =>
        intro f fk f1 f2 f3 f4
        by_cases hy : ∃ y, fst u ≤ y ∧ y < f ∧ opn X y = true ∧ hOf H (hd y) = l
        · obtain ⟨y, y1, y2, y3, y4⟩ := hy
          exact ih y (by omega) y1 (by omega) y3 y4
        · refine ⟨f, f1, f2, f3, fun y y1 y2 y3 => ?_, fun y y1 y2 y3 => ?_⟩
          · rw [f4]; exact hle y y1 (by omega) (opn_iff.1 y3)
          · rw [f4]
            have g1 := hle y y1 (by omega) (opn_iff.1 y3)
            have g2 : ¬ hOf H (hd y) = l := fun e => hy ⟨y, y1, y2, y3, e⟩
            omega
    exact hmin (c + 1) c (by omega) c1 (by omega) (opn_iff.2 c3) c4
  have hfl : hOf H (hd f) = l := by
    have g1 := hle f hf.r1 (by have := hf.r2; omega) (opn_iff.1 hf.op)
    have g2 := hf.le c c1 (by omega) (opn_iff.2 c3)
    omega
  obtain ⟨hS', hup⟩ := hS.lift hG hu h1 hst hf
  rw [hfl] at hS' hup
  have hb := hS'.bnd u hu
  rw [hOf_put (by rw [hS.lh]; exact hu), if_pos rfl] at hb
  rw [hV]
  have hlg : legI N s t fst X E H (evL u (l + 1)) = 0 := by
    unfold legI chkL evL
    rw [if_pos (show isV N s t ((u : Nat) : Int) from ⟨by omega, by omega, by omega⟩), if_neg (show ¬ (2 : Int) = 1 by decide), if_pos rfl, if_pos]
    unfold liftFits
    simp only [Int.toNat_natCast]
    omega
  refine ⟨hlg, ?_, hS'⟩
  unfold strB
  rw [hlg, if_neg (show ¬ (evL u (l + 1)).what = 1 from (show ¬ (2 : Int) = 1 by decide))]
  unfold strL evL
  simp only [Int.toNat_natCast, hl, strO, decide_true, Bool.true_and, Bool.and_true, decide_eq_true_eq]
  exact a3
/-- A strict move of a right state comes to a right state. -/
theorem str_st (hG : PNet N M s t fst hd rv ai cp bk) (hS : StIs N M s t hd rv cp X E H) (h : strB N s t fst hd X E H e = true) :
    legI N s t fst X E H e = 0 ∧ StIs N M s t hd rv cp (nxX N s t fst rv X E H e) (nxE N s t fst hd rv X E H e) (nxH N s t fst X E H e) := by
  by_cases hw : e.what = 1
  · obtain ⟨hl, h1, h2⟩ := str_push h hw
    obtain ⟨hvv, hr, hp⟩ := legI_push hl hw
    obtain ⟨u, a, hu, ha, k1, k2, k3, k4, k5, k6, k7⟩ := push_lies hG hvv hr
    obtain ⟨p1, p2, p3, p4, p5⟩ := hp
    refine ⟨hl, ?_⟩
    unfold nxX nxE nxH
    rw [if_pos hl, if_pos hl, if_pos hl]
    unfold movX movE movH
    rw [if_neg (by omega), if_neg (by omega), if_neg (by omega), ha]
    rw [hu] at p2 p4
    rw [ha] at h1 p3
    simp only [Int.toNat_natCast] at p2 p3 p4 h1 ⊢
    exact hS.push hG k4 (adm_iff.2 ⟨by omega, by rw [k7]; omega⟩) (act_iff.2 ⟨by omega, by omega, by rw [k7]; omega⟩) (by omega) p3 (by rw [k7]; exact p2)
  · obtain ⟨hl, h1, l, h2, h3⟩ := str_lift h hw
    have hw2 : e.what = 2 := by rcases legI_what hl with h | h <;> omega
    obtain ⟨hvv, hp⟩ := legI_lift hl hw2
    obtain ⟨⟨g1, g2⟩, g3, g4⟩ := hvv
    obtain ⟨u, hu⟩ : ∃ u : Nat, e.u = u := ⟨e.u.toNat, by omega⟩
    rw [hu] at g2 g3 g4
    refine ⟨hl, ?_⟩
    unfold nxX nxE nxH
    rw [if_pos hl, if_pos hl, if_pos hl]
    unfold movX movE movH
    rw [if_pos hw2, if_pos hw2, if_pos hw2, hu]
    rw [hu] at h2 h1
    have hp1 := hp.1
    rw [hu] at hp1
    simp only [Int.toNat_natCast] at h1 h2 hp1 ⊢
    have huN : u < N := by omega
    have hV := lowV_at hG huN h2
    obtain ⟨-, hle⟩ := low_some h2
    have hm := hG.g.mono u huN
    have hfst := hG.g.fle (v := u + 1) (by omega)
    have hdn : downs fst hd rv X H u = [] := by
      rw [List.eq_nil_iff_forall_not_mem]
      intro x hx
      obtain ⟨x1, x2, x3⟩ := (downs_mem hG.g huN).1 hx
      obtain ⟨x4, x5⟩ := adm_iff.1 x3
      obtain ⟨r1, r2, -⟩ := hG.g.row x1
      rw [x2] at r1 r2 x5
      have := hle x r1 (by omega) x4
      omega
    have := (lift7 hG hS huN (act_iff.2 ⟨by omega, by omega, h1⟩) hdn).2.2
    rw [hV, ← h3] at this
    exact this
/-- What comes of a push of layer 7. -/
theorem push7_nx (hG : PNet N M s t fst hd rv ai cp bk) (hS : StIs N M s t hd rv cp X E H) (ha : a < M) (h1 : actB s t E (hd (rv a)) = true) (h2 : admB hd rv X H a = true) :
    nxX N s t fst rv X E H (evP hd rv X E H a) = mvX rv X a (pushD hd rv X E a) ∧ nxE N s t fst hd rv X E H (evP hd rv X E H a) = mvE hd rv E a (pushD hd rv X E a) ∧ nxH N s t fst X E H (evP hd rv X E H a) = H := by
  obtain ⟨hl, -, -⟩ := push7 hG hS ha h1 h2
  unfold nxX nxE nxH
  rw [if_pos hl, if_pos hl, if_pos hl]
  exact ⟨rfl, rfl, rfl⟩
theorem lift7_nx (hG : PNet N M s t fst hd rv ai cp bk) (hS : StIs N M s t hd rv cp X E H) (hu : u < N) (h1 : actB s t E u = true) (h2 : downs fst hd rv X H u = []) :
    nxX N s t fst rv X E H (evL u (lowV fst hd X H u + 1)) = X ∧ nxE N s t fst hd rv X E H (evL u (lowV fst hd X H u + 1)) = E ∧ nxH N s t fst X E H (evL u (lowV fst hd X H u + 1)) = H.set u (lowV fst hd X H u + 1) := by
  obtain ⟨hl, -, -⟩ := lift7 hG hS hu h1 h2
  unfold nxX nxE nxH
  rw [if_pos hl, if_pos hl, if_pos hl]
  exact ⟨rfl, rfl, rfl⟩
end
/-! Contracts of layer 7 where a move may be done. -/
/-- The rows of a state lie above. -/
structure StOff (b : Nat) (Q : PreS) : Prop where
  aX : Abv b Q.AX
  aE : Abv b Q.AE
  aH : Abv b Q.AH
theorem Hx.off {w0 w : World} {base nX nE nH : Nat} {Q : PreS} {X E H : List Int} (h : Hx w0 w base (pstR nX nE nH Q X E H)) : StOff base Q :=
  ⟨h.held.abv (i := 0) rfl, h.held.abv (i := 1) rfl, h.held.abv (i := 2) rfl⟩
/-- Numbers stay where a cell elsewhere is stored into. -/
theorem ints_off {w : World} {x n b g i : Nat} {A : Option Addr} {L : List Int} {u : Value} (h : Ints w x A n L) (ha : Abv b A) (hg : g < b) : Ints (w.setCell ⟨g, i, none⟩ u) x A n L :=
  ⟨h.1, fun hn => by
    obtain ⟨bb, off, e, hb, hc⟩ := h.2 hn
    have hne := ha _ e
    exact ⟨bb, off, e, hb, fun k a hk j v hv => by
      rw [World.cell?_setCell_other]
      · exact hc k a hk j v hv
      · intro e2
        injection e2 with e3
        dsimp only at hne
        omega⟩⟩
theorem StIn.off {w : World} {x nX nE nH b g i : Nat} {Q : PreS} {X E H : List Int} {u : Value} (h : StIn w x nX nE nH Q X E H) (ha : StOff b Q) (hg : g < b) : StIn (w.setCell ⟨g, i, none⟩ u) x nX nE nH Q X E H :=
  ⟨ints_off h.iX ha.aX hg, ints_off h.iE ha.aE hg, ints_off h.iH ha.aH hg⟩
theorem nvs_lvs {L : List Nat} : nvs L = lvs (L.map fun v : Nat => (v : Int)) := by
  unfold nvs lvs
  rw [List.map_map]
  rfl
/-- What May answers. -/
theorem may7_is {N M s t : Nat} {K : CsrS} {Q : PreS} {fst hd rv ai : Nat → Nat} {cp : Nat → Int} {bk : Nat → Bool} {X E H : List Int} {w : World} (hG : PNet N M s t fst hd rv ai cp bk) (hI : PIn w w.heap.size N M K fst hd rv ai cp bk)
    (hQ : StIn w w.heap.size M N N Q X E H) (hS : StIs N M s t hd rv cp X E H) :
    Calls Try.prog 24 #[csrW N M s t K, preW M N N Q] w fun e w' => ∃ (A1 A2 : Option Addr) (n1 c1 n2 c2 : Nat) (L1 L2 : List Int), e = .returned (.tuple #[.slice A1 n1 c1, .slice A2 n2 c2]) ∧ Below w.heap.size w w' ∧ Ints w' w'.heap.size A1 n1 L1 ∧ Ints w' w'.heap.size A2 n2 L2 ∧
      n1 ≤ 100000 ∧ n2 ≤ 100000 ∧ (∀ (j : Nat) (x : Int), L1[j]? = some x → ∃ a : Nat, x = a ∧ a < M ∧ actB s t E (hd (rv a)) = true ∧ admB hd rv X H a = true) ∧ (∀ (j : Nat) (x : Int), L2[j]? = some x → ∃ u : Nat, x = u ∧ u < N ∧ actB s t E u = true ∧ downs fst hd rv X H u = []) := by
  have hM := hG.nM; have hN := hG.nN
  refine (may_is N M s t K Q fst hd rv ai cp bk X E H w hG hI hQ hS).mono fun e w' h => ?_
  obtain ⟨A1, c1, A2, c2, he, hx⟩ := h
  have hm1 : ∀ a, a ∈ mayA fst hd rv X H (selTo (actB s t E) N) → a < M ∧ actB s t E (hd (rv a)) = true ∧ admB hd rv X H a = true := fun a ha => (mayA_mem hG.g).1 ha
  have hm2 : ∀ u, u ∈ mayV fst hd rv X H (selTo (actB s t E) N) → u < N ∧ actB s t E u = true ∧ downs fst hd rv X H u = [] := fun u hu => mayV_mem.1 hu
  have hl1 : (mayA fst hd rv X H (selTo (actB s t E) N)).length ≤ M := by
    rw [mayA_sel hG.g N (Nat.le_refl _), hG.g.fN]
    exact sel_len _ _
  have hl2 : (mayV fst hd rv X H (selTo (actB s t E) N)).length ≤ N := Nat.le_trans mayV_len (sel_len _ _)
  generalize mayA fst hd rv X H (selTo (actB s t E) N) = l1 at *
  generalize mayV fst hd rv X H (selTo (actB s t E) N) = l2 at *
  unfold mayR at hx
  rw [nvs_lvs, nvs_lvs] at hx
  refine ⟨A1, A2, l1.length, c1, l2.length, c2, _, _, he, hx.bel, hx.held.ints (i := 0) rfl (by rw [List.length_map]), hx.held.ints (i := 1) rfl (by rw [List.length_map]), by omega, by omega, fun j x hj => ?_, fun j x hj => ?_⟩
  · rw [List.getElem?_map, Option.map_eq_some_iff] at hj
    obtain ⟨a, ha, rfl⟩ := hj
    exact ⟨a, rfl, hm1 a (List.mem_of_getElem? ha)⟩
  · rw [List.getElem?_map, Option.map_eq_some_iff] at hj
    obtain ⟨a, ha, rfl⟩ := hj
    exact ⟨a, rfl, hm2 a (List.mem_of_getElem? ha)⟩
theorem push7_is {N M s t a : Nat} {K : CsrS} {Q : PreS} {fst hd rv ai : Nat → Nat} {cp : Nat → Int} {bk : Nat → Bool} {X E H : List Int} {w : World} (hG : PNet N M s t fst hd rv ai cp bk) (hI : PIn w w.heap.size N M K fst hd rv ai cp bk)
    (hQ : StIn w w.heap.size M N N Q X E H) (hS : StIs N M s t hd rv cp X E H) (ha : a < M) (h1 : actB s t E (hd (rv a)) = true) (h2 : admB hd rv X H a = true) :
    Calls Try.prog 25 #[csrW N M s t K, preW M N N Q, .int .i64 (a : Int)] w fun e w' => ∃ Q', e = .returned (.tuple #[preW M N N Q', .int .i64 (pushD hd rv X E a), .int .i64 0]) ∧ Below w.heap.size w w' ∧ StIn w' w'.heap.size M N N Q' (mvX rv X a (pushD hd rv X E a)) (mvE hd rv E a (pushD hd rv X E a)) H ∧ StOff w.heap.size Q' := by
  have hc : pushC M s t hd rv X E H (a : Int) = 0 := by
    unfold pushC
    rw [if_neg (fun h => h ⟨by omega, by omega⟩)]
    simp only [Int.toNat_natCast, h1, h2, Bool.and_self, if_true]
  have hs : pushS M s t hd rv X E H (a : Int) = (pushD hd rv X E a, mvX rv X a (pushD hd rv X E a), mvE hd rv E a (pushD hd rv X E a), H) := by
    unfold pushS
    rw [hc]
    rfl
  have := push_is N M s t K Q fst hd rv ai cp bk X E H (a : Int) w hG hI hQ hS
  rw [hs, hc] at this
  refine this.mono fun e w' h => ?_
  obtain ⟨Q', he, hx⟩ := h
  dsimp only at he hx
  have l1 := mvX_len (rv := rv) (X := X) (a := a) (d := pushD hd rv X E a); have l2 := mvE_len (hd := hd) (rv := rv) (E := E) (a := a) (d := pushD hd rv X E a); have l3 := hS.lh
  rw [hS.bal.1] at l1
  rw [hS.le] at l2
  rw [l1, l2, l3] at he hx
  exact ⟨Q', he, hx.bel, hx.st l1 l2 l3, hx.off⟩
theorem lift7_is {N M s t u : Nat} {K : CsrS} {Q : PreS} {fst hd rv ai : Nat → Nat} {cp : Nat → Int} {bk : Nat → Bool} {X E H : List Int} {w : World} (hG : PNet N M s t fst hd rv ai cp bk) (hI : PIn w w.heap.size N M K fst hd rv ai cp bk)
    (hQ : StIn w w.heap.size M N N Q X E H) (hS : StIs N M s t hd rv cp X E H) (hu : u < N) (h1 : actB s t E u = true) (h2 : downs fst hd rv X H u = []) :
    Calls Try.prog 26 #[csrW N M s t K, preW M N N Q, .int .i64 (u : Int)] w fun e w' => ∃ Q', e = .returned (.tuple #[preW M N N Q', .int .i64 0]) ∧ Below w.heap.size w w' ∧ StIn w' w'.heap.size M N N Q' X E (H.set u (lowV fst hd X H u + 1)) ∧ StOff w.heap.size Q' := by
  have hc : liftC N s t fst hd rv X E H (u : Int) = 0 := by
    unfold liftC
    rw [if_neg (fun h => h ⟨by omega, by omega⟩)]
    unfold downs at h2
    simp only [Int.toNat_natCast, h1, h2, List.isEmpty_nil, Bool.and_self, if_true]
  have hs : liftS N s t fst hd rv X E H (u : Int) = (X, E, H.set u (lowV fst hd X H u + 1)) := by
    unfold liftS
    rw [hc]
    rfl
  have := lift_is N M s t K Q fst hd rv ai cp bk X E H (u : Int) w hG hI hQ hS
  rw [hs, hc] at this
  refine this.mono fun e w' h => ?_
  obtain ⟨Q', he, hx⟩ := h
  dsimp only at he hx
  have l1 := hS.bal.1; have l2 := hS.le; have l3 : (H.set u (lowV fst hd X H u + 1)).length = N := by rw [List.length_set]; exact hS.lh
  rw [l1, l2, l3] at he hx
  exact ⟨Q', he, hx.bel, hx.st l1 l2 l3, hx.off⟩
/-- What Begin answers. -/
theorem begin7_is {N M s t : Nat} {K : CsrS} {fst hd rv ai : Nat → Nat} {cp : Nat → Int} {bk : Nat → Bool} {w : World} (hG : PNet N M s t fst hd rv ai cp bk) (hI : PIn w w.heap.size N M K fst hd rv ai cp bk) :
    Calls Try.prog 22 #[csrW N M s t K] w fun e w' => ∃ (Q : PreS) (X E H : List Int), e = .returned (preW M N N Q) ∧ Below w.heap.size w w' ∧ StIn w' w'.heap.size M N N Q X E H ∧ StIs N M s t hd rv cp X E H := by
  have hb := beg_ok hG (k := fst (s + 1) - fst s) (by have := hG.g.mono s hG.hs; omega)
  refine (begin_is N M s t K fst hd rv ai cp bk w hG hI).mono fun e w' h => ?_
  obtain ⟨Q, he, hx⟩ := h
  exact ⟨Q, _, _, _, he, hx.bel, hx.st hb.bal.1 hb.le hb.lh, hb⟩
/-- The numbers of a right state lie within their types. -/
theorem st_inR {N M s t : Nat} {fst hd rv ai : Nat → Nat} {cp : Nat → Int} {bk : Nat → Bool} {X E H : List Int} (hG : PNet N M s t fst hd rv ai cp bk) (hS : StIs N M s t hd rv cp X E H) : ∀ x ∈ H, InR x := by
  intro x hx
  obtain ⟨v, hv, rfl⟩ := List.mem_iff_getElem.1 hx
  have hl := hS.lh; have hN := hG.nN
  have hb := hS.bnd v (by omega)
  have he : hOf H v = H[v] := by unfold hOf; rw [List.getElem?_eq_getElem hv]; rfl
  rw [he] at hb
  unfold InR
  omega
end Go.Proofs.Ytanifbofjecpmaa
