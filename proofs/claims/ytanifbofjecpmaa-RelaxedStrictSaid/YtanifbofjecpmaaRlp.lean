/- Layer 9, plainly: sound states, moves, what may be moved, and that sound states stay sound. -/
import Derived.Test.YtanifbofjecpmaaPrep
namespace Go.Proofs.Ytanifbofjecpmaa
open Go.RowKit
set_option maxRecDepth 100000

/-- A sound state. -/
structure SndIs (N M s t : Nat) (hd rv : Nat → Nat) (cp : Nat → Int) (X E H : List Int) : Prop where
  bal : Bal M rv cp X
  le : E.length = N
  lh : H.length = N
  exc : ∀ v, v < N → hOf E v = exT M hd rv cp X v
  neg : ∀ v, v < N → v ≠ s → 0 ≤ hOf E v
  src : hOf H s = N
  snk : hOf H t = 0
  bnd : ∀ v, v < N → 0 ≤ hOf H v ∧ hOf H v ≤ 2 * N
/-- A move. -/
structure EvS where
  who : Int
  what : Int
  u : Int
  arc : Int
  d : Int
  h : Int
  low : Int
abbrev evW (e : EvS) : Value := .agg #[.int .i64 e.who, .int .u8 e.what, .int .i64 e.u, .int .i64 e.arc, .int .i64 e.d, .int .i64 e.h, .int .i64 e.low]
/-- The numbers of a move lie within their types. -/
structure EvIn (e : EvS) : Prop where
  who : InR e.who
  what : 0 ≤ e.what ∧ e.what < 256
  u : InR e.u
  arc : InR e.arc
  d : InR e.d
  h : InR e.h
  low : InR e.low

section
variable {N M s t : Nat} {fst hd rv ai : Nat → Nat} {cp : Nat → Int} {bk : Nat → Bool} {X E H : List Int} {e : EvS}
/-- Whether u is a vertex that may be pushed from, and lifted. -/
def isV (N s t : Nat) (u : Int) : Prop := (0 ≤ u ∧ u < N) ∧ u ≠ s ∧ u ≠ t
instance (u : Int) : Decidable (isV N s t u) := by unfold isV; infer_instance
def pushFits (X E H : List Int) (e : EvS) : Prop := 1 ≤ e.d ∧ e.d ≤ hOf E e.u.toNat ∧ e.d ≤ hOf X e.arc.toNat ∧ e.h = hOf H e.u.toNat ∧ e.low < e.h
instance : Decidable (pushFits X E H e) := by unfold pushFits; infer_instance
def liftFits (N : Nat) (H : List Int) (e : EvS) : Prop := hOf H e.u.toNat < e.h ∧ e.h ≤ 2 * N
instance : Decidable (liftFits N H e) := by unfold liftFits; infer_instance
def inRow (fst : Nat → Nat) (e : EvS) : Prop := (fst e.u.toNat : Int) ≤ e.arc ∧ e.arc < fst (e.u.toNat + 1)
instance : Decidable (inRow fst e) := by unfold inRow; infer_instance
/-- The check of a push, of a lift. -/
def chkP (fst : Nat → Nat) (X E H : List Int) (e : EvS) : Int := if inRow fst e then (if pushFits X E H e then 0 else 30) else 2
def chkL (N : Nat) (H : List Int) (e : EvS) : Int := if liftFits N H e then 0 else 30
/-- What is wrong with a move. -/
def legI (N s t : Nat) (fst : Nat → Nat) (X E H : List Int) (e : EvS) : Int :=
  if isV N s t e.u then (if e.what = 1 then chkP fst X E H e else if e.what = 2 then chkL N H e else 2) else 2
/-- What comes of a move. -/
def movX (rv : Nat → Nat) (X : List Int) (e : EvS) : List Int := if e.what = 2 then X else mvX rv X e.arc.toNat e.d
def movE (hd rv : Nat → Nat) (E : List Int) (e : EvS) : List Int := if e.what = 2 then E else mvE hd rv E e.arc.toNat e.d
def movH (H : List Int) (e : EvS) : List Int := if e.what = 2 then H.set e.u.toNat e.h else H

/-- The state behind a move, or as it was. -/
def nxX (N s t : Nat) (fst rv : Nat → Nat) (X E H : List Int) (e : EvS) : List Int := if legI N s t fst X E H e = 0 then movX rv X e else X
def nxE (N s t : Nat) (fst hd rv : Nat → Nat) (X E H : List Int) (e : EvS) : List Int := if legI N s t fst X E H e = 0 then movE hd rv E e else E
def nxH (N s t : Nat) (fst : Nat → Nat) (X E H : List Int) (e : EvS) : List Int := if legI N s t fst X E H e = 0 then movH H e else H

theorem legI_or : legI N s t fst X E H e = 0 ∨ legI N s t fst X E H e = 2 ∨ legI N s t fst X E H e = 30 := by
  unfold legI chkP chkL
  repeat' split
  all_goals simp
/-- A push that may be. -/
theorem legI_push (h : legI N s t fst X E H e = 0) (hw : e.what = 1) : isV N s t e.u ∧ inRow fst e ∧ pushFits X E H e := by
  unfold legI chkP at h
  by_cases h1 : isV N s t e.u
  · rw [if_pos h1, if_pos hw] at h
    by_cases h2 : inRow fst e
    · rw [if_pos h2] at h
      by_cases h3 : pushFits X E H e
      · exact ⟨h1, h2, h3⟩
      · rw [if_neg h3] at h; cases h
    · rw [if_neg h2] at h; cases h
  · rw [if_neg h1] at h; cases h
theorem legI_lift (h : legI N s t fst X E H e = 0) (hw : e.what = 2) : isV N s t e.u ∧ liftFits N H e := by
  unfold legI chkL at h
  by_cases h1 : isV N s t e.u
  · rw [if_pos h1, if_neg (by omega), if_pos hw] at h
    by_cases h3 : liftFits N H e
    · exact ⟨h1, h3⟩
    · rw [if_neg h3] at h; cases h
  · rw [if_neg h1] at h; cases h
theorem legI_what (h : legI N s t fst X E H e = 0) : e.what = 1 ∨ e.what = 2 := by
  unfold legI at h
  split at h
  · by_cases h1 : e.what = 1
    · exact .inl h1
    · by_cases h2 : e.what = 2
      · exact .inr h2
      · rw [if_neg h1, if_neg h2] at h; cases h
  · cases h
/-- Where a push of u goes: the vertex, the arc. -/
theorem push_lies (hG : PNet N M s t fst hd rv ai cp bk) (hv : isV N s t e.u) (hr : inRow fst e) : ∃ u a : Nat, e.u = u ∧ e.arc = a ∧ u < N ∧ u ≠ s ∧ u ≠ t ∧ a < M ∧ fst u ≤ a ∧ a < fst (u + 1) ∧ hd (rv a) = u := by
  obtain ⟨⟨h1, h2⟩, h3, h4⟩ := hv
  obtain ⟨u, hu⟩ : ∃ u : Nat, e.u = u := ⟨e.u.toNat, by omega⟩
  unfold inRow at hr
  rw [hu] at hr h2 h3 h4
  simp only [Int.toNat_natCast] at hr
  obtain ⟨a, ha⟩ : ∃ a : Nat, e.arc = a := ⟨e.arc.toNat, by omega⟩
  rw [ha] at hr
  have hfl := hG.g.fle (v := u + 1) (by omega)
  exact ⟨u, a, hu, ha, by omega, by omega, by omega, by omega, by omega, by omega, hG.g.tail u a (by omega) (by omega) (by omega)⟩
theorem SndIs.push (h : SndIs N M s t hd rv cp X E H) (hG : PNet N M s t fst hd rv ai cp bk) {a : Nat} (ha : a < M) {d : Int} (d0 : 0 ≤ d) (d1 : d ≤ hOf X a) (d2 : d ≤ hOf E (hd (rv a))) :
    SndIs N M s t hd rv cp (mvX rv X a d) (mvE hd rv E a d) H := by
  have hx := exc_mv h.bal.1 h.le hG h.exc ha d
  refine ⟨bal_mv h.bal hG ha d0 d1, by rw [mvE_len]; exact h.le, h.lh, hx, fun v hv hvs => ?_, h.src, h.snk, h.bnd⟩
  rw [mvE_at hG h.le ha]
  have := h.neg v hv hvs
  by_cases e1 : v = hd (rv a)
  · subst e1
    rw [if_neg (hG.nol a ha), if_pos rfl]
    omega
  · rw [if_neg e1]
    split <;> omega
theorem SndIs.lift (h : SndIs N M s t hd rv cp X E H) {u : Nat} (hu : u < N) (hs : u ≠ s) (ht : u ≠ t) {x : Int} (h0 : 0 ≤ x) (h1 : x ≤ 2 * N) : SndIs N M s t hd rv cp X E (H.set u x) := by
  refine ⟨h.bal, h.le, by simp [h.lh], h.exc, h.neg, ?_, ?_, fun v hv => ?_⟩
  · rw [hOf_put (by rw [h.lh]; exact hu), if_neg hs]; exact h.src
  · rw [hOf_put (by rw [h.lh]; exact hu), if_neg ht]; exact h.snk
  · rw [hOf_put (by rw [h.lh]; exact hu)]
    split
    · exact ⟨h0, h1⟩
    · exact h.bnd v hv
/-- A sound state stays sound. -/
theorem SndIs.move (h : SndIs N M s t hd rv cp X E H) (hG : PNet N M s t fst hd rv ai cp bk) (hl : legI N s t fst X E H e = 0) :
    SndIs N M s t hd rv cp (movX rv X e) (movE hd rv E e) (movH H e) := by
  rcases legI_what hl with hw | hw
  · obtain ⟨hv, hr, hp⟩ := legI_push hl hw
    obtain ⟨u, a, hu, ha, h1, h2, h3, h4, h5, h6, h7⟩ := push_lies hG hv hr
    unfold movX movE movH
    rw [if_neg (by omega), if_neg (by omega), if_neg (by omega), ha]
    obtain ⟨p1, p2, p3, p4, p5⟩ := hp
    rw [hu] at p2
    rw [ha] at p3
    simp only [Int.toNat_natCast] at p2 p3 ⊢
    exact h.push hG h4 (by omega) p3 (by rw [h7]; exact p2)
  · obtain ⟨hv, hp⟩ := legI_lift hl hw
    obtain ⟨⟨h1, h2⟩, h3, h4⟩ := hv
    unfold movX movE movH
    rw [if_pos hw, if_pos hw, if_pos hw]
    have := h.bnd e.u.toNat (by omega)
    exact h.lift (by omega) (by omega) (by omega) (by have := hp.1; omega) hp.2
/-- Heights do not fall. -/
theorem SndIs.high (h : SndIs N M s t hd rv cp X E H) (hl : legI N s t fst X E H e = 0) (v : Nat) : hOf H v ≤ hOf (movH H e) v := by
  unfold movH
  split
  · rename_i hw
    obtain ⟨hv, hp⟩ := legI_lift hl hw
    obtain ⟨⟨h1, h2⟩, h3, h4⟩ := hv
    rw [hOf_put (by rw [h.lh]; omega)]
    split
    · rename_i e1; subst e1; have := hp.1; omega
    · omega
  · omega
/-- Nobody has less than he had but whom it comes from. -/
theorem SndIs.less (h : SndIs N M s t hd rv cp X E H) (hG : PNet N M s t fst hd rv ai cp bk) (hl : legI N s t fst X E H e = 0) {v : Nat} (hv : (v : Int) ≠ e.u) : hOf E v ≤ hOf (movE hd rv E e) v := by
  unfold movE
  split
  · omega
  · rename_i hw
    have hw1 : e.what = 1 := by rcases legI_what hl with h | h <;> omega
    obtain ⟨hvv, hr, hp⟩ := legI_push hl hw1
    obtain ⟨u, a, hu, ha, h1, h2, h3, h4, h5, h6, h7⟩ := push_lies hG hvv hr
    rw [ha]
    simp only [Int.toNat_natCast]
    rw [mvE_at hG h.le h4, h7, if_neg (show v ≠ u by omega)]
    have := hp.1
    split <;> omega
theorem sumN_pick {N : Nat} {k : Nat} (hk : k < N) (c : Int) : sumN (fun v => if k = v then c else 0) N = c := by
  have h := sumN_upd (f := fun _ => 0) (g := fun v => if k = v then c else 0) (n := N) (a := k) (d := c) hk (fun j _ hj => if_neg fun e => hj e.symm) (by simp)
  rw [h, sumN_zero]
  omega
/-- All excesses together are 0. -/
theorem SndIs.sum (h : SndIs N M s t hd rv cp X E H) (hG : PNet N M s t fst hd rv ai cp bk) : sumN (hOf E) N = 0 := by
  rw [sumN_congr (g := exT M hd rv cp X) fun v hv => h.exc v hv]
  unfold exT
  rw [sumN_swap]
  have h1 : sumN (fun j => sumN (fun v => if hd (rv j) = v then hOf X j - cp j else 0) N) M = sumN (fun j => hOf X j - cp j) M :=
    sumN_congr fun j hj => sumN_pick (hG.mN hj) _
  have h1' : sumN (fun j => sumN (fun i => if hd (rv j) = i then hOf X j - cp j else 0) N) M = sumN (fun j => hOf X j - cp j) M := h1
  rw [h1']
  have h2 : sumN (fun j => hOf X (rv j) - cp (rv j)) M = sumN (fun j => hOf X j - cp j) M := sumN_inv hG.g.rvl hG.g.rvv fun j => hOf X j - cp j
  have h3 : sumN (fun j => hOf X (rv j) - cp (rv j)) M = sumN (fun j => 0 - (hOf X j - cp j)) M := sumN_congr fun j hj => by have := (h.bal.2 j hj).2; omega
  rw [sumN_sub (fun _ => 0) (fun j => hOf X j - cp j), sumN_zero] at h3
  omega
/-- Whatever is asked for. -/
theorem SndIs.next (h : SndIs N M s t hd rv cp X E H) (hG : PNet N M s t fst hd rv ai cp bk) (e : EvS) : SndIs N M s t hd rv cp (nxX N s t fst rv X E H e) (nxE N s t fst hd rv X E H e) (nxH N s t fst X E H e) := by
  unfold nxX nxE nxH
  split
  · exact h.move hG ‹_›
  · exact h
end

end Go.Proofs.Ytanifbofjecpmaa
