/- Layer 9: how each statement begins: any net, made right, its residual network and its first state. -/
import Derived.Test.YtanifbofjecpmaaRbg
import Derived.Test.YtanifbofjecpmaaSomes
import Derived.Test.YtanifbofjecpmaaRsm
namespace Go.Proofs.Ytanifbofjecpmaa
open Go.RowKit Go.Shelf
set_option maxRecDepth 100000

/-- A right net's residual network and its first state, with all of S's arcs full. -/
def RetB (N M s t : Nat) (w : World) (e : Ending) (w' : World) : Prop :=
  ∃ (x0 : Nat) (K : CsrS) (Q : PreS) (fst hd rv ai : Nat → Nat) (cp : Nat → Int) (bk : Nat → Bool) (X E : List Int), e = .returned (.tuple #[csrW N M s t K, preW M N N Q]) ∧ PNet N M s t fst hd rv ai cp bk ∧ PIn w' x0 N M K fst hd rv ai cp bk ∧
    Hx w' w' x0 (pstR M N N Q X E (begH N s)) ∧ SndIs N M s t hd rv cp X E (begH N s) ∧ w.heap.size ≤ x0 ∧ Below w.heap.size w w'
/-- The call returned a net of which begun makes such a state. -/
def RetSome (N M s t : Nat) (w : World) (e : Ending) (w' : World) : Prop :=
  ∃ v, e = .returned v ∧ Below w.heap.size w w' ∧ ∀ W, Below w'.heap.size w' W → Calls Try.prog 8 #[v] W (RetB N M s t W)
theorem some_begun (N S T : Int) (A : Option Addr) (n c v q : Nat) (l : List ArcN) (w : World) (hA : Arcs w w.heap.size A n l) (hf : FitsAll l) (hnc : n ≤ c) (hv : 2 ≤ v) (hv' : v ≤ 1000) (hq : q ≤ 1000) :
    ∃ N1 M s t : Nat, ∀ W, Below w.heap.size w W → Calls Try.prog 9 #[.agg #[.int .i64 N, .int .i64 S, .int .i64 T, .slice A n c], .int .i64 v, .int .i64 q] W (RetSome N1 M s t W) := by
  obtain ⟨N1, hN1, hN2, hN3, hck, hln, hmem⟩ := some_net N S T v q l hv hv' hq
  have hso := fun W (hW : Below w.heap.size w W) => some_any N S T A n c v q l W (hA.on hW) hf hnc hv hv' hq
  rw [hN1] at hso hck hln hmem
  obtain ⟨-, -, -, -, hs0, hs1, ht0, ht1, hst, -, -⟩ := ends_in hck
  obtain ⟨s, hs⟩ := Int.eq_ofNat_of_zero_le hs0
  obtain ⟨t, ht⟩ := Int.eq_ofNat_of_zero_le ht0
  rw [hs, ht] at hso hck
  generalize someL (N1 : Int) q l = l1 at *
  refine ⟨N1, firstOf l1 N1, s, t, fun W hW => (hso W hW).mono ?_⟩
  rintro e w1 ⟨A1, n1, c1, rfl, o1, hl1, B1⟩
  refine ⟨_, rfl, B1, fun W' hb => ?_⟩
  have a1 : Arcs w1 w1.heap.size A1 n1 l1 := arcs_own o1 hl1
  refine (begun_is N1 s t A1 n1 c1 l1 W' (a1.on hb) hck fun a ha => by have := hmem a ha; omega).mono fun e w' h => ?_
  obtain ⟨x0, K, F, H, R, C, Ai, B, Q, X, he, hL, hI, hX, hR, hx0, hB⟩ := h
  exact ⟨x0, K, Q, firstOf l1, hdOf H, hdOf R, hdOf Ai, hOf C, bOf B, X, _, he, (hL.pnet hck).1, hL.pin hck hI, hR, full_ok hL hck hX, hx0, hB⟩
theorem begH_at {N s v : Nat} (hs : s < N) : hOf (begH N s) v = if s = v then (N : Int) else 0 := by
  unfold begH
  rw [hOf_put (by simp; omega), hOf_rep]
theorem celn_far {w : World} {p q : Addr} {u : Value} (h : p.block ≠ q.block) : (w.setCell q u).cell? p = w.cell? p := by
  simp only [World.cell?]
  rw [Below.heap_setCell w q u p.block h]
/-- Rows of numbers stay where three slices are stored anew. -/
theorem ints_far3 {w : World} {x n g : Nat} {A : Option Addr} {L : List Int} {t : TypeId} {A0 A1 A2 : Option Addr} {n0 n1 n2 c0 c1 c2 : Nat} {y0 y1 y2 : Value} (h : Ints w x A n L) (K : Blk w g t #[.slice A0 n0 c0, .slice A1 n1 c1, .slice A2 n2 c2]) :
    Ints (put3 w g y0 y1 y2) x A n L := by
  refine ⟨h.1, fun hn => ?_⟩
  obtain ⟨b, off, e, hb, hc⟩ := h.2 hn
  have hne : b ≠ g := by
    rintro rfl
    obtain ⟨a, ha⟩ : ∃ a, L[0]? = some a := ⟨_, List.getElem?_eq_getElem (by have := h.1; omega)⟩
    have h0 := hc 0 a ha 0 (.int .i64 a) rfl
    rw [K.cell] at h0
    obtain ⟨j, hj⟩ : ∃ j, off + 0 * 1 + 0 = j := ⟨_, rfl⟩
    rw [hj] at h0
    match j, h0 with
    | 0, h0 => cases h0
    | 1, h0 => cases h0
    | 2, h0 => cases h0
    | j + 3, h0 => cases h0
  exact ⟨b, off, e, hb, fun k a ha j u hu => by
    rw [celn_far hne, celn_far hne, celn_far hne]
    exact hc k a ha j u hu⟩
/-- A statement's loop: the network in its box, the state in its own. -/
structure LpI (w2 : World) (N M s t : Nat) (K : CsrS) (hd rv : Nat → Nat) (cp : Nat → Int) (gC gP : Nat) (Q : PreS) (X E H : List Int) (W : World) : Prop where
  bel : Below w2.heap.size w2 W
  c : Blk W gC 32 #[.int .i64 (N : Int), .int .i64 (s : Int), .int .i64 (t : Int), .slice K.AF (N + 1) K.cF, .slice K.AH M K.cH, .slice K.AR M K.cR, .slice K.AC M K.cC, .slice K.AA M K.cA, .slice K.AB M K.cB]
  p : Blk W gP 29 #[.slice Q.AX M Q.cX, .slice Q.AE N Q.cE, .slice Q.AH N Q.cH]
  st : StIn W W.heap.size M N N Q X E H
  snd : SndIs N M s t hd rv cp X E H
section
variable {w2 W W' : World} {N M s t : Nat} {K : CsrS} {hd rv : Nat → Nat} {cp : Nat → Int} {gC gP : Nat} {Q Q' : PreS} {X E H X' E' H' : List Int}
theorem LpI.on (h : LpI w2 N M s t K hd rv cp gC gP Q X E H W) (hb : Below W.heap.size W W') : LpI w2 N M s t K hd rv cp gC gP Q X E H W' :=
  ⟨below_step h.bel hb, h.c.below hb h.c.lt, h.p.below hb h.p.lt, h.st.on hb, h.snd⟩
/-- The state gives way to another. -/
theorem LpI.put (h : LpI w2 N M s t K hd rv cp gC gP Q X E H W) (hne : gC ≠ gP) (hg : w2.heap.size ≤ gP) (hQ : StIn W W.heap.size M N N Q' X' E' H') (hS : SndIs N M s t hd rv cp X' E' H') :
    LpI w2 N M s t K hd rv cp gC gP Q' X' E' H' (put3 W gP (.slice Q'.AX M Q'.cX) (.slice Q'.AE N Q'.cE) (.slice Q'.AH N Q'.cH)) :=
  ⟨below_put3 h.bel hg, h.c.far3 hne, h.p.put3, ⟨by simpa using ints_far3 hQ.iX h.p, by simpa using ints_far3 hQ.iE h.p, by simpa using ints_far3 hQ.iH h.p⟩, hS⟩
end
end Go.Proofs.Ytanifbofjecpmaa
