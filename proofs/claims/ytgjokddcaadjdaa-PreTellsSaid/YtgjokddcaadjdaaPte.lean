/- PreTells: the walk. -/
import Derived.Test.YtgjokddcaadjdaaPcq
import Derived.Test.YtgjokddcaadjdaaPbg
import Derived.Test.YtgjokddcaadjdaaPrt
import Derived.Test.YtgjokddcaadjdaaPawa
import Derived.Test.YtgjokddcaadjdaaSomes
import Derived.Test.YtgjokddcaadjdaaOpen3
namespace Go.Proofs.Ytgjokddcaadjdaa
open Go.RowKit Go.Shelf
set_option maxRecDepth 100000

/-! A state's rows lie elsewhere than a block. -/
theorem RdBy.farN {α : Type} {f : α → List Value} {size : Nat} {w : World} {B n : Nat} {A : Option Addr} {L : List α} (h : RdBy f size w B A n L) {g : Nat} (hg : 0 < n → ∀ a, A = some a → a.block ≠ g) (i : Nat) (u : Value) : RdBy f size (w.setCell ⟨g, i, none⟩ u) B A n L :=
  ⟨h.1, fun hn => by
    obtain ⟨b, off, e, hb, hc⟩ := h.2 hn
    refine ⟨b, off, e, hb, fun k a ha j u' hu => ?_⟩
    rw [← hc k a ha j u' hu]
    exact World.cell?_of_block (Below.heap_setCell w ⟨g, i, none⟩ u b (hg hn _ e))⟩
structure PFar (g nX nE nH : Nat) (Q : PreS) : Prop where
  x : 0 < nX → ∀ a, Q.AX = some a → a.block ≠ g
  e : 0 < nE → ∀ a, Q.AE = some a → a.block ≠ g
  h : 0 < nH → ∀ a, Q.AH = some a → a.block ≠ g
section
variable {w : World} {g x z nX nE nH : Nat} {Q : PreS} {X E H : List Int}
theorem PFar.low (h : StIn w x nX nE nH Q X E H) (hg : x ≤ g) : PFar g nX nE nH Q := by
  have key : ∀ {n : Nat} {A : Option Addr} {L : List Int}, Ints w x A n L → 0 < n → ∀ a, A = some a → a.block ≠ g := fun hi hn a e => by
    obtain ⟨b, off, e', hb, -⟩ := hi.2 hn
    rw [e'] at e
    injection e with e
    subst e
    show b ≠ g
    omega
  exact ⟨key h.iX, key h.iE, key h.iH⟩
theorem PFar.high (h : PreAbv z Q) (hg : g < z) : PFar g nX nE nH Q := by
  have key : ∀ {A : Option Addr}, Abv z A → ∀ a, A = some a → a.block ≠ g := fun ha a e => by
    have : z ≤ a.block := ha a e
    omega
  exact ⟨fun _ => key h.aX, fun _ => key h.aE, fun _ => key h.aH⟩
theorem StIn.far3 (h : StIn w w.heap.size nX nE nH Q X E H) (hf : PFar g nX nE nH Q) (u v y : Value) : StIn (put3 w g u v y) (put3 w g u v y).heap.size nX nE nH Q X E H := by
  have hs : (put3 w g u v y).heap.size = w.heap.size := by simp
  rw [hs]
  exact ⟨((h.iX.farN hf.x 0 u).farN hf.x 1 v).farN hf.x 2 y, ((h.iE.farN hf.e 0 u).farN hf.e 1 v).farN hf.e 2 y, ((h.iH.farN hf.h 0 u).farN hf.h 1 v).farN hf.h 2 y⟩
end

/-- A push, or a lift, that may be done: the same numbers by either. -/
theorem push_both {N M s t a : Nat} {K : CsrS} {fst hd rv ai : Nat → Nat} {cp : Nat → Int} {bk : Nat → Bool} {X E H : List Int} (hG : PNet N M s t fst hd rv ai cp bk) (hS : StIs N M s t hd rv cp X E H) (ha : a < M) (h1 : actB s t E (hd (rv a)) = true) (h2 : admB hd rv X H a = true) :
    ∃ X' E' H' d, StIs N M s t hd rv cp X' E' H' ∧
      (∀ (Q : PreS) (w : World), PIn w w.heap.size N M K fst hd rv ai cp bk → StIn w w.heap.size M N N Q X E H → Calls Try.prog 22 #[csrW N M s t K, preW M N N Q, .int .i64 (a : Int)] w fun e w' => ∃ Q', e = .returned (.tuple #[preW M N N Q', .int .i64 d, .int .i64 0]) ∧ Hx w w' w.heap.size (pstR M N N Q' X' E' H')) ∧
      (∀ (Q : PreS) (w : World), PIn w w.heap.size N M K fst hd rv ai cp bk → StIn w w.heap.size M N N Q X E H → Calls Try.prog 23 #[csrW N M s t K, preW M N N Q, .int .i64 (a : Int)] w fun e w' => ∃ Q', e = .returned (.tuple #[preW M N N Q', .int .i64 d, .int .i64 0]) ∧ Hx w w' w.heap.size (pstR M N N Q' X' E' H')) := by
  have hc : pushC M s t hd rv X E H (a : Int) = 0 := by
    unfold pushC
    rw [if_neg (fun h => h ⟨by omega, by omega⟩)]
    simp only [Int.toNat_natCast, h1, h2, Bool.and_self, if_true]
  have hs : pushS M s t hd rv X E H (a : Int) = (pushD hd rv X E a, mvX rv X a (pushD hd rv X E a), mvE hd rv E a (pushD hd rv X E a), H) := by
    unfold pushS
    rw [hc]
    rfl
  have hnx : Nx N M s t fst hd rv (X, E, H) (mvX rv X a (pushD hd rv X E a), mvE hd rv E a (pushD hd rv X E a), H) := .inl ⟨a, ha, h1, h2, rfl⟩
  have hok : StIs N M s t hd rv cp (mvX rv X a (pushD hd rv X E a)) (mvE hd rv E a (pushD hd rv X E a)) H := hnx.ok hG hS
  have l1 := hok.bal.1; have l2 := hok.le; have l3 := hok.lh
  refine ⟨_, _, _, pushD hd rv X E a, hok, fun Q w hI hQ => ?_, fun Q w hI hQ => ?_⟩
  · have := push_is N M s t K Q fst hd rv ai cp bk X E H (a : Int) w hG hI hQ hS
    rw [hs, hc] at this
    refine this.mono fun e w' h => ?_
    obtain ⟨Q', he, hx⟩ := h
    dsimp only at he hx
    rw [l1, l2, l3] at he hx
    exact ⟨Q', he, hx⟩
  · have := rpush_is N M s t K Q fst hd rv ai cp bk X E H (a : Int) w hG hI hQ hS
    rw [hs, hc] at this
    refine this.mono fun e w' h => ?_
    obtain ⟨Q', he, hx⟩ := h
    dsimp only at he hx
    rw [l1, l2, l3] at he hx
    exact ⟨Q', he, hx⟩
theorem lift_both {N M s t u : Nat} {K : CsrS} {fst hd rv ai : Nat → Nat} {cp : Nat → Int} {bk : Nat → Bool} {X E H : List Int} (hG : PNet N M s t fst hd rv ai cp bk) (hS : StIs N M s t hd rv cp X E H) (hu : u < N) (h1 : actB s t E u = true) (h2 : downs fst hd rv X H u = []) :
    ∃ X' E' H', StIs N M s t hd rv cp X' E' H' ∧
      (∀ (Q : PreS) (w : World), PIn w w.heap.size N M K fst hd rv ai cp bk → StIn w w.heap.size M N N Q X E H → Calls Try.prog 24 #[csrW N M s t K, preW M N N Q, .int .i64 (u : Int)] w fun e w' => ∃ Q', e = .returned (.tuple #[preW M N N Q', .int .i64 0]) ∧ Hx w w' w.heap.size (pstR M N N Q' X' E' H')) ∧
      (∀ (Q : PreS) (w : World), PIn w w.heap.size N M K fst hd rv ai cp bk → StIn w w.heap.size M N N Q X E H → Calls Try.prog 25 #[csrW N M s t K, preW M N N Q, .int .i64 (u : Int)] w fun e w' => ∃ Q', e = .returned (.tuple #[preW M N N Q', .int .i64 0]) ∧ Hx w w' w.heap.size (pstR M N N Q' X' E' H')) := by
  have hc : liftC N s t fst hd rv X E H (u : Int) = 0 := by
    unfold liftC
    rw [if_neg (fun h => h ⟨by omega, by omega⟩)]
    unfold downs at h2
    simp only [Int.toNat_natCast, h1, h2, List.isEmpty_nil, Bool.and_self, if_true]
  have hs : liftS N s t fst hd rv X E H (u : Int) = (X, E, H.set u (lowV fst hd X H u + 1)) := by
    unfold liftS
    rw [hc]
    rfl
  have hnx : Nx N M s t fst hd rv (X, E, H) (X, E, H.set u (lowV fst hd X H u + 1)) := .inr ⟨u, hu, h1, h2, rfl⟩
  have hok : StIs N M s t hd rv cp X E (H.set u (lowV fst hd X H u + 1)) := hnx.ok hG hS
  have l1 := hok.bal.1; have l2 := hok.le; have l3 := hok.lh
  refine ⟨_, _, _, hok, fun Q w hI hQ => ?_, fun Q w hI hQ => ?_⟩
  · have := lift_is N M s t K Q fst hd rv ai cp bk X E H (u : Int) w hG hI hQ hS
    rw [hs, hc] at this
    refine this.mono fun e w' h => ?_
    obtain ⟨Q', he, hx⟩ := h
    dsimp only at he hx
    rw [l1, l2, l3] at he hx
    exact ⟨Q', he, hx⟩
  · have := rlift_is N M s t K Q fst hd rv ai cp bk X E H (u : Int) w hG hI hQ hS
    rw [hs, hc] at this
    refine this.mono fun e w' h => ?_
    obtain ⟨Q', he, hx⟩ := h
    dsimp only at he hx
    rw [l1, l2, l3] at he hx
    exact ⟨Q', he, hx⟩
theorem push_lens {N M s t : Nat} {fst hd rv : Nat → Nat} {X E H : List Int} {a : Int} (hX : X.length = M) (hE : E.length = N) (hH : H.length = N) (hM : M ≤ 1000000) (hN : N ≤ 1000000) :
    (pushS M s t hd rv X E H a).2.1.length ≤ 17592186044416 ∧ (pushS M s t hd rv X E H a).2.2.1.length ≤ 17592186044416 ∧ (pushS M s t hd rv X E H a).2.2.2.length ≤ 17592186044416 := by
  have _ := fst
  unfold pushS
  split
  · simp only [mvX_len, mvE_len]; omega
  · simp
theorem lift_lens {N M s t : Nat} {fst hd rv : Nat → Nat} {X E H : List Int} {u : Int} (hX : X.length = M) (hE : E.length = N) (hH : H.length = N) (hM : M ≤ 1000000) (hN : N ≤ 1000000) :
    (liftS N s t fst hd rv X E H u).1.length ≤ 17592186044416 ∧ (liftS N s t fst hd rv X E H u).2.1.length ≤ 17592186044416 ∧ (liftS N s t fst hd rv X E H u).2.2.length ≤ 17592186044416 := by
  unfold liftS
  split
  · simp only [List.length_set]; omega
  · simp
/-- Two states that read the same, each in its box. -/
structure PairSt (g13 g14 N M s t : Nat) (hd rv : Nat → Nat) (cp : Nat → Int) (Q R : PreS) (X E H : List Int) (w : World) : Prop where
  q : Blk w g13 29 #[.slice Q.AX M Q.cX, .slice Q.AE N Q.cE, .slice Q.AH N Q.cH]
  r : Blk w g14 29 #[.slice R.AX M R.cX, .slice R.AE N R.cE, .slice R.AH N R.cH]
  sq : StIn w w.heap.size M N N Q X E H
  sr : StIn w w.heap.size M N N R X E H
  fq : PFar g13 M N N Q ∧ PFar g14 M N N Q
  fr : PFar g13 M N N R ∧ PFar g14 M N N R
  ok : StIs N M s t hd rv cp X E H
section
variable {g13 g14 N M s t : Nat} {hd rv : Nat → Nat} {cp : Nat → Int} {Q R Q' R' : PreS} {X E H X' E' H' : List Int} {w w' : World}
theorem PairSt.on (h : PairSt g13 g14 N M s t hd rv cp Q R X E H w) (hb : Below w.heap.size w w') : PairSt g13 g14 N M s t hd rv cp Q R X E H w' :=
  ⟨h.q.below hb h.q.lt, h.r.below hb h.r.lt, h.sq.on hb, h.sr.on hb, h.fq, h.fr, h.ok⟩
theorem PairSt.next (h : PairSt g13 g14 N M s t hd rv cp Q R X E H w) (ne : g13 ≠ g14) (sq : StIn w w.heap.size M N N Q' X' E' H') (sr : StIn w w.heap.size M N N R' X' E' H') (fq : PFar g13 M N N Q' ∧ PFar g14 M N N Q') (fr : PFar g13 M N N R' ∧ PFar g14 M N N R') (ok : StIs N M s t hd rv cp X' E' H') :
    PairSt g13 g14 N M s t hd rv cp Q' R' X' E' H' (put3 (put3 w g13 (.slice Q'.AX M Q'.cX) (.slice Q'.AE N Q'.cE) (.slice Q'.AH N Q'.cH)) g14 (.slice R'.AX M R'.cX) (.slice R'.AE N R'.cE) (.slice R'.AH N R'.cH)) :=
  ⟨(h.q.put3).far3 ne, (h.r.far3 (fun e => ne e.symm)).put3, (sq.far3 fq.1 _ _ _).far3 fq.2 _ _ _, (sr.far3 fr.1 _ _ _).far3 fr.2 _ _ _, fq, fr, ok⟩
end

set_option maxHeartbeats 64000000 in
theorem ptells_walk (N S T : Int) (A : Option Addr) (n c : Nat) (l : List ArcN) (AU : Option Addr) (nu cu : Nat) (U : List Int) (nX nE nH : Nat) (PQ : PreS) (XP EP HP : List Int) (a u : Int) (w : World) (hA : Arcs w w.heap.size A n l) (hf : FitsAll l) (hnc : n ≤ c) (hU : Bytes w w.heap.size AU nu U) (hUR : ∀ x ∈ U, 0 ≤ x ∧ x ≤ 255) (hcu : nu ≤ cu)
    (hP : StIn w w.heap.size nX nE nH PQ XP EP HP) (hXR : ∀ x ∈ XP, InR x) (hHR : ∀ x ∈ HP, InR x) (hnX : nX ≤ 17592186044416) (hnE : nE ≤ 17592186044416) (hnH : nH ≤ 17592186044416) :
    Calls Try.prog 3 #[.agg #[.int .i64 N, .int .i64 S, .int .i64 T, .slice A n c], .slice AU nu cu, preW nX nE nH PQ, .int .i64 a, .int .i64 u] w fun e w' => e = .returned (.bool true) ∧ Below w.heap.size w w' := by
  have hso := fun W hW => some_any N S T A n c 12 24 l W hW hf hnc (by omega) (by omega) (by omega)
  obtain ⟨N1, hN1, hN2, hN3, hck, hln, hmem⟩ := some_net N S T 12 24 l (by omega) (by omega) (by omega)
  rw [hN1] at hso hck hln hmem
  generalize S % (N1 : Int) = S1 at *
  generalize someT (N1 : Int) S T = T1 at *
  generalize someL (N1 : Int) 24 l = l1 at *
  obtain ⟨-, -, -, -, hs0, hs1, ht0, ht1, hst, -, -⟩ := ends_in hck
  obtain ⟨s, rfl⟩ := Int.eq_ofNat_of_zero_le hs0
  obtain ⟨t, rfl⟩ := Int.eq_ofNat_of_zero_le ht0
  have HSO := Lib.hid hso; have HCK := Lib.hid hck; have HU := Lib.hid hU; have HUR := Lib.hid hUR; have HPP := Lib.hid hP; have HXR := Lib.hid hXR; have HHR := Lib.hid hHR
  clear hso hck hN1 hmem hs0 hs1 ht0 ht1 hst hU hUR hP hXR hHR
  obtain ⟨APX, cPX, APE, cPE, APH, cPH⟩ := PQ
  dsimp only [preW]
  obtain ⟨w1, hw1⟩ : ∃ W, (w.alloc (.cells #[.int .i64 N, .int .i64 S, .int .i64 T, .slice A n c] 24)).alloc (.cells #[.slice APX nX cPX, .slice APE nE cPE, .slice APH nH cPH] 29) = W := ⟨_, rfl⟩
  have B1 : Below w.heap.size w w1 := by rw [← hw1]; exact (below_alloc _).alloc (by simp) _
  have HN1 := Lib.hid (show Blk w1 w.heap.size 24 #[.int .i64 N, .int .i64 S, .int .i64 T, .slice A n c] by rw [← hw1]; exact (Blk.new rfl).alloc _)
  have HP1 := Lib.hid (show Blk w1 (w.heap.size + 1) 29 #[.slice APX nX cPX, .slice APE nE cPE, .slice APH nH cPH] by rw [← hw1]; exact Blk.new (by simp))
  obtain ⟨r0, r1, r2, r3⟩ := HN1.out.at4
  have hz1 := HN1.out.lt
  go_enter Try.func3, Try.ntmps3
  go_wp2_with fail
  refine (HSO.out _ (hA.on B1)).mono ?_
  rintro e w2 ⟨A1, n1, c1, rfl, o1, hl1, B2⟩
  have HP2 := HP1.out.below B2 HP1.out.lt
  have a2 := arcs_own o1 hl1
  have Bw2 := below_step B1 B2
  clear hw1 r0 r1 r2 r3 hz1 B1 B2 o1
  go_wp2_with fail
  refine (rmake_good N1 s t A1 n1 c1 l1 w2 a2 HCK.out).mono ?_
  rintro e w3' ⟨KC, FC, HC, RC, CC, AiC, BC, rfl, hL, hI, -, B3⟩
  have hG := (hL.pnet HCK.out).1
  have hpin := hL.pin HCK.out hI
  have HP3' := HP2.below B3 HP2.lt
  have Bw3' := below_step Bw2 B3
  obtain ⟨M, hMe⟩ : ∃ M, firstOf l1 N1 = M := ⟨_, rfl⟩
  rw [hMe] at hG hpin ⊢
  generalize firstOf l1 = fst at hG hpin
  generalize hdOf HC = hd at hG hpin
  generalize hdOf RC = rv at hG hpin
  generalize hdOf AiC = ai at hG hpin
  generalize hOf CC = cp at hG hpin
  generalize bOf BC = bk at hG hpin
  obtain ⟨AF, cF, AH, cH, AR, cR, AC, cC, AA, cA, AB, cB⟩ := KC
  dsimp only [csrW]
  obtain ⟨g11, hg11⟩ : ∃ g, w3'.heap.size = g := ⟨_, rfl⟩
  obtain ⟨wc, hwc⟩ : ∃ W, w3'.alloc (.cells #[.int .i64 (N1 : Int), .int .i64 (s : Int), .int .i64 (t : Int), .slice AF (N1 + 1) cF, .slice AH M cH, .slice AR M cR, .slice AC M cC, .slice AA M cA, .slice AB M cB] 32) = W := ⟨_, rfl⟩
  obtain ⟨w3, hw3⟩ : ∃ W, wc.drew = W := ⟨_, rfl⟩
  have b3c : Below w3'.heap.size w3' w3 := by rw [← hw3, ← hwc]; exact (below_alloc _).drew
  have HC3 := Lib.hid (show Blk w3 g11 32 #[.int .i64 (N1 : Int), .int .i64 (s : Int), .int .i64 (t : Int), .slice AF (N1 + 1) cF, .slice AH M cH, .slice AR M cR, .slice AC M cC, .slice AA M cA, .slice AB M cB] by rw [← hw3, ← hwc]; exact (Blk.new hg11).drew)
  have HP3 := Lib.hid (HP3'.below b3c HP3'.lt)
  have HI3 := Lib.hid (hpin.on b3c)
  have HB3 := Lib.hid (below_step Bw3' b3c)
  have HGG := Lib.hid hG
  have hM := hG.nM; have hN := hG.nN
  have hbok := beg_ok hG (k := fst (s + 1) - fst s) (by have := hG.g.mono s hG.hs; omega)
  have hbeg := fun W (hb : Below w3.heap.size w3 W) => begin_is N1 M s t ⟨AF, cF, AH, cH, AR, cR, AC, cC, AA, cA, AB, cB⟩ fst hd rv ai cp bk W HGG.out (HI3.out.on hb)
  have hrbeg := fun W (hb : Below w3.heap.size w3 W) => rbegin_is N1 M s t ⟨AF, cF, AH, cH, AR, cR, AC, cC, AA, cA, AB, cB⟩ fst hd rv ai cp bk W HGG.out (HI3.out.on hb)
  obtain ⟨X0, hX0⟩ : ∃ X, begX fst rv cp M s (fst (s + 1) - fst s) = X := ⟨_, rfl⟩
  obtain ⟨E0, hE0⟩ : ∃ X, begE fst hd rv cp M N1 s (fst (s + 1) - fst s) = X := ⟨_, rfl⟩
  obtain ⟨H0, hH0⟩ : ∃ X, begH N1 s = X := ⟨_, rfl⟩
  rw [hX0, hE0, hH0] at hbeg hrbeg hbok
  dsimp only [csrW] at hbeg hrbeg
  have HBEG := Lib.hid hbeg; have HRBEG := Lib.hid hrbeg; have HBOK := Lib.hid hbok
  have HLX := Lib.hid hbok.bal.1; have HLE := Lib.hid hbok.le; have HLH := Lib.hid hbok.lh
  have HKEEP := Lib.hid (show ∀ W', Below w3.heap.size w3 W' → W'.cell? ⟨g11, 0, none⟩ = some (.int .i64 (N1 : Int)) ∧ W'.cell? ⟨g11, 1, none⟩ = some (.int .i64 (s : Int)) ∧ W'.cell? ⟨g11, 2, none⟩ = some (.int .i64 (t : Int)) ∧ W'.cell? ⟨g11, 3, none⟩ = some (.slice AF (N1 + 1) cF) ∧ W'.cell? ⟨g11, 4, none⟩ = some (.slice AH M cH) ∧ W'.cell? ⟨g11, 5, none⟩ = some (.slice AR M cR) ∧ W'.cell? ⟨g11, 6, none⟩ = some (.slice AC M cC) ∧ W'.cell? ⟨g11, 7, none⟩ = some (.slice AA M cA) ∧ W'.cell? ⟨g11, 8, none⟩ = some (.slice AB M cB) from fun W' hb => (HC3.out.below hb HC3.out.lt).at9)
  clear hbeg hrbeg hbok hX0 hE0 hH0 hG hpin hL hI HP3' Bw3' B3 HP2 a2 Bw2 b3c hMe HSO HN1 HP1 hA
  go_wp2_with fail
  clear hwc hg11
  refine wp_region_held_drew (S := fun W' => W'.cell? ⟨g11, 0, none⟩ = some (.int .i64 (N1 : Int)) ∧ W'.cell? ⟨g11, 1, none⟩ = some (.int .i64 (s : Int)) ∧ W'.cell? ⟨g11, 2, none⟩ = some (.int .i64 (t : Int)) ∧ W'.cell? ⟨g11, 3, none⟩ = some (.slice AF (N1 + 1) cF) ∧ W'.cell? ⟨g11, 4, none⟩ = some (.slice AH M cH) ∧ W'.cell? ⟨g11, 5, none⟩ = some (.slice AR M cR) ∧ W'.cell? ⟨g11, 6, none⟩ = some (.slice AC M cC) ∧ W'.cell? ⟨g11, 7, none⟩ = some (.slice AA M cA) ∧ W'.cell? ⟨g11, 8, none⟩ = some (.slice AB M cB)) (by kernel_rfl) (by rw [hw3]; exact HKEEP.out _ (Below.refl _ _)) (fun hS0 => ?_)
  rw [hw3] at hS0 ⊢
  clear hw3
  obtain ⟨W, hW⟩ : ∃ W, w3 = W := ⟨_, rfl⟩
  have B : Below w3.heap.size w3 W := by rw [← hW]; exact Below.refl _ _
  rw [hW] at hS0 ⊢
  clear hW
  refine ta (v := ?_) 0 51 rfl ?_ ?_
  rotate_left
  · (intro W' hSw; obtain ⟨b0, b1, b2, b3, b4, b5, b6, b7, b8⟩ := hSw; go_simp; try with_reducible rfl)
  simp only [Act.put, pa, pz, ps]
  refine ta (v := ?_) 2 53 rfl ?_ ?_
  rotate_left
  · (intro W' hSw; obtain ⟨b0, b1, b2, b3, b4, b5, b6, b7, b8⟩ := hSw; go_simp; try with_reducible rfl)
  simp only [Act.put, pa, pz, ps]
  refine (have r211 : Hid ?Tr211 := ?pr211; ?mr211)
  case mr211 =>
   refine (have r210 : Hid ?Tr210 := ?pr210; ?mr210)
   case mr210 =>
    refine (have r201 : Hid ?Tr201 := ?pr201; ?mr201)
    case mr201 =>
     refine (have r111 : Hid ?Tr111 := ?pr111; ?mr111)
     case mr111 =>
      refine (have r200 : Hid ?Tr200 := ?pr200; ?mr200)
      case mr200 =>
       refine (have r110 : Hid ?Tr110 := ?pr110; ?mr110)
       case mr110 =>
        refine (have r101 : Hid ?Tr101 := ?pr101; ?mr101)
        case mr101 =>
         refine (have r011 : Hid ?Tr011 := ?pr011; ?mr011)
         case mr011 =>
          refine (have r100 : Hid ?Tr100 := ?pr100; ?mr100)
          case mr100 =>
           refine (have r010 : Hid ?Tr010 := ?pr010; ?mr010)
           case mr010 =>
            refine (have r001 : Hid ?Tr001 := ?pr001; ?mr001)
            case mr001 =>
             refine wpAnyH_ready (rs := [1, 4, 5]) (by kernel_rfl) (by simp) ?_
             refine AllReadyH.cons rfl (fun K hK => ?_) (AllReadyH.cons rfl (fun K hK => ?_) (AllReadyH.cons rfl (fun K hK => ?_) (AllReadyH.nil)))
             · go_simp
               refine (HBEG.out _ B).mono ?_
               rintro e V ⟨⟨AX0, cX0, AE0, cE0, AH0, cH0⟩, rfl, hx⟩
               dsimp only [preW]
               have B' := below_step B hx.bel
               have nHQ : StIn V V.heap.size M N1 N1 ⟨AX0, cX0, AE0, cE0, AH0, cH0⟩ X0 E0 H0 := hx.st HLX.out HLE.out HLH.out
               refine hK.out _ _ (HKEEP.out _ B') (fun hSx => ?_)
               clear hK K hSx
               try simp only [Act.put, pa, pz, ps]
               clear hx
               obtain ⟨W, rfl⟩ : ∃ W, W = V := ⟨_, rfl⟩
               have B := B'
               clear B'
               have HQ := nHQ
               clear nHQ
               revert HQ
               revert B
               revert W
               revert cH0
               revert AH0
               revert cE0
               revert AE0
               revert cX0
               revert AX0
               exact r100.out
             · go_simp
               obtain ⟨g13, hgn⟩ : ∃ g, W.heap.size = g := ⟨_, rfl⟩
               have b13 : w3.heap.size ≤ g13 := by rw [← hgn]; exact B.size
               obtain ⟨V, hV⟩ : ∃ V, W.alloc (.cells #[.slice none 0 0, .slice none 0 0, .slice none 0 0] 29) = V := ⟨_, rfl⟩
               have hba : Below W.heap.size W V := by rw [← hV]; exact below_alloc _
               have nH13 : Blk V g13 29 #[.slice none 0 0, .slice none 0 0, .slice none 0 0] := by rw [← hV]; exact Blk.new hgn
               have B' := below_step B hba
               refine hK.out _ _ (by rw [hV]; exact HKEEP.out _ B') (fun hSx => ?_)
               clear hK K hSx
               try simp only [Act.put, pa, pz, ps]
               rw [hV]
               rw [hgn]
               clear hV hba hgn
               obtain ⟨W, rfl⟩ : ∃ W, W = V := ⟨_, rfl⟩
               have B := B'
               clear B'
               have H13 := nH13
               clear nH13
               revert b13
               revert H13
               revert B
               revert W
               revert g13
               exact r010.out
             · go_simp
               obtain ⟨g14, hgn⟩ : ∃ g, W.heap.size = g := ⟨_, rfl⟩
               have b14 : w3.heap.size ≤ g14 := by rw [← hgn]; exact B.size
               obtain ⟨V, hV⟩ : ∃ V, W.alloc (.cells #[.slice none 0 0, .slice none 0 0, .slice none 0 0] 29) = V := ⟨_, rfl⟩
               have hba : Below W.heap.size W V := by rw [← hV]; exact below_alloc _
               have nH14 : Blk V g14 29 #[.slice none 0 0, .slice none 0 0, .slice none 0 0] := by rw [← hV]; exact Blk.new hgn
               have B' := below_step B hba
               refine hK.out _ _ (by rw [hV]; exact HKEEP.out _ B') (fun hSx => ?_)
               clear hK K hSx
               try simp only [Act.put, pa, pz, ps]
               rw [hV]
               rw [hgn]
               clear hV hba hgn
               obtain ⟨W, rfl⟩ : ∃ W, W = V := ⟨_, rfl⟩
               have B := B'
               clear B'
               have H14 := nH14
               clear nH14
               revert b14
               revert H14
               revert B
               revert W
               revert g14
               exact r001.out
            case pr001 =>
             refine Lib.hid ?_
             intro g14 W B H14 b14
             refine wpAnyH_ready (rs := [1, 4]) (by kernel_rfl) (by simp) ?_
             refine AllReadyH.cons rfl (fun K hK => ?_) (AllReadyH.cons rfl (fun K hK => ?_) (AllReadyH.nil))
             · go_simp
               refine (HBEG.out _ B).mono ?_
               rintro e V ⟨⟨AX0, cX0, AE0, cE0, AH0, cH0⟩, rfl, hx⟩
               dsimp only [preW]
               have B' := below_step B hx.bel
               have nHQ : StIn V V.heap.size M N1 N1 ⟨AX0, cX0, AE0, cE0, AH0, cH0⟩ X0 E0 H0 := hx.st HLX.out HLE.out HLH.out
               have nH14 := H14.below hx.bel H14.lt
               have nF14Q : PFar g14 M N1 N1 ⟨AX0, cX0, AE0, cE0, AH0, cH0⟩ := PFar.high (hx.abv (Nat.le_refl _)) H14.lt
               refine hK.out _ _ (HKEEP.out _ B') (fun hSx => ?_)
               clear hK K hSx B H14
               try simp only [Act.put, pa, pz, ps]
               clear hx W
               obtain ⟨W, rfl⟩ : ∃ W, W = V := ⟨_, rfl⟩
               have B := B'
               clear B'
               have HQ := nHQ
               have H14 := nH14
               have F14Q := nF14Q
               clear nHQ nH14 nF14Q
               revert F14Q
               revert b14
               revert H14
               revert HQ
               revert B
               revert W
               revert g14
               revert cH0
               revert AH0
               revert cE0
               revert AE0
               revert cX0
               revert AX0
               exact r101.out
             · go_simp
               obtain ⟨g13, hgn⟩ : ∃ g, W.heap.size = g := ⟨_, rfl⟩
               have b13 : w3.heap.size ≤ g13 := by rw [← hgn]; exact B.size
               obtain ⟨V, hV⟩ : ∃ V, W.alloc (.cells #[.slice none 0 0, .slice none 0 0, .slice none 0 0] 29) = V := ⟨_, rfl⟩
               have hba : Below W.heap.size W V := by rw [← hV]; exact below_alloc _
               have nH13 : Blk V g13 29 #[.slice none 0 0, .slice none 0 0, .slice none 0 0] := by rw [← hV]; exact Blk.new hgn
               have B' := below_step B hba
               have nH14 := H14.below hba H14.lt
               have ne : g13 ≠ g14 := by have := H14.lt; omega
               refine hK.out _ _ (by rw [hV]; exact HKEEP.out _ B') (fun hSx => ?_)
               clear hK K hSx B H14
               try simp only [Act.put, pa, pz, ps]
               rw [hV]
               rw [hgn]
               clear hV hba hgn W
               obtain ⟨W, rfl⟩ : ∃ W, W = V := ⟨_, rfl⟩
               have B := B'
               clear B'
               have H13 := nH13
               have H14 := nH14
               clear nH13 nH14
               revert ne
               revert b14
               revert H14
               revert b13
               revert H13
               revert B
               revert W
               revert g14
               revert g13
               exact r011.out
           case pr010 =>
            refine Lib.hid ?_
            intro g13 W B H13 b13
            refine wpAnyH_ready (rs := [1, 5]) (by kernel_rfl) (by simp) ?_
            refine AllReadyH.cons rfl (fun K hK => ?_) (AllReadyH.cons rfl (fun K hK => ?_) (AllReadyH.nil))
            · go_simp
              refine (HBEG.out _ B).mono ?_
              rintro e V ⟨⟨AX0, cX0, AE0, cE0, AH0, cH0⟩, rfl, hx⟩
              dsimp only [preW]
              have B' := below_step B hx.bel
              have nHQ : StIn V V.heap.size M N1 N1 ⟨AX0, cX0, AE0, cE0, AH0, cH0⟩ X0 E0 H0 := hx.st HLX.out HLE.out HLH.out
              have nH13 := H13.below hx.bel H13.lt
              have nF13Q : PFar g13 M N1 N1 ⟨AX0, cX0, AE0, cE0, AH0, cH0⟩ := PFar.high (hx.abv (Nat.le_refl _)) H13.lt
              refine hK.out _ _ (HKEEP.out _ B') (fun hSx => ?_)
              clear hK K hSx B H13
              try simp only [Act.put, pa, pz, ps]
              clear hx W
              obtain ⟨W, rfl⟩ : ∃ W, W = V := ⟨_, rfl⟩
              have B := B'
              clear B'
              have HQ := nHQ
              have H13 := nH13
              have F13Q := nF13Q
              clear nHQ nH13 nF13Q
              revert F13Q
              revert b13
              revert H13
              revert HQ
              revert B
              revert W
              revert g13
              revert cH0
              revert AH0
              revert cE0
              revert AE0
              revert cX0
              revert AX0
              exact r110.out
            · go_simp
              obtain ⟨g14, hgn⟩ : ∃ g, W.heap.size = g := ⟨_, rfl⟩
              have b14 : w3.heap.size ≤ g14 := by rw [← hgn]; exact B.size
              obtain ⟨V, hV⟩ : ∃ V, W.alloc (.cells #[.slice none 0 0, .slice none 0 0, .slice none 0 0] 29) = V := ⟨_, rfl⟩
              have hba : Below W.heap.size W V := by rw [← hV]; exact below_alloc _
              have nH14 : Blk V g14 29 #[.slice none 0 0, .slice none 0 0, .slice none 0 0] := by rw [← hV]; exact Blk.new hgn
              have B' := below_step B hba
              have nH13 := H13.below hba H13.lt
              have ne : g13 ≠ g14 := by have := H13.lt; omega
              refine hK.out _ _ (by rw [hV]; exact HKEEP.out _ B') (fun hSx => ?_)
              clear hK K hSx B H13
              try simp only [Act.put, pa, pz, ps]
              rw [hV]
              rw [hgn]
              clear hV hba hgn W
              obtain ⟨W, rfl⟩ : ∃ W, W = V := ⟨_, rfl⟩
              have B := B'
              clear B'
              have H13 := nH13
              have H14 := nH14
              clear nH13 nH14
              revert ne
              revert b14
              revert H14
              revert b13
              revert H13
              revert B
              revert W
              revert g14
              revert g13
              exact r011.out
          case pr100 =>
           refine Lib.hid ?_
           intro AX0 cX0 AE0 cE0 AH0 cH0 W B HQ
           refine wpAnyH_ready (rs := [3, 4, 5]) (by kernel_rfl) (by simp) ?_
           refine AllReadyH.cons rfl (fun K hK => ?_) (AllReadyH.cons rfl (fun K hK => ?_) (AllReadyH.cons rfl (fun K hK => ?_) (AllReadyH.nil)))
           · go_simp
             refine (HRBEG.out _ B).mono ?_
             rintro e V ⟨⟨AX1, cX1, AE1, cE1, AH1, cH1⟩, rfl, hx⟩
             dsimp only [preW]
             have B' := below_step B hx.bel
             have nHR : StIn V V.heap.size M N1 N1 ⟨AX1, cX1, AE1, cE1, AH1, cH1⟩ X0 E0 H0 := hx.st HLX.out HLE.out HLH.out
             have nHQ := HQ.on hx.bel
             refine hK.out _ _ (HKEEP.out _ B') (fun hSx => ?_)
             clear hK K hSx B HQ
             try simp only [Act.put, pa, pz, ps]
             clear hx W
             obtain ⟨W, rfl⟩ : ∃ W, W = V := ⟨_, rfl⟩
             have B := B'
             clear B'
             have HQ := nHQ
             have HR := nHR
             clear nHQ nHR
             revert HR
             revert HQ
             revert B
             revert W
             revert cH1
             revert AH1
             revert cE1
             revert AE1
             revert cX1
             revert AX1
             revert cH0
             revert AH0
             revert cE0
             revert AE0
             revert cX0
             revert AX0
             exact r200.out
           · go_simp
             obtain ⟨g13, hgn⟩ : ∃ g, W.heap.size = g := ⟨_, rfl⟩
             have b13 : w3.heap.size ≤ g13 := by rw [← hgn]; exact B.size
             have F13Q : PFar g13 M N1 N1 ⟨AX0, cX0, AE0, cE0, AH0, cH0⟩ := PFar.low HQ (by rw [← hgn]; exact Nat.le_refl _)
             obtain ⟨V, hV⟩ : ∃ V, W.alloc (.cells #[.slice none 0 0, .slice none 0 0, .slice none 0 0] 29) = V := ⟨_, rfl⟩
             have hba : Below W.heap.size W V := by rw [← hV]; exact below_alloc _
             have nH13 : Blk V g13 29 #[.slice none 0 0, .slice none 0 0, .slice none 0 0] := by rw [← hV]; exact Blk.new hgn
             have B' := below_step B hba
             have nHQ := HQ.on hba
             refine hK.out _ _ (by rw [hV]; exact HKEEP.out _ B') (fun hSx => ?_)
             clear hK K hSx B HQ
             try simp only [Act.put, pa, pz, ps]
             rw [hV]
             rw [hgn]
             clear hV hba hgn W
             obtain ⟨W, rfl⟩ : ∃ W, W = V := ⟨_, rfl⟩
             have B := B'
             clear B'
             have HQ := nHQ
             have H13 := nH13
             clear nHQ nH13
             revert F13Q
             revert b13
             revert H13
             revert HQ
             revert B
             revert W
             revert g13
             revert cH0
             revert AH0
             revert cE0
             revert AE0
             revert cX0
             revert AX0
             exact r110.out
           · go_simp
             obtain ⟨g14, hgn⟩ : ∃ g, W.heap.size = g := ⟨_, rfl⟩
             have b14 : w3.heap.size ≤ g14 := by rw [← hgn]; exact B.size
             have F14Q : PFar g14 M N1 N1 ⟨AX0, cX0, AE0, cE0, AH0, cH0⟩ := PFar.low HQ (by rw [← hgn]; exact Nat.le_refl _)
             obtain ⟨V, hV⟩ : ∃ V, W.alloc (.cells #[.slice none 0 0, .slice none 0 0, .slice none 0 0] 29) = V := ⟨_, rfl⟩
             have hba : Below W.heap.size W V := by rw [← hV]; exact below_alloc _
             have nH14 : Blk V g14 29 #[.slice none 0 0, .slice none 0 0, .slice none 0 0] := by rw [← hV]; exact Blk.new hgn
             have B' := below_step B hba
             have nHQ := HQ.on hba
             refine hK.out _ _ (by rw [hV]; exact HKEEP.out _ B') (fun hSx => ?_)
             clear hK K hSx B HQ
             try simp only [Act.put, pa, pz, ps]
             rw [hV]
             rw [hgn]
             clear hV hba hgn W
             obtain ⟨W, rfl⟩ : ∃ W, W = V := ⟨_, rfl⟩
             have B := B'
             clear B'
             have HQ := nHQ
             have H14 := nH14
             clear nHQ nH14
             revert F14Q
             revert b14
             revert H14
             revert HQ
             revert B
             revert W
             revert g14
             revert cH0
             revert AH0
             revert cE0
             revert AE0
             revert cX0
             revert AX0
             exact r101.out
         case pr011 =>
          refine Lib.hid ?_
          intro g13 g14 W B H13 b13 H14 b14 ne
          refine wpAnyH_ready (rs := [1]) (by kernel_rfl) (by simp) ?_
          refine AllReadyH.cons rfl (fun K hK => ?_) (AllReadyH.nil)
          · go_simp
            refine (HBEG.out _ B).mono ?_
            rintro e V ⟨⟨AX0, cX0, AE0, cE0, AH0, cH0⟩, rfl, hx⟩
            dsimp only [preW]
            have B' := below_step B hx.bel
            have nHQ : StIn V V.heap.size M N1 N1 ⟨AX0, cX0, AE0, cE0, AH0, cH0⟩ X0 E0 H0 := hx.st HLX.out HLE.out HLH.out
            have nH13 := H13.below hx.bel H13.lt
            have nF13Q : PFar g13 M N1 N1 ⟨AX0, cX0, AE0, cE0, AH0, cH0⟩ := PFar.high (hx.abv (Nat.le_refl _)) H13.lt
            have nH14 := H14.below hx.bel H14.lt
            have nF14Q : PFar g14 M N1 N1 ⟨AX0, cX0, AE0, cE0, AH0, cH0⟩ := PFar.high (hx.abv (Nat.le_refl _)) H14.lt
            refine hK.out _ _ (HKEEP.out _ B') (fun hSx => ?_)
            clear hK K hSx B H13 H14
            try simp only [Act.put, pa, pz, ps]
            clear hx W
            obtain ⟨W, rfl⟩ : ∃ W, W = V := ⟨_, rfl⟩
            have B := B'
            clear B'
            have HQ := nHQ
            have H13 := nH13
            have H14 := nH14
            have F13Q := nF13Q
            have F14Q := nF14Q
            clear nHQ nH13 nH14 nF13Q nF14Q
            revert ne
            revert F14Q
            revert b14
            revert H14
            revert F13Q
            revert b13
            revert H13
            revert HQ
            revert B
            revert W
            revert g14
            revert g13
            revert cH0
            revert AH0
            revert cE0
            revert AE0
            revert cX0
            revert AX0
            exact r111.out
        case pr101 =>
         refine Lib.hid ?_
         intro AX0 cX0 AE0 cE0 AH0 cH0 g14 W B HQ H14 b14 F14Q
         refine wpAnyH_ready (rs := [3, 4]) (by kernel_rfl) (by simp) ?_
         refine AllReadyH.cons rfl (fun K hK => ?_) (AllReadyH.cons rfl (fun K hK => ?_) (AllReadyH.nil))
         · go_simp
           refine (HRBEG.out _ B).mono ?_
           rintro e V ⟨⟨AX1, cX1, AE1, cE1, AH1, cH1⟩, rfl, hx⟩
           dsimp only [preW]
           have B' := below_step B hx.bel
           have nHR : StIn V V.heap.size M N1 N1 ⟨AX1, cX1, AE1, cE1, AH1, cH1⟩ X0 E0 H0 := hx.st HLX.out HLE.out HLH.out
           have nHQ := HQ.on hx.bel
           have nH14 := H14.below hx.bel H14.lt
           have nF14R : PFar g14 M N1 N1 ⟨AX1, cX1, AE1, cE1, AH1, cH1⟩ := PFar.high (hx.abv (Nat.le_refl _)) H14.lt
           refine hK.out _ _ (HKEEP.out _ B') (fun hSx => ?_)
           clear hK K hSx B HQ H14
           try simp only [Act.put, pa, pz, ps]
           clear hx W
           obtain ⟨W, rfl⟩ : ∃ W, W = V := ⟨_, rfl⟩
           have B := B'
           clear B'
           have HQ := nHQ
           have HR := nHR
           have H14 := nH14
           have F14R := nF14R
           clear nHQ nHR nH14 nF14R
           revert F14R
           revert F14Q
           revert b14
           revert H14
           revert HR
           revert HQ
           revert B
           revert W
           revert g14
           revert cH1
           revert AH1
           revert cE1
           revert AE1
           revert cX1
           revert AX1
           revert cH0
           revert AH0
           revert cE0
           revert AE0
           revert cX0
           revert AX0
           exact r201.out
         · go_simp
           obtain ⟨g13, hgn⟩ : ∃ g, W.heap.size = g := ⟨_, rfl⟩
           have b13 : w3.heap.size ≤ g13 := by rw [← hgn]; exact B.size
           have F13Q : PFar g13 M N1 N1 ⟨AX0, cX0, AE0, cE0, AH0, cH0⟩ := PFar.low HQ (by rw [← hgn]; exact Nat.le_refl _)
           obtain ⟨V, hV⟩ : ∃ V, W.alloc (.cells #[.slice none 0 0, .slice none 0 0, .slice none 0 0] 29) = V := ⟨_, rfl⟩
           have hba : Below W.heap.size W V := by rw [← hV]; exact below_alloc _
           have nH13 : Blk V g13 29 #[.slice none 0 0, .slice none 0 0, .slice none 0 0] := by rw [← hV]; exact Blk.new hgn
           have B' := below_step B hba
           have nHQ := HQ.on hba
           have nH14 := H14.below hba H14.lt
           have ne : g13 ≠ g14 := by have := H14.lt; omega
           refine hK.out _ _ (by rw [hV]; exact HKEEP.out _ B') (fun hSx => ?_)
           clear hK K hSx B HQ H14
           try simp only [Act.put, pa, pz, ps]
           rw [hV]
           rw [hgn]
           clear hV hba hgn W
           obtain ⟨W, rfl⟩ : ∃ W, W = V := ⟨_, rfl⟩
           have B := B'
           clear B'
           have HQ := nHQ
           have H13 := nH13
           have H14 := nH14
           clear nHQ nH13 nH14
           revert ne
           revert F14Q
           revert b14
           revert H14
           revert F13Q
           revert b13
           revert H13
           revert HQ
           revert B
           revert W
           revert g14
           revert g13
           revert cH0
           revert AH0
           revert cE0
           revert AE0
           revert cX0
           revert AX0
           exact r111.out
       case pr110 =>
        refine Lib.hid ?_
        intro AX0 cX0 AE0 cE0 AH0 cH0 g13 W B HQ H13 b13 F13Q
        refine wpAnyH_ready (rs := [3, 5]) (by kernel_rfl) (by simp) ?_
        refine AllReadyH.cons rfl (fun K hK => ?_) (AllReadyH.cons rfl (fun K hK => ?_) (AllReadyH.nil))
        · go_simp
          refine (HRBEG.out _ B).mono ?_
          rintro e V ⟨⟨AX1, cX1, AE1, cE1, AH1, cH1⟩, rfl, hx⟩
          dsimp only [preW]
          have B' := below_step B hx.bel
          have nHR : StIn V V.heap.size M N1 N1 ⟨AX1, cX1, AE1, cE1, AH1, cH1⟩ X0 E0 H0 := hx.st HLX.out HLE.out HLH.out
          have nHQ := HQ.on hx.bel
          have nH13 := H13.below hx.bel H13.lt
          have nF13R : PFar g13 M N1 N1 ⟨AX1, cX1, AE1, cE1, AH1, cH1⟩ := PFar.high (hx.abv (Nat.le_refl _)) H13.lt
          refine hK.out _ _ (HKEEP.out _ B') (fun hSx => ?_)
          clear hK K hSx B HQ H13
          try simp only [Act.put, pa, pz, ps]
          clear hx W
          obtain ⟨W, rfl⟩ : ∃ W, W = V := ⟨_, rfl⟩
          have B := B'
          clear B'
          have HQ := nHQ
          have HR := nHR
          have H13 := nH13
          have F13R := nF13R
          clear nHQ nHR nH13 nF13R
          revert F13R
          revert F13Q
          revert b13
          revert H13
          revert HR
          revert HQ
          revert B
          revert W
          revert g13
          revert cH1
          revert AH1
          revert cE1
          revert AE1
          revert cX1
          revert AX1
          revert cH0
          revert AH0
          revert cE0
          revert AE0
          revert cX0
          revert AX0
          exact r210.out
        · go_simp
          obtain ⟨g14, hgn⟩ : ∃ g, W.heap.size = g := ⟨_, rfl⟩
          have b14 : w3.heap.size ≤ g14 := by rw [← hgn]; exact B.size
          have F14Q : PFar g14 M N1 N1 ⟨AX0, cX0, AE0, cE0, AH0, cH0⟩ := PFar.low HQ (by rw [← hgn]; exact Nat.le_refl _)
          obtain ⟨V, hV⟩ : ∃ V, W.alloc (.cells #[.slice none 0 0, .slice none 0 0, .slice none 0 0] 29) = V := ⟨_, rfl⟩
          have hba : Below W.heap.size W V := by rw [← hV]; exact below_alloc _
          have nH14 : Blk V g14 29 #[.slice none 0 0, .slice none 0 0, .slice none 0 0] := by rw [← hV]; exact Blk.new hgn
          have B' := below_step B hba
          have nHQ := HQ.on hba
          have nH13 := H13.below hba H13.lt
          have ne : g13 ≠ g14 := by have := H13.lt; omega
          refine hK.out _ _ (by rw [hV]; exact HKEEP.out _ B') (fun hSx => ?_)
          clear hK K hSx B HQ H13
          try simp only [Act.put, pa, pz, ps]
          rw [hV]
          rw [hgn]
          clear hV hba hgn W
          obtain ⟨W, rfl⟩ : ∃ W, W = V := ⟨_, rfl⟩
          have B := B'
          clear B'
          have HQ := nHQ
          have H13 := nH13
          have H14 := nH14
          clear nHQ nH13 nH14
          revert ne
          revert F14Q
          revert b14
          revert H14
          revert F13Q
          revert b13
          revert H13
          revert HQ
          revert B
          revert W
          revert g14
          revert g13
          revert cH0
          revert AH0
          revert cE0
          revert AE0
          revert cX0
          revert AX0
          exact r111.out
      case pr200 =>
       refine Lib.hid ?_
       intro AX0 cX0 AE0 cE0 AH0 cH0 AX1 cX1 AE1 cE1 AH1 cH1 W B HQ HR
       refine wpAnyH_ready (rs := [4, 5]) (by kernel_rfl) (by simp) ?_
       refine AllReadyH.cons rfl (fun K hK => ?_) (AllReadyH.cons rfl (fun K hK => ?_) (AllReadyH.nil))
       · go_simp
         obtain ⟨g13, hgn⟩ : ∃ g, W.heap.size = g := ⟨_, rfl⟩
         have b13 : w3.heap.size ≤ g13 := by rw [← hgn]; exact B.size
         have F13Q : PFar g13 M N1 N1 ⟨AX0, cX0, AE0, cE0, AH0, cH0⟩ := PFar.low HQ (by rw [← hgn]; exact Nat.le_refl _)
         have F13R : PFar g13 M N1 N1 ⟨AX1, cX1, AE1, cE1, AH1, cH1⟩ := PFar.low HR (by rw [← hgn]; exact Nat.le_refl _)
         obtain ⟨V, hV⟩ : ∃ V, W.alloc (.cells #[.slice none 0 0, .slice none 0 0, .slice none 0 0] 29) = V := ⟨_, rfl⟩
         have hba : Below W.heap.size W V := by rw [← hV]; exact below_alloc _
         have nH13 : Blk V g13 29 #[.slice none 0 0, .slice none 0 0, .slice none 0 0] := by rw [← hV]; exact Blk.new hgn
         have B' := below_step B hba
         have nHQ := HQ.on hba
         have nHR := HR.on hba
         refine hK.out _ _ (by rw [hV]; exact HKEEP.out _ B') (fun hSx => ?_)
         clear hK K hSx B HQ HR
         try simp only [Act.put, pa, pz, ps]
         rw [hV]
         rw [hgn]
         clear hV hba hgn W
         obtain ⟨W, rfl⟩ : ∃ W, W = V := ⟨_, rfl⟩
         have B := B'
         clear B'
         have HQ := nHQ
         have HR := nHR
         have H13 := nH13
         clear nHQ nHR nH13
         revert F13R
         revert F13Q
         revert b13
         revert H13
         revert HR
         revert HQ
         revert B
         revert W
         revert g13
         revert cH1
         revert AH1
         revert cE1
         revert AE1
         revert cX1
         revert AX1
         revert cH0
         revert AH0
         revert cE0
         revert AE0
         revert cX0
         revert AX0
         exact r210.out
       · go_simp
         obtain ⟨g14, hgn⟩ : ∃ g, W.heap.size = g := ⟨_, rfl⟩
         have b14 : w3.heap.size ≤ g14 := by rw [← hgn]; exact B.size
         have F14Q : PFar g14 M N1 N1 ⟨AX0, cX0, AE0, cE0, AH0, cH0⟩ := PFar.low HQ (by rw [← hgn]; exact Nat.le_refl _)
         have F14R : PFar g14 M N1 N1 ⟨AX1, cX1, AE1, cE1, AH1, cH1⟩ := PFar.low HR (by rw [← hgn]; exact Nat.le_refl _)
         obtain ⟨V, hV⟩ : ∃ V, W.alloc (.cells #[.slice none 0 0, .slice none 0 0, .slice none 0 0] 29) = V := ⟨_, rfl⟩
         have hba : Below W.heap.size W V := by rw [← hV]; exact below_alloc _
         have nH14 : Blk V g14 29 #[.slice none 0 0, .slice none 0 0, .slice none 0 0] := by rw [← hV]; exact Blk.new hgn
         have B' := below_step B hba
         have nHQ := HQ.on hba
         have nHR := HR.on hba
         refine hK.out _ _ (by rw [hV]; exact HKEEP.out _ B') (fun hSx => ?_)
         clear hK K hSx B HQ HR
         try simp only [Act.put, pa, pz, ps]
         rw [hV]
         rw [hgn]
         clear hV hba hgn W
         obtain ⟨W, rfl⟩ : ∃ W, W = V := ⟨_, rfl⟩
         have B := B'
         clear B'
         have HQ := nHQ
         have HR := nHR
         have H14 := nH14
         clear nHQ nHR nH14
         revert F14R
         revert F14Q
         revert b14
         revert H14
         revert HR
         revert HQ
         revert B
         revert W
         revert g14
         revert cH1
         revert AH1
         revert cE1
         revert AE1
         revert cX1
         revert AX1
         revert cH0
         revert AH0
         revert cE0
         revert AE0
         revert cX0
         revert AX0
         exact r201.out
     case pr111 =>
      refine Lib.hid ?_
      intro AX0 cX0 AE0 cE0 AH0 cH0 g13 g14 W B HQ H13 b13 F13Q H14 b14 F14Q ne
      refine wpAnyH_ready (rs := [3]) (by kernel_rfl) (by simp) ?_
      refine AllReadyH.cons rfl (fun K hK => ?_) (AllReadyH.nil)
      · go_simp
        refine (HRBEG.out _ B).mono ?_
        rintro e V ⟨⟨AX1, cX1, AE1, cE1, AH1, cH1⟩, rfl, hx⟩
        dsimp only [preW]
        have B' := below_step B hx.bel
        have nHR : StIn V V.heap.size M N1 N1 ⟨AX1, cX1, AE1, cE1, AH1, cH1⟩ X0 E0 H0 := hx.st HLX.out HLE.out HLH.out
        have nHQ := HQ.on hx.bel
        have nH13 := H13.below hx.bel H13.lt
        have nF13R : PFar g13 M N1 N1 ⟨AX1, cX1, AE1, cE1, AH1, cH1⟩ := PFar.high (hx.abv (Nat.le_refl _)) H13.lt
        have nH14 := H14.below hx.bel H14.lt
        have nF14R : PFar g14 M N1 N1 ⟨AX1, cX1, AE1, cE1, AH1, cH1⟩ := PFar.high (hx.abv (Nat.le_refl _)) H14.lt
        refine hK.out _ _ (HKEEP.out _ B') (fun hSx => ?_)
        clear hK K hSx B HQ H13 H14
        try simp only [Act.put, pa, pz, ps]
        clear hx W
        obtain ⟨W, rfl⟩ : ∃ W, W = V := ⟨_, rfl⟩
        have B := B'
        clear B'
        have HQ := nHQ
        have HR := nHR
        have H13 := nH13
        have H14 := nH14
        have F13R := nF13R
        have F14R := nF14R
        clear nHQ nHR nH13 nH14 nF13R nF14R
        revert ne
        revert F14R
        revert F14Q
        revert b14
        revert H14
        revert F13R
        revert F13Q
        revert b13
        revert H13
        revert HR
        revert HQ
        revert B
        revert W
        revert g14
        revert g13
        revert cH1
        revert AH1
        revert cE1
        revert AE1
        revert cX1
        revert AX1
        revert cH0
        revert AH0
        revert cE0
        revert AE0
        revert cX0
        revert AX0
        exact r211.out
    case pr201 =>
     refine Lib.hid ?_
     intro AX0 cX0 AE0 cE0 AH0 cH0 AX1 cX1 AE1 cE1 AH1 cH1 g14 W B HQ HR H14 b14 F14Q F14R
     refine wpAnyH_ready (rs := [4]) (by kernel_rfl) (by simp) ?_
     refine AllReadyH.cons rfl (fun K hK => ?_) (AllReadyH.nil)
     · go_simp
       obtain ⟨g13, hgn⟩ : ∃ g, W.heap.size = g := ⟨_, rfl⟩
       have b13 : w3.heap.size ≤ g13 := by rw [← hgn]; exact B.size
       have F13Q : PFar g13 M N1 N1 ⟨AX0, cX0, AE0, cE0, AH0, cH0⟩ := PFar.low HQ (by rw [← hgn]; exact Nat.le_refl _)
       have F13R : PFar g13 M N1 N1 ⟨AX1, cX1, AE1, cE1, AH1, cH1⟩ := PFar.low HR (by rw [← hgn]; exact Nat.le_refl _)
       obtain ⟨V, hV⟩ : ∃ V, W.alloc (.cells #[.slice none 0 0, .slice none 0 0, .slice none 0 0] 29) = V := ⟨_, rfl⟩
       have hba : Below W.heap.size W V := by rw [← hV]; exact below_alloc _
       have nH13 : Blk V g13 29 #[.slice none 0 0, .slice none 0 0, .slice none 0 0] := by rw [← hV]; exact Blk.new hgn
       have B' := below_step B hba
       have nHQ := HQ.on hba
       have nHR := HR.on hba
       have nH14 := H14.below hba H14.lt
       have ne : g13 ≠ g14 := by have := H14.lt; omega
       refine hK.out _ _ (by rw [hV]; exact HKEEP.out _ B') (fun hSx => ?_)
       clear hK K hSx B HQ HR H14
       try simp only [Act.put, pa, pz, ps]
       rw [hV]
       rw [hgn]
       clear hV hba hgn W
       obtain ⟨W, rfl⟩ : ∃ W, W = V := ⟨_, rfl⟩
       have B := B'
       clear B'
       have HQ := nHQ
       have HR := nHR
       have H13 := nH13
       have H14 := nH14
       clear nHQ nHR nH13 nH14
       revert ne
       revert F14R
       revert F14Q
       revert b14
       revert H14
       revert F13R
       revert F13Q
       revert b13
       revert H13
       revert HR
       revert HQ
       revert B
       revert W
       revert g14
       revert g13
       revert cH1
       revert AH1
       revert cE1
       revert AE1
       revert cX1
       revert AX1
       revert cH0
       revert AH0
       revert cE0
       revert AE0
       revert cX0
       revert AX0
       exact r211.out
   case pr210 =>
    refine Lib.hid ?_
    intro AX0 cX0 AE0 cE0 AH0 cH0 AX1 cX1 AE1 cE1 AH1 cH1 g13 W B HQ HR H13 b13 F13Q F13R
    refine wpAnyH_ready (rs := [5]) (by kernel_rfl) (by simp) ?_
    refine AllReadyH.cons rfl (fun K hK => ?_) (AllReadyH.nil)
    · go_simp
      obtain ⟨g14, hgn⟩ : ∃ g, W.heap.size = g := ⟨_, rfl⟩
      have b14 : w3.heap.size ≤ g14 := by rw [← hgn]; exact B.size
      have F14Q : PFar g14 M N1 N1 ⟨AX0, cX0, AE0, cE0, AH0, cH0⟩ := PFar.low HQ (by rw [← hgn]; exact Nat.le_refl _)
      have F14R : PFar g14 M N1 N1 ⟨AX1, cX1, AE1, cE1, AH1, cH1⟩ := PFar.low HR (by rw [← hgn]; exact Nat.le_refl _)
      obtain ⟨V, hV⟩ : ∃ V, W.alloc (.cells #[.slice none 0 0, .slice none 0 0, .slice none 0 0] 29) = V := ⟨_, rfl⟩
      have hba : Below W.heap.size W V := by rw [← hV]; exact below_alloc _
      have nH14 : Blk V g14 29 #[.slice none 0 0, .slice none 0 0, .slice none 0 0] := by rw [← hV]; exact Blk.new hgn
      have B' := below_step B hba
      have nHQ := HQ.on hba
      have nHR := HR.on hba
      have nH13 := H13.below hba H13.lt
      have ne : g13 ≠ g14 := by have := H13.lt; omega
      refine hK.out _ _ (by rw [hV]; exact HKEEP.out _ B') (fun hSx => ?_)
      clear hK K hSx B HQ HR H13
      try simp only [Act.put, pa, pz, ps]
      rw [hV]
      rw [hgn]
      clear hV hba hgn W
      obtain ⟨W, rfl⟩ : ∃ W, W = V := ⟨_, rfl⟩
      have B := B'
      clear B'
      have HQ := nHQ
      have HR := nHR
      have H13 := nH13
      have H14 := nH14
      clear nHQ nHR nH13 nH14
      revert ne
      revert F14R
      revert F14Q
      revert b14
      revert H14
      revert F13R
      revert F13Q
      revert b13
      revert H13
      revert HR
      revert HQ
      revert B
      revert W
      revert g14
      revert g13
      revert cH1
      revert AH1
      revert cE1
      revert AE1
      revert cX1
      revert AX1
      revert cH0
      revert AH0
      revert cE0
      revert AE0
      revert cX0
      revert AX0
      exact r211.out
  case pr211 =>
   refine Lib.hid ?_
   intro AX0 cX0 AE0 cE0 AH0 cH0 AX1 cX1 AE1 cE1 AH1 cH1 g13 g14 W B HQ HR H13 b13 F13Q F13R H14 b14 F14Q F14R ne
   obtain ⟨⟨j0, j1, j2⟩, ⟨j3, j4, j5⟩, hj6⟩ := H13.full3
   refine wpAnyH_ready (rs := [6]) (by kernel_rfl) (by simp) ?_
   refine AllReadyH.cons rfl (fun K hK => ?_) AllReadyH.nil
   go_simp
   have G13 := H13.put3 (x := .slice AX0 M cX0) (y := .slice AE0 N1 cE0) (z := .slice AH0 N1 cH0)
   have G14 := H14.far3 (x := .slice AX0 M cX0) (y := .slice AE0 N1 cE0) (z := .slice AH0 N1 cH0) (fun e => ne e.symm)
   have GQ := HQ.far3 F13Q (.slice AX0 M cX0) (.slice AE0 N1 cE0) (.slice AH0 N1 cH0)
   have GR := HR.far3 F13R (.slice AX0 M cX0) (.slice AE0 N1 cE0) (.slice AH0 N1 cH0)
   have GB := below_put3 (x := .slice AX0 M cX0) (y := .slice AE0 N1 cE0) (z := .slice AH0 N1 cH0) B b13
   refine hK.out _ _ (HKEEP.out _ GB) (fun hSx => ?_)
   clear hK K hSx H13 H14 HQ HR B j0 j1 j2 j3 j4 j5 hj6
   try simp only [Act.put, pa, pz, ps]
   obtain ⟨V, hV⟩ : ∃ V, put3 W g13 (.slice AX0 M cX0) (.slice AE0 N1 cE0) (.slice AH0 N1 cH0) = V := ⟨_, rfl⟩
   rw [hV] at G13 G14 GQ GR GB
   dsimp only [put3] at hV
   rw [hV]
   clear hV W
   obtain ⟨⟨j0, j1, j2⟩, ⟨j3, j4, j5⟩, hj6⟩ := G14.full3
   refine wpAnyH_ready (rs := [7]) (by kernel_rfl) (by simp) ?_
   refine AllReadyH.cons rfl (fun K hK => ?_) AllReadyH.nil
   go_simp
   have H13 := G13.far3 (x := .slice AX1 M cX1) (y := .slice AE1 N1 cE1) (z := .slice AH1 N1 cH1) ne
   have H14 := G14.put3 (x := .slice AX1 M cX1) (y := .slice AE1 N1 cE1) (z := .slice AH1 N1 cH1)
   have HQ := GQ.far3 F14Q (.slice AX1 M cX1) (.slice AE1 N1 cE1) (.slice AH1 N1 cH1)
   have HR := GR.far3 F14R (.slice AX1 M cX1) (.slice AE1 N1 cE1) (.slice AH1 N1 cH1)
   have B := below_put3 (x := .slice AX1 M cX1) (y := .slice AE1 N1 cE1) (z := .slice AH1 N1 cH1) GB b14
   refine hK.out _ _ (HKEEP.out _ B) (fun hSx => ?_)
   clear hK K hSx G13 G14 GQ GR GB j0 j1 j2 j3 j4 j5 hj6
   try simp only [Act.put, pa, pz, ps]
   obtain ⟨w4, hV⟩ : ∃ W, put3 V g14 (.slice AX1 M cX1) (.slice AE1 N1 cE1) (.slice AH1 N1 cH1) = W := ⟨_, rfl⟩
   rw [hV] at H13 H14 HQ HR B
   dsimp only [put3] at hV
   rw [hV]
   clear hV V
   refine wpAnyH_done (by kernel_rfl) ?_ _
   have h13 := Lib.hid H13; have h14 := Lib.hid H14; have hQ4 := Lib.hid HQ; have hR4 := Lib.hid HR; have hB4 := Lib.hid B
   have hF := Lib.hid (And.intro F13Q (And.intro F13R (And.intro F14Q F14R))); have hbb := Lib.hid (And.intro b13 (And.intro b14 ne))
   clear H13 H14 HQ HR B F13Q F13R F14Q F14R b13 b14 ne
   as_aux_lemma =>
     obtain ⟨rr, hrr⟩ : ∃ rr : Bool, rr = true ↔ nX = M ∧ nE = N1 ∧ nH = N1 ∧ StIs N1 M s t hd rv cp XP EP HP := by classical exact ⟨decide _, decide_eq_true_iff⟩
     have hpst := fun W (hb : Below w3.heap.size w3 W) => HPP.out.on (below_step HB3.out hb)
     have HPST := Lib.hid hpst
     have hprt := fun W (hb : Below w3.heap.size w3 W) => pright_is N1 M s t nX nE nH ⟨AF, cF, AH, cH, AR, cR, AC, cC, AA, cA, AB, cB⟩ ⟨APX, cPX, APE, cPE, APH, cPH⟩ fst hd rv ai cp bk XP EP HP W HGG.out (HI3.out.on hb) (HPST.out W hb) HXR.out HHR.out rr hrr
     have hrrt := fun W (hb : Below w3.heap.size w3 W) => rright_is N1 M s t nX nE nH ⟨AF, cF, AH, cH, AR, cR, AC, cC, AA, cA, AB, cB⟩ ⟨APX, cPX, APE, cPE, APH, cPH⟩ fst hd rv ai cp bk XP EP HP W HGG.out (HI3.out.on hb) (HPST.out W hb) rr hrr
     have hpcp := fun W (hb : Below w3.heap.size w3 W) => pcopy_is nX nE nH ⟨APX, cPX, APE, cPE, APH, cPH⟩ XP EP HP W (HPST.out W hb) hnX hnE hnH
     dsimp only [csrW, preW] at hprt hrrt hpcp
     have HPRT := Lib.hid hprt; have HRRT := Lib.hid hrrt; have HPCP := Lib.hid hpcp; have HRR := Lib.hid hrr
     have hkp := fun W' (hb : Below w3.heap.size w3 W') => (And.intro (HKEEP.out W' hb) (HP3.out.below hb HP3.out.lt).full3.1)
     have HKP := Lib.hid (show ∀ W', Below w3.heap.size w3 W' → W'.cell? ⟨g11, 0, none⟩ = some (.int .i64 (N1 : Int)) ∧ W'.cell? ⟨g11, 1, none⟩ = some (.int .i64 (s : Int)) ∧ W'.cell? ⟨g11, 2, none⟩ = some (.int .i64 (t : Int)) ∧ W'.cell? ⟨g11, 3, none⟩ = some (.slice AF (N1 + 1) cF) ∧ W'.cell? ⟨g11, 4, none⟩ = some (.slice AH M cH) ∧ W'.cell? ⟨g11, 5, none⟩ = some (.slice AR M cR) ∧ W'.cell? ⟨g11, 6, none⟩ = some (.slice AC M cC) ∧ W'.cell? ⟨g11, 7, none⟩ = some (.slice AA M cA) ∧ W'.cell? ⟨g11, 8, none⟩ = some (.slice AB M cB) ∧ W'.cell? ⟨w.heap.size + 1, 0, none⟩ = some (.slice APX nX cPX) ∧ W'.cell? ⟨w.heap.size + 1, 1, none⟩ = some (.slice APE nE cPE) ∧ W'.cell? ⟨w.heap.size + 1, 2, none⟩ = some (.slice APH nH cPH) from fun W' hb => ⟨(hkp W' hb).1.1, (hkp W' hb).1.2.1, (hkp W' hb).1.2.2.1, (hkp W' hb).1.2.2.2.1, (hkp W' hb).1.2.2.2.2.1, (hkp W' hb).1.2.2.2.2.2.1, (hkp W' hb).1.2.2.2.2.2.2.1, (hkp W' hb).1.2.2.2.2.2.2.2.1, (hkp W' hb).1.2.2.2.2.2.2.2.2, (hkp W' hb).2.1, (hkp W' hb).2.2.1, (hkp W' hb).2.2.2⟩)
     clear hpst hprt hrrt hpcp hrr hkp HBEG HRBEG
     go_wp2_with fail
     obtain ⟨w5, hw5⟩ : ∃ W, w4.drew = W := ⟨_, rfl⟩
     have B5 := Lib.hid (show Below w3.heap.size w3 w5 by rw [← hw5]; exact hB4.out.drew)
     have b45 := Lib.hid (show Below w4.heap.size w4 w5 by rw [← hw5]; exact (Below.refl _ _).drew)
     refine wp_region_held_drew (S := fun W' => W'.cell? ⟨g11, 0, none⟩ = some (.int .i64 (N1 : Int)) ∧ W'.cell? ⟨g11, 1, none⟩ = some (.int .i64 (s : Int)) ∧ W'.cell? ⟨g11, 2, none⟩ = some (.int .i64 (t : Int)) ∧ W'.cell? ⟨g11, 3, none⟩ = some (.slice AF (N1 + 1) cF) ∧ W'.cell? ⟨g11, 4, none⟩ = some (.slice AH M cH) ∧ W'.cell? ⟨g11, 5, none⟩ = some (.slice AR M cR) ∧ W'.cell? ⟨g11, 6, none⟩ = some (.slice AC M cC) ∧ W'.cell? ⟨g11, 7, none⟩ = some (.slice AA M cA) ∧ W'.cell? ⟨g11, 8, none⟩ = some (.slice AB M cB) ∧ W'.cell? ⟨w.heap.size + 1, 0, none⟩ = some (.slice APX nX cPX) ∧ W'.cell? ⟨w.heap.size + 1, 1, none⟩ = some (.slice APE nE cPE) ∧ W'.cell? ⟨w.heap.size + 1, 2, none⟩ = some (.slice APH nH cPH)) (by kernel_rfl) (by rw [hw5]; exact HKP.out _ B5.out) (fun hS0 => ?_)
     rw [hw5] at hS0 ⊢
     clear hw5
     refine ta (v := ?_) 0 55 rfl ?_ ?_
     rotate_left
     · (intro W' hSw; obtain ⟨b0, b1, b2, b3, b4, b5, b6, b7, b8, c0, c1, c2⟩ := hSw; go_simp; try with_reducible rfl)
     simp only [Act.put, pa, pz, ps]
     refine ta (v := ?_) 1 56 rfl ?_ ?_
     rotate_left
     · (intro W' hSw; obtain ⟨b0, b1, b2, b3, b4, b5, b6, b7, b8, c0, c1, c2⟩ := hSw; go_simp; try with_reducible rfl)
     simp only [Act.put, pa, pz, ps]
     refine ta (v := ?_) 3 58 rfl ?_ ?_
     rotate_left
     · (intro W' hSw; obtain ⟨b0, b1, b2, b3, b4, b5, b6, b7, b8, c0, c1, c2⟩ := hSw; go_simp; try with_reducible rfl)
     simp only [Act.put, pa, pz, ps]
     refine ta (v := ?_) 4 59 rfl ?_ ?_
     rotate_left
     · (intro W' hSw; obtain ⟨b0, b1, b2, b3, b4, b5, b6, b7, b8, c0, c1, c2⟩ := hSw; go_simp; try with_reducible rfl)
     simp only [Act.put, pa, pz, ps]
     refine wpAnyH_ready (rs := [2]) (by kernel_rfl) (by simp) ?_
     refine AllReadyH.cons rfl (fun K hK => ?_) AllReadyH.nil
     go_simp
     refine (HPRT.out _ B5.out).mono ?_
     rintro e w6 ⟨rfl, B56⟩
     have B6 := Lib.hid (below_step B5.out B56); have b46 := Lib.hid (below_step b45.out B56)
     refine hK.out _ _ (HKP.out _ B6.out) (fun hS1 => ?_)
     clear hK K hS0 B56 B5 b45
     try simp only [Act.put, pa, pz, ps]
     refine wpAnyH_ready (rs := [5]) (by kernel_rfl) (by simp) ?_
     refine AllReadyH.cons rfl (fun K hK => ?_) AllReadyH.nil
     go_simp
     refine (HRRT.out _ B6.out).mono ?_
     rintro e w7 ⟨rfl, B67⟩
     have B7 := Lib.hid (below_step B6.out B67); have b47 := Lib.hid (below_step b46.out B67)
     refine hK.out _ _ (HKP.out _ B7.out) (fun hS2 => ?_)
     clear hK K hS1 B67 B6 b46
     try simp only [Act.put, pa, pz, ps]
     have hbne : (rr != rr) = false := by cases rr <;> rfl
     refine ta (v := ?_) 6 61 rfl ?_ ?_
     rotate_left
     · (intro W' hSw; obtain ⟨b0, b1, b2, b3, b4, b5, b6, b7, b8, c0, c1, c2⟩ := hSw; go_simp; try with_reducible rfl)
     simp only [Act.put, pa, pz, ps]
     refine ta (v := ?_) 7 62 rfl ?_ ?_
     rotate_left
     · (intro W' hSw; obtain ⟨b0, b1, b2, b3, b4, b5, b6, b7, b8, c0, c1, c2⟩ := hSw; go_simp; try with_reducible rfl)
     simp only [Act.put, pa, pz, ps]
     refine ta (v := ?_) 8 63 rfl ?_ ?_
     rotate_left
     · (intro W' hSw; obtain ⟨b0, b1, b2, b3, b4, b5, b6, b7, b8, c0, c1, c2⟩ := hSw; go_simp; try with_reducible rfl)
     simp only [Act.put, pa, pz, ps]
     refine ta (v := ?_) 10 65 rfl ?_ ?_
     rotate_left
     · (intro W' hSw; obtain ⟨b0, b1, b2, b3, b4, b5, b6, b7, b8, c0, c1, c2⟩ := hSw; go_simp; try with_reducible rfl)
     simp only [Act.put, pa, pz, ps]
     refine wpAnyH_ready (rs := [9]) (by kernel_rfl) (by simp) ?_
     refine AllReadyH.cons rfl (fun K hK => ?_) AllReadyH.nil
     go_simp
     refine (HPCP.out _ B7.out).mono ?_
     rintro e w8 ⟨⟨AX8, cX8, AE8, cE8, AH8, cH8⟩, rfl, X8⟩
     try dsimp only [preW]
     have B8 := Lib.hid (below_step B7.out X8.bel); have b48 := Lib.hid (below_step b47.out X8.bel)
     have hs8 := samePre_is nX nE nH nX nE nH ⟨AX8, cX8, AE8, cE8, AH8, cH8⟩ ⟨APX, cPX, APE, cPE, APH, cPH⟩ XP EP HP XP EP HP true w8 (X8.st HPP.out.iX.len HPP.out.iE.len HPP.out.iH.len) (HPST.out _ B8.out) hnX hnE hnH hnX hnE hnH (by simp)
     dsimp only [preW] at hs8
     have HS8 := Lib.hid hs8
     refine hK.out _ _ (HKP.out _ B8.out) (fun hS3 => ?_)
     clear hK K hS2 X8 B7 b47 hs8
     try simp only [Act.put, pa, pz, ps]
     refine wpAnyH_ready (rs := [11]) (by kernel_rfl) (by simp) ?_
     refine AllReadyH.cons rfl (fun K hK => ?_) AllReadyH.nil
     go_simp
     refine HS8.out.mono ?_
     rintro e w9 ⟨rfl, B89⟩
     have B9 := Lib.hid (below_step B8.out B89); have b49 := Lib.hid (below_step b48.out B89)
     refine hK.out _ _ (HKP.out _ B9.out) (fun hS4 => ?_)
     clear hK K hS3 B89 B8 b48 HS8
     try simp only [Act.put, pa, pz, ps]
     refine ta (v := ?_) 12 67 rfl ?_ ?_
     rotate_left
     · (intro W' hSw; obtain ⟨b0, b1, b2, b3, b4, b5, b6, b7, b8, c0, c1, c2⟩ := hSw; go_simp; try with_reducible rfl)
     simp only [Act.put, pa, pz, ps]
     refine ta (v := ?_) 13 68 rfl ?_ ?_
     rotate_left
     · (intro W' hSw; obtain ⟨b0, b1, b2, b3, b4, b5, b6, b7, b8, c0, c1, c2⟩ := hSw; go_simp; try with_reducible rfl)
     simp only [Act.put, pa, pz, ps]
     refine wpAnyH_done (by kernel_rfl) ?_ _
     clear hS4 hbne
     have HST9 := Lib.hid (show PairSt g13 g14 N1 M s t hd rv cp ⟨AX0, cX0, AE0, cE0, AH0, cH0⟩ ⟨AX1, cX1, AE1, cE1, AH1, cH1⟩ X0 E0 H0 w9 from ⟨h13.out.below b49.out h13.out.lt, h14.out.below b49.out h14.out.lt, hQ4.out.on b49.out, hR4.out.on b49.out, ⟨hF.out.1, hF.out.2.2.1⟩, ⟨hF.out.2.1, hF.out.2.2.2⟩, HBOK.out⟩)
     clear h13 h14 hQ4 hR4 hB4 hF b49 HPRT HPCP
     as_aux_lemma =>
       obtain ⟨⟨b0, b1, b2, b3, b4, b5, b6, b7, b8, c0, c1, c2⟩, -⟩ : (w9.cell? ⟨g11, 0, none⟩ = some (.int .i64 (N1 : Int)) ∧ w9.cell? ⟨g11, 1, none⟩ = some (.int .i64 (s : Int)) ∧ w9.cell? ⟨g11, 2, none⟩ = some (.int .i64 (t : Int)) ∧ w9.cell? ⟨g11, 3, none⟩ = some (.slice AF (N1 + 1) cF) ∧ w9.cell? ⟨g11, 4, none⟩ = some (.slice AH M cH) ∧ w9.cell? ⟨g11, 5, none⟩ = some (.slice AR M cR) ∧ w9.cell? ⟨g11, 6, none⟩ = some (.slice AC M cC) ∧ w9.cell? ⟨g11, 7, none⟩ = some (.slice AA M cA) ∧ w9.cell? ⟨g11, 8, none⟩ = some (.slice AB M cB) ∧ w9.cell? ⟨w.heap.size + 1, 0, none⟩ = some (.slice APX nX cPX) ∧ w9.cell? ⟨w.heap.size + 1, 1, none⟩ = some (.slice APE nE cPE) ∧ w9.cell? ⟨w.heap.size + 1, 2, none⟩ = some (.slice APH nH cPH)) ∧ True := ⟨HKP.out _ B9.out, trivial⟩
       have hz1 := (HC3.out.below B9.out HC3.out.lt).lt; have hz2 := (HP3.out.below B9.out HP3.out.lt).lt
       go_wp2_with fail
       refine (HRRT.out _ B9.out).mono ?_
       rintro e w10 ⟨rfl, B910⟩
       have B10 := Lib.hid (below_step B9.out B910)
       have HST10 := Lib.hid (HST9.out.on B910)
       clear b0 b1 b2 b3 b4 b5 b6 b7 b8 c0 c1 c2 hz1 hz2 B910 HST9 B9
       go_upto_if 71 with fail
       go_cut [72, 73] (fun _ _ wx => ∃ (Q R : PreS) (X E H : List Int), PairSt g13 g14 N1 M s t hd rv cp Q R X E H wx ∧ Below w3.heap.size w3 wx)
       case first =>
         cases rr with
         | false =>
           go_wp2_with fail
           go_meet
           exact ⟨_, _, _, _, _, HST10.out, B10.out⟩
         | true =>
           obtain ⟨e1, e2, e3, hok⟩ := HRR.out.1 rfl
           have e1' := e1.symm; have e2' := e2.symm; have e3' := e3.symm
           subst e1'; subst e2'; subst e3'
           go_wp2_with fail
           obtain ⟨w11, hw11⟩ : ∃ W, w10.drew = W := ⟨_, rfl⟩
           have B11 := Lib.hid (show Below w3.heap.size w3 w11 by rw [← hw11]; exact B10.out.drew)
           have HST11 := Lib.hid (HST10.out.on (show Below w10.heap.size w10 w11 by rw [← hw11]; exact (Below.refl _ _).drew))
           have hnx := HST11.out.next (Q' := ⟨APX, cPX, APE, cPE, APH, cPH⟩) (R' := ⟨APX, cPX, APE, cPE, APH, cPH⟩) hbb.out.2.2 (HPST.out _ B11.out) (HPST.out _ B11.out) ⟨PFar.low HPP.out (by have := hbb.out.1; have := HB3.out.size; omega), PFar.low HPP.out (by have := hbb.out.2.1; have := HB3.out.size; omega)⟩ ⟨PFar.low HPP.out (by have := hbb.out.1; have := HB3.out.size; omega), PFar.low HPP.out (by have := hbb.out.2.1; have := HB3.out.size; omega)⟩ hok
           have HNX := Lib.hid hnx
           have bnx1 : ∀ x y z, Below w3.heap.size w3 (put3 w11 g13 x y z) := fun x y z => below_put3 B11.out hbb.out.1
           have bnx2 : ∀ x y z x' y' z', Below w3.heap.size w3 (put3 (put3 w11 g13 x y z) g14 x' y' z') := fun x y z x' y' z' => below_put3 (bnx1 x y z) hbb.out.2.1
           have HBX1 := Lib.hid bnx1; have HBX2 := Lib.hid bnx2
           obtain ⟨⟨j0, j1, j2⟩, ⟨j3, j4, j5⟩, hj6⟩ := HST11.out.q.full3
           have hr12 := HST11.out.r.far3 (x := .slice APX M cPX) (y := .slice APE N1 cPE) (z := .slice APH N1 cPH) (fun e => hbb.out.2.2 e.symm)
           have HR12 := Lib.hid hr12
           clear hnx bnx1 bnx2 hr12 B10 HST10
           refine wp_region_held_drew (S := fun W' => W'.cell? ⟨g11, 0, none⟩ = some (.int .i64 (N1 : Int)) ∧ W'.cell? ⟨g11, 1, none⟩ = some (.int .i64 (s : Int)) ∧ W'.cell? ⟨g11, 2, none⟩ = some (.int .i64 (t : Int)) ∧ W'.cell? ⟨g11, 3, none⟩ = some (.slice AF (N1 + 1) cF) ∧ W'.cell? ⟨g11, 4, none⟩ = some (.slice AH M cH) ∧ W'.cell? ⟨g11, 5, none⟩ = some (.slice AR M cR) ∧ W'.cell? ⟨g11, 6, none⟩ = some (.slice AC M cC) ∧ W'.cell? ⟨g11, 7, none⟩ = some (.slice AA M cA) ∧ W'.cell? ⟨g11, 8, none⟩ = some (.slice AB M cB) ∧ W'.cell? ⟨w.heap.size + 1, 0, none⟩ = some (.slice APX M cPX) ∧ W'.cell? ⟨w.heap.size + 1, 1, none⟩ = some (.slice APE N1 cPE) ∧ W'.cell? ⟨w.heap.size + 1, 2, none⟩ = some (.slice APH N1 cPH)) (by kernel_rfl) (by rw [hw11]; exact HKP.out _ B11.out) (fun hS0 => ?_)
           rw [hw11] at hS0 ⊢
           clear hw11
           refine ta (v := ?_) 0 72 rfl ?_ ?_
           rotate_left
           · (intro W' hSw; obtain ⟨b0, b1, b2, b3, b4, b5, b6, b7, b8, c0, c1, c2⟩ := hSw; go_simp; try with_reducible rfl)
           simp only [Act.put, pa, pz, ps]
           refine ta (v := ?_) 1 73 rfl ?_ ?_
           rotate_left
           · (intro W' hSw; obtain ⟨b0, b1, b2, b3, b4, b5, b6, b7, b8, c0, c1, c2⟩ := hSw; go_simp; try with_reducible rfl)
           simp only [Act.put, pa, pz, ps]
           refine wpAnyH_ready (rs := [2]) (by kernel_rfl) (by simp) ?_
           refine AllReadyH.cons rfl (fun K hK => ?_) AllReadyH.nil
           go_simp
           refine hK.out _ _ (HKP.out _ (HBX1.out _ _ _)) (fun hS1 => ?_)
           clear hK K hS0 j0 j1 j2 j3 j4 j5 hj6
           try simp only [Act.put, pa, pz, ps]
           obtain ⟨w12, hw12⟩ : ∃ W, put3 w11 g13 (.slice APX M cPX) (.slice APE N1 cPE) (.slice APH N1 cPH) = W := ⟨_, rfl⟩
           have hnx := HNX.out
           have HR12' := HR12.out
           have hbx2 := HBX2.out (.slice APX M cPX) (.slice APE N1 cPE) (.slice APH N1 cPH) (.slice APX M cPX) (.slice APE N1 cPE) (.slice APH N1 cPH)
           rw [hw12] at hnx HR12' hbx2
           dsimp only [put3] at hw12
           rw [hw12] at hS1 ⊢
           clear hw12
           have HNX := Lib.hid hnx; have HBX2 := Lib.hid hbx2
           obtain ⟨⟨j0, j1, j2⟩, ⟨j3, j4, j5⟩, hj6⟩ := HR12'.full3
           clear hnx hbx2 HR12'
           refine wpAnyH_ready (rs := [3]) (by kernel_rfl) (by simp) ?_
           refine AllReadyH.cons rfl (fun K hK => ?_) AllReadyH.nil
           go_simp
           refine hK.out _ _ (HKP.out _ HBX2.out) (fun hS2 => ?_)
           clear hK K hS1 hS2 j0 j1 j2 j3 j4 j5 hj6
           try simp only [Act.put, pa, pz, ps]
           refine wpAnyH_done (by kernel_rfl) ?_ _
           go_wp2_with fail
           go_meet
           exact ⟨_, _, _, _, _, HNX.out, HBX2.out⟩
       case rest =>
         obtain ⟨Q, R, X, E, H, HSTx, Bx⟩ := hcut
         have HST0 := Lib.hid HSTx; have B0 := Lib.hid Bx
         clear HSTx Bx HST10 B10 HRRT HRR HPST HKP
         as_aux_lemma =>
           have hq0 : ∃ q, min nu 60 = q := ⟨_, rfl⟩
           obtain ⟨q, hq⟩ := hq0
           have h0q : (0 : Int) ≤ (q : Int) := by omega
           have hqc : (q : Int) ≤ (cu : Int) := by omega
           have hsl := bytes_slice AU nu cu q (by omega)
           have hm1 : min (nu : Int) 60 = (q : Int) := by omega
           have hm2 : (if (60 : Int) < (nu : Int) then (60 : Int) else (nu : Int)) = (q : Int) := by rw [← hm1]; split <;> omega
           have hm3 : (if 60 < nu then (60 : Int) else (nu : Int)) = (q : Int) := by rw [← hm1]; split <;> omega
           have hm4 : (if (nu : Int) < 60 then (nu : Int) else (60 : Int)) = (q : Int) := by rw [← hm1]; split <;> omega
           have hm5 : (if nu < 60 then (nu : Int) else (60 : Int)) = (q : Int) := by rw [← hm1]; split <;> omega
           have hqn : q ≤ nu := by omega
           have HQN := Lib.hid hqn
           have HQ6 := Lib.hid (show q ≤ 60 by omega)
           go_wp2_with fail
           clear hm1 hm2 hm3 hm4 hm5 hsl h0q hqc hqn hq
           go_loopw [16, 17, 18, 19, 20, 21, 22, 23, 24, 25, 26, 27, 28, 29, 30, 31, 80] (fun _ _ _ _ _ _ _ _ _ _ _ _ _ _ _ _ i wr => ∃ (k : Nat) (Q R : PreS) (X E H : List Int), k ≤ q ∧ i = .int .i64 k ∧ PairSt g13 g14 N1 M s t hd rv cp Q R X E H wr ∧ Below w3.heap.size w3 wr) (fun _ _ _ _ _ _ _ _ _ _ _ _ _ _ _ _ i _ => q - (intOf i).toNat)
           case atStart => exact ⟨0, Q, R, X, E, H, Nat.zero_le _, rfl, HST0.out, B0.out⟩
           case round =>
             clear HST0 B0
             obtain ⟨k, ⟨AXq, cXq, AEq, cEq, AHq, cHq⟩, ⟨AXr, cXr, AEr, cEr, AHr, cHr⟩, X, E, H, hk, rfl, HST, Br⟩ := hrel
             have HSr := Lib.hid HST; have HBr := Lib.hid Br
             clear HST Br
             have HK14 := Lib.hid (show ∀ W', Below wr.heap.size wr W' → W'.cell? ⟨g11, 0, none⟩ = some (.int .i64 (N1 : Int)) ∧ W'.cell? ⟨g11, 1, none⟩ = some (.int .i64 (s : Int)) ∧ W'.cell? ⟨g11, 2, none⟩ = some (.int .i64 (t : Int)) ∧ W'.cell? ⟨g11, 3, none⟩ = some (.slice AF (N1 + 1) cF) ∧ W'.cell? ⟨g11, 4, none⟩ = some (.slice AH M cH) ∧ W'.cell? ⟨g11, 5, none⟩ = some (.slice AR M cR) ∧ W'.cell? ⟨g11, 6, none⟩ = some (.slice AC M cC) ∧ W'.cell? ⟨g11, 7, none⟩ = some (.slice AA M cA) ∧ W'.cell? ⟨g11, 8, none⟩ = some (.slice AB M cB) ∧ W'.cell? ⟨g13, 0, none⟩ = some (.slice AXq M cXq) ∧ W'.cell? ⟨g13, 1, none⟩ = some (.slice AEq N1 cEq) ∧ W'.cell? ⟨g13, 2, none⟩ = some (.slice AHq N1 cHq) ∧ W'.cell? ⟨g14, 0, none⟩ = some (.slice AXr M cXr) ∧ W'.cell? ⟨g14, 1, none⟩ = some (.slice AEr N1 cEr) ∧ W'.cell? ⟨g14, 2, none⟩ = some (.slice AHr N1 cHr) from fun W' hb => by
               have h9 := HKEEP.out W' (below_step HBr.out hb)
               have hq := (HSr.out.on hb).q.full3.1
               have hr := (HSr.out.on hb).r.full3.1
               exact ⟨h9.1, h9.2.1, h9.2.2.1, h9.2.2.2.1, h9.2.2.2.2.1, h9.2.2.2.2.2.1, h9.2.2.2.2.2.2.1, h9.2.2.2.2.2.2.2.1, h9.2.2.2.2.2.2.2.2, hq.1, hq.2.1, hq.2.2, hr.1, hr.2.1, hr.2.2⟩)
             have hz13 := HSr.out.q.lt; have hz14 := HSr.out.r.lt
             have hz11 := (HC3.out.below HBr.out HC3.out.lt).lt
             have hlx := HSr.out.ok.bal.1; have hle := HSr.out.ok.le; have hlh := HSr.out.ok.lh
             by_cases hlt : k < q
             · --AUX
               obtain ⟨b, off, x, hAe, hb, hx, cx⟩ := bytes_at HU.out (k := k) (by have := HQN.out; omega)
               have cxr := ((below_step HB3.out HBr.out).cell (p := ⟨b, off + k, none⟩) hb).trans cx
               have hbz := (below_step HB3.out HBr.out).size
               have hbw : b < wr.heap.size := by omega
               subst hAe
               have hxr := HUR.out x (List.mem_of_getElem? hx)
               obtain ⟨x, rfl⟩ := Int.eq_ofNat_of_zero_le hxr.1
               have hx255 : x ≤ 255 := by omega
               have hmay := may_is N1 M s t ⟨AF, cF, AH, cH, AR, cR, AC, cC, AA, cA, AB, cB⟩ ⟨AXq, cXq, AEq, cEq, AHq, cHq⟩ fst hd rv ai cp bk X E H wr HGG.out (HI3.out.on HBr.out) HSr.out.sq HSr.out.ok
               have hrmay := fun W (hb : Below wr.heap.size wr W) => rmay_is N1 M s t ⟨AF, cF, AH, cH, AR, cR, AC, cC, AA, cA, AB, cB⟩ ⟨AXr, cXr, AEr, cEr, AHr, cHr⟩ fst hd rv ai cp bk X E H W HGG.out (HI3.out.on (below_step HBr.out hb)) (HSr.out.on hb).sr HSr.out.ok
               have hma : ∀ j a, (mayA fst hd rv X H (selTo (actB s t E) N1))[j]? = some a → a < M ∧ actB s t E (hd (rv a)) = true ∧ admB hd rv X H a = true := fun j a h => by
                 have := List.mem_of_getElem? h
                 rw [mayA_sel HGG.out.g N1 (Nat.le_refl _), HGG.out.g.fN] at this
                 have := sel_mem.1 this
                 simpa using this
               have hmv : ∀ j u, (mayV fst hd rv X H (selTo (actB s t E) N1))[j]? = some u → u < N1 ∧ actB s t E u = true ∧ downs fst hd rv X H u = [] := fun j u h => by
                 have := List.mem_of_getElem? h
                 simp only [mayV, List.mem_filter, List.isEmpty_iff] at this
                 exact ⟨(sel_mem.1 this.1).1, (sel_mem.1 this.1).2, this.2⟩
               have hal : (mayA fst hd rv X H (selTo (actB s t E) N1)).length ≤ M := by rw [mayA_sel HGG.out.g N1 (Nat.le_refl _), HGG.out.g.fN]; exact sel_len _ _
               have hvl : (mayV fst hd rv X H (selTo (actB s t E) N1)).length ≤ N1 := Nat.le_trans mayV_len (sel_len _ _)
               obtain ⟨la, hla⟩ : ∃ a, mayA fst hd rv X H (selTo (actB s t E) N1) = a := ⟨_, rfl⟩
               obtain ⟨lv, hlv⟩ : ∃ v, mayV fst hd rv X H (selTo (actB s t E) N1) = v := ⟨_, rfl⟩
               rw [hla, hlv] at hmay
               simp only [hla, hlv] at hrmay
               rw [hla] at hma hal; rw [hlv] at hmv hvl
               dsimp only [csrW, preW] at hmay hrmay
               have HMAY := Lib.hid hmay; have HRMAY := Lib.hid hrmay; have HMA := Lib.hid hma; have HMV := Lib.hid hmv
               obtain ⟨⟨b0, b1, b2, b3, b4, b5, b6, b7, b8, c0, c1, c2, d0, d1, d2⟩, -⟩ : (wr.cell? ⟨g11, 0, none⟩ = some (.int .i64 (N1 : Int)) ∧ wr.cell? ⟨g11, 1, none⟩ = some (.int .i64 (s : Int)) ∧ wr.cell? ⟨g11, 2, none⟩ = some (.int .i64 (t : Int)) ∧ wr.cell? ⟨g11, 3, none⟩ = some (.slice AF (N1 + 1) cF) ∧ wr.cell? ⟨g11, 4, none⟩ = some (.slice AH M cH) ∧ wr.cell? ⟨g11, 5, none⟩ = some (.slice AR M cR) ∧ wr.cell? ⟨g11, 6, none⟩ = some (.slice AC M cC) ∧ wr.cell? ⟨g11, 7, none⟩ = some (.slice AA M cA) ∧ wr.cell? ⟨g11, 8, none⟩ = some (.slice AB M cB) ∧ wr.cell? ⟨g13, 0, none⟩ = some (.slice AXq M cXq) ∧ wr.cell? ⟨g13, 1, none⟩ = some (.slice AEq N1 cEq) ∧ wr.cell? ⟨g13, 2, none⟩ = some (.slice AHq N1 cHq) ∧ wr.cell? ⟨g14, 0, none⟩ = some (.slice AXr M cXr) ∧ wr.cell? ⟨g14, 1, none⟩ = some (.slice AEr N1 cEr) ∧ wr.cell? ⟨g14, 2, none⟩ = some (.slice AHr N1 cHr)) ∧ True := ⟨HK14.out _ (Below.refl _ _), trivial⟩
               clear hx cx hxr hmay hrmay hma hmv hla hlv hbz
               go_wp2_with fail
               refine HMAY.out.mono ?_
               rintro e w5 ⟨M1, m1, M2, m2, rfl, X5⟩
               clear b0 b1 b2 b3 b4 b5 b6 b7 b8 c0 c1 c2 d0 d1 d2 cxr HMAY
               obtain ⟨⟨b0, b1, b2, b3, b4, b5, b6, b7, b8, c0, c1, c2, d0, d1, d2⟩, -⟩ : (w5.cell? ⟨g11, 0, none⟩ = some (.int .i64 (N1 : Int)) ∧ w5.cell? ⟨g11, 1, none⟩ = some (.int .i64 (s : Int)) ∧ w5.cell? ⟨g11, 2, none⟩ = some (.int .i64 (t : Int)) ∧ w5.cell? ⟨g11, 3, none⟩ = some (.slice AF (N1 + 1) cF) ∧ w5.cell? ⟨g11, 4, none⟩ = some (.slice AH M cH) ∧ w5.cell? ⟨g11, 5, none⟩ = some (.slice AR M cR) ∧ w5.cell? ⟨g11, 6, none⟩ = some (.slice AC M cC) ∧ w5.cell? ⟨g11, 7, none⟩ = some (.slice AA M cA) ∧ w5.cell? ⟨g11, 8, none⟩ = some (.slice AB M cB) ∧ w5.cell? ⟨g13, 0, none⟩ = some (.slice AXq M cXq) ∧ w5.cell? ⟨g13, 1, none⟩ = some (.slice AEq N1 cEq) ∧ w5.cell? ⟨g13, 2, none⟩ = some (.slice AHq N1 cHq) ∧ w5.cell? ⟨g14, 0, none⟩ = some (.slice AXr M cXr) ∧ w5.cell? ⟨g14, 1, none⟩ = some (.slice AEr N1 cEr) ∧ w5.cell? ⟨g14, 2, none⟩ = some (.slice AHr N1 cHr)) ∧ True := ⟨HK14.out _ X5.bel, trivial⟩
               have hz5 := X5.bel.size
               have y13 : g13 < w5.heap.size := by omega
               have y14 : g14 < w5.heap.size := by omega
               have y11 : g11 < w5.heap.size := by omega
               have HX5 := Lib.hid X5
               clear X5
               go_wp2_with fail
               refine (HRMAY.out _ HX5.out.bel).mono ?_
               rintro e w6 ⟨M3, m3, M4, m4, rfl, X6⟩
               clear b0 b1 b2 b3 b4 b5 b6 b7 b8 c0 c1 c2 d0 d1 d2 HRMAY y13 y14 y11 hz5
               have B6 := Lib.hid (below_step HX5.out.bel X6.bel)
               have I1 := Lib.hid ((own_nums (HX5.out.held.own 0 _ rfl)).on X6.bel); have I2 := Lib.hid ((own_nums (HX5.out.held.own 1 _ rfl)).on X6.bel)
               have I3 := Lib.hid (own_nums (X6.held.own 0 _ rfl)); have I4 := Lib.hid (own_nums (X6.held.own 1 _ rfl))
               clear X6 HX5
               have hs14 := fun W (hb : Below w6.heap.size w6 W) => samePre_is M N1 N1 M N1 N1 ⟨AXq, cXq, AEq, cEq, AHq, cHq⟩ ⟨AXr, cXr, AEr, cEr, AHr, cHr⟩ X E H X E H true W (HSr.out.on (below_step B6.out hb)).sq (HSr.out.on (below_step B6.out hb)).sr (by omega) (by omega) (by omega) (by omega) (by omega) (by omega) (by simp)
               have hi1 := fun W (hb : Below w6.heap.size w6 W) => ints_is m1 m3 (I1.out.on hb) (I3.out.on hb) (by omega) (by omega) (v := true) (by simp)
               have hi2 := fun W (hb : Below w6.heap.size w6 W) => ints_is m2 m4 (I2.out.on hb) (I4.out.on hb) (by omega) (by omega) (v := true) (by simp)
               have e0 : activeTo s t N1 M M N1 N1 E = selTo (actB s t E) N1 := if_pos ⟨rfl, rfl, rfl⟩
               have hac := fun W (hb : Below w6.heap.size w6 W) => active_is N1 M s t M N1 N1 ⟨AF, cF, AH, cH, AR, cR, AC, cC, AA, cA, AB, cB⟩ ⟨AXq, cXq, AEq, cEq, AHq, cHq⟩ fst hd rv X E H W HGG.out.g (HI3.out.on (below_step (below_step HBr.out B6.out) hb)).gi (HSr.out.on (below_step B6.out hb)).sq HGG.out.hs HGG.out.ht (by omega) hN
               rw [e0] at hac
               have hrac := fun W (hb : Below w6.heap.size w6 W) => ractive_is N1 M s t ⟨AF, cF, AH, cH, AR, cR, AC, cC, AA, cA, AB, cB⟩ ⟨AXr, cXr, AEr, cEr, AHr, cHr⟩ X E H W (HSr.out.on (below_step B6.out hb)).sr hN (by omega)
               have hrt := fun W (hb : Below w6.heap.size w6 W) => pright_is N1 M s t M N1 N1 ⟨AF, cF, AH, cH, AR, cR, AC, cC, AA, cA, AB, cB⟩ ⟨AXq, cXq, AEq, cEq, AHq, cHq⟩ fst hd rv ai cp bk X E H W HGG.out (HI3.out.on (below_step (below_step HBr.out B6.out) hb)) (HSr.out.on (below_step B6.out hb)).sq (StIs.inX HSr.out.ok HGG.out) (StIs.inH HSr.out.ok HGG.out) true ⟨fun _ => ⟨rfl, rfl, rfl, HSr.out.ok⟩, fun _ => rfl⟩
               have hll := sel_len (actB s t E) N1
               obtain ⟨L, hL⟩ : ∃ L, selTo (actB s t E) N1 = L := ⟨_, rfl⟩
               rw [hL] at hac hrac hll
               dsimp only [csrW, preW] at hs14 hac hrac hrt
               have HS14 := Lib.hid hs14; have HI1 := Lib.hid hi1; have HI2 := Lib.hid hi2; have HAC := Lib.hid hac; have HRAC := Lib.hid hrac; have HRT := Lib.hid hrt
               clear hs14 hi1 hi2 hac hrac hrt e0 hL
               go_wp2_with fail
               obtain ⟨w7, hw7⟩ : ∃ W, w6.drew = W := ⟨_, rfl⟩
               have b7 := Lib.hid (show Below w6.heap.size w6 w7 by rw [← hw7]; exact (Below.refl _ _).drew)
               have HKQ := Lib.hid (show ∀ W', Below w6.heap.size w6 W' → W'.cell? ⟨g11, 0, none⟩ = some (.int .i64 (N1 : Int)) ∧ W'.cell? ⟨g11, 1, none⟩ = some (.int .i64 (s : Int)) ∧ W'.cell? ⟨g11, 2, none⟩ = some (.int .i64 (t : Int)) ∧ W'.cell? ⟨g11, 3, none⟩ = some (.slice AF (N1 + 1) cF) ∧ W'.cell? ⟨g11, 4, none⟩ = some (.slice AH M cH) ∧ W'.cell? ⟨g11, 5, none⟩ = some (.slice AR M cR) ∧ W'.cell? ⟨g11, 6, none⟩ = some (.slice AC M cC) ∧ W'.cell? ⟨g11, 7, none⟩ = some (.slice AA M cA) ∧ W'.cell? ⟨g11, 8, none⟩ = some (.slice AB M cB) ∧ W'.cell? ⟨g13, 0, none⟩ = some (.slice AXq M cXq) ∧ W'.cell? ⟨g13, 1, none⟩ = some (.slice AEq N1 cEq) ∧ W'.cell? ⟨g13, 2, none⟩ = some (.slice AHq N1 cHq) ∧ W'.cell? ⟨g14, 0, none⟩ = some (.slice AXr M cXr) ∧ W'.cell? ⟨g14, 1, none⟩ = some (.slice AEr N1 cEr) ∧ W'.cell? ⟨g14, 2, none⟩ = some (.slice AHr N1 cHr) from fun W' hb => HK14.out W' (below_step B6.out hb))
               refine wp_region_held_drew (S := fun W' => W'.cell? ⟨g11, 0, none⟩ = some (.int .i64 (N1 : Int)) ∧ W'.cell? ⟨g11, 1, none⟩ = some (.int .i64 (s : Int)) ∧ W'.cell? ⟨g11, 2, none⟩ = some (.int .i64 (t : Int)) ∧ W'.cell? ⟨g11, 3, none⟩ = some (.slice AF (N1 + 1) cF) ∧ W'.cell? ⟨g11, 4, none⟩ = some (.slice AH M cH) ∧ W'.cell? ⟨g11, 5, none⟩ = some (.slice AR M cR) ∧ W'.cell? ⟨g11, 6, none⟩ = some (.slice AC M cC) ∧ W'.cell? ⟨g11, 7, none⟩ = some (.slice AA M cA) ∧ W'.cell? ⟨g11, 8, none⟩ = some (.slice AB M cB) ∧ W'.cell? ⟨g13, 0, none⟩ = some (.slice AXq M cXq) ∧ W'.cell? ⟨g13, 1, none⟩ = some (.slice AEq N1 cEq) ∧ W'.cell? ⟨g13, 2, none⟩ = some (.slice AHq N1 cHq) ∧ W'.cell? ⟨g14, 0, none⟩ = some (.slice AXr M cXr) ∧ W'.cell? ⟨g14, 1, none⟩ = some (.slice AEr N1 cEr) ∧ W'.cell? ⟨g14, 2, none⟩ = some (.slice AHr N1 cHr)) (by kernel_rfl) (by rw [hw7]; exact HKQ.out _ b7.out) (fun hS0 => ?_)
               rw [hw7] at hS0 ⊢
               clear hw7
               refine ta (v := ?_) 0 96 rfl ?_ ?_
               rotate_left
               · (intro W' hSw; obtain ⟨b0, b1, b2, b3, b4, b5, b6, b7, b8, c0, c1, c2, d0, d1, d2⟩ := hSw; go_simp; try with_reducible rfl)
               simp only [Act.put, pa, pz, ps]
               refine ta (v := ?_) 1 97 rfl ?_ ?_
               rotate_left
               · (intro W' hSw; obtain ⟨b0, b1, b2, b3, b4, b5, b6, b7, b8, c0, c1, c2, d0, d1, d2⟩ := hSw; go_simp; try with_reducible rfl)
               simp only [Act.put, pa, pz, ps]
               refine wpAnyH_ready (rs := [2]) (by kernel_rfl) (by simp) ?_
               refine AllReadyH.cons rfl (fun K hK => ?_) AllReadyH.nil
               go_simp
               refine (HS14.out _ b7.out).mono ?_
               rintro e w8 ⟨rfl, BB⟩
               have b8 := Lib.hid (below_step b7.out BB)
               refine hK.out _ _ (HKQ.out _ b8.out) (fun hS1 => ?_)
               clear hK K hS0 BB b7
               try simp only [Act.put, pa, pz, ps]
               refine ta (v := ?_) 3 99 rfl ?_ ?_
               rotate_left
               · (intro W' hSw; obtain ⟨b0, b1, b2, b3, b4, b5, b6, b7, b8, c0, c1, c2, d0, d1, d2⟩ := hSw; go_simp; try with_reducible rfl)
               simp only [Act.put, pa, pz, ps]
               refine ta (v := ?_) 4 100 rfl ?_ ?_
               rotate_left
               · (intro W' hSw; obtain ⟨b0, b1, b2, b3, b4, b5, b6, b7, b8, c0, c1, c2, d0, d1, d2⟩ := hSw; go_simp; try with_reducible rfl)
               simp only [Act.put, pa, pz, ps]
               refine ta (v := ?_) 5 101 rfl ?_ ?_
               rotate_left
               · (intro W' hSw; obtain ⟨b0, b1, b2, b3, b4, b5, b6, b7, b8, c0, c1, c2, d0, d1, d2⟩ := hSw; go_simp; try with_reducible rfl)
               simp only [Act.put, pa, pz, ps]
               refine ta (v := ?_) 6 102 rfl ?_ ?_
               rotate_left
               · (intro W' hSw; obtain ⟨b0, b1, b2, b3, b4, b5, b6, b7, b8, c0, c1, c2, d0, d1, d2⟩ := hSw; go_simp; try with_reducible rfl)
               simp only [Act.put, pa, pz, ps]
               refine wpAnyH_ready (rs := [7]) (by kernel_rfl) (by simp) ?_
               refine AllReadyH.cons rfl (fun K hK => ?_) AllReadyH.nil
               go_simp
               refine (HI1.out _ b8.out).mono ?_
               rintro e w9 ⟨rfl, BB⟩
               have b9 := Lib.hid (below_step b8.out BB)
               refine hK.out _ _ (HKQ.out _ b9.out) (fun hS2 => ?_)
               clear hK K hS1 BB b8
               try simp only [Act.put, pa, pz, ps]
               refine ta (v := ?_) 8 104 rfl ?_ ?_
               rotate_left
               · (intro W' hSw; obtain ⟨b0, b1, b2, b3, b4, b5, b6, b7, b8, c0, c1, c2, d0, d1, d2⟩ := hSw; go_simp; try with_reducible rfl)
               simp only [Act.put, pa, pz, ps]
               refine ta (v := ?_) 9 105 rfl ?_ ?_
               rotate_left
               · (intro W' hSw; obtain ⟨b0, b1, b2, b3, b4, b5, b6, b7, b8, c0, c1, c2, d0, d1, d2⟩ := hSw; go_simp; try with_reducible rfl)
               simp only [Act.put, pa, pz, ps]
               refine ta (v := ?_) 10 106 rfl ?_ ?_
               rotate_left
               · (intro W' hSw; obtain ⟨b0, b1, b2, b3, b4, b5, b6, b7, b8, c0, c1, c2, d0, d1, d2⟩ := hSw; go_simp; try with_reducible rfl)
               simp only [Act.put, pa, pz, ps]
               refine ta (v := ?_) 11 107 rfl ?_ ?_
               rotate_left
               · (intro W' hSw; obtain ⟨b0, b1, b2, b3, b4, b5, b6, b7, b8, c0, c1, c2, d0, d1, d2⟩ := hSw; go_simp; try with_reducible rfl)
               simp only [Act.put, pa, pz, ps]
               refine ta (v := ?_) 12 108 rfl ?_ ?_
               rotate_left
               · (intro W' hSw; obtain ⟨b0, b1, b2, b3, b4, b5, b6, b7, b8, c0, c1, c2, d0, d1, d2⟩ := hSw; go_simp; try with_reducible rfl)
               simp only [Act.put, pa, pz, ps]
               refine wpAnyH_ready (rs := [13]) (by kernel_rfl) (by simp) ?_
               refine AllReadyH.cons rfl (fun K hK => ?_) AllReadyH.nil
               go_simp
               refine (HI2.out _ b9.out).mono ?_
               rintro e w10 ⟨rfl, BB⟩
               have b10 := Lib.hid (below_step b9.out BB)
               refine hK.out _ _ (HKQ.out _ b10.out) (fun hS3 => ?_)
               clear hK K hS2 BB b9
               try simp only [Act.put, pa, pz, ps]
               refine ta (v := ?_) 14 110 rfl ?_ ?_
               rotate_left
               · (intro W' hSw; obtain ⟨b0, b1, b2, b3, b4, b5, b6, b7, b8, c0, c1, c2, d0, d1, d2⟩ := hSw; go_simp; try with_reducible rfl)
               simp only [Act.put, pa, pz, ps]
               refine ta (v := ?_) 15 111 rfl ?_ ?_
               rotate_left
               · (intro W' hSw; obtain ⟨b0, b1, b2, b3, b4, b5, b6, b7, b8, c0, c1, c2, d0, d1, d2⟩ := hSw; go_simp; try with_reducible rfl)
               simp only [Act.put, pa, pz, ps]
               refine ta (v := ?_) 16 112 rfl ?_ ?_
               rotate_left
               · (intro W' hSw; obtain ⟨b0, b1, b2, b3, b4, b5, b6, b7, b8, c0, c1, c2, d0, d1, d2⟩ := hSw; go_simp; try with_reducible rfl)
               simp only [Act.put, pa, pz, ps]
               refine ta (v := ?_) 17 113 rfl ?_ ?_
               rotate_left
               · (intro W' hSw; obtain ⟨b0, b1, b2, b3, b4, b5, b6, b7, b8, c0, c1, c2, d0, d1, d2⟩ := hSw; go_simp; try with_reducible rfl)
               simp only [Act.put, pa, pz, ps]
               refine ta (v := ?_) 18 114 rfl ?_ ?_
               rotate_left
               · (intro W' hSw; obtain ⟨b0, b1, b2, b3, b4, b5, b6, b7, b8, c0, c1, c2, d0, d1, d2⟩ := hSw; go_simp; try with_reducible rfl)
               simp only [Act.put, pa, pz, ps]
               refine ta (v := ?_) 20 116 rfl ?_ ?_
               rotate_left
               · (intro W' hSw; obtain ⟨b0, b1, b2, b3, b4, b5, b6, b7, b8, c0, c1, c2, d0, d1, d2⟩ := hSw; go_simp; try with_reducible rfl)
               simp only [Act.put, pa, pz, ps]
               refine ta (v := ?_) 21 117 rfl ?_ ?_
               rotate_left
               · (intro W' hSw; obtain ⟨b0, b1, b2, b3, b4, b5, b6, b7, b8, c0, c1, c2, d0, d1, d2⟩ := hSw; go_simp; try with_reducible rfl)
               simp only [Act.put, pa, pz, ps]
               refine wpAnyH_ready (rs := [19]) (by kernel_rfl) (by simp) ?_
               refine AllReadyH.cons rfl (fun K hK => ?_) AllReadyH.nil
               go_simp
               refine (HAC.out _ b10.out).mono ?_
               rintro e w11 ⟨M5, m5, rfl, o5, B11⟩
               have b11 := Lib.hid (below_step b10.out B11)
               have I5 := Lib.hid (own_nums o5)
               refine hK.out _ _ (HKQ.out _ b11.out) (fun hS4 => ?_)
               clear hK K hS3 B11 o5 b10
               try simp only [Act.put, pa, pz, ps]
               refine wpAnyH_ready (rs := [22]) (by kernel_rfl) (by simp) ?_
               refine AllReadyH.cons rfl (fun K hK => ?_) AllReadyH.nil
               go_simp
               refine (HRAC.out _ b11.out).mono ?_
               rintro e w12 ⟨M6, m6, rfl, o6, B12⟩
               have b12 := Lib.hid (below_step b11.out B12)
               have hi5 := ints_is m5 m6 (I5.out.on B12) (own_nums o6) (by omega) (by omega) (v := true) (by simp)
               have HI5 := Lib.hid hi5
               refine hK.out _ _ (HKQ.out _ b12.out) (fun hS5 => ?_)
               clear hK K hS4 B12 o6 b11 I5 hi5
               try simp only [Act.put, pa, pz, ps]
               refine wpAnyH_ready (rs := [23]) (by kernel_rfl) (by simp) ?_
               refine AllReadyH.cons rfl (fun K hK => ?_) AllReadyH.nil
               go_simp
               refine HI5.out.mono ?_
               rintro e w13 ⟨rfl, B13⟩
               have b13 := Lib.hid (below_step b12.out B13)
               refine hK.out _ _ (HKQ.out _ b13.out) (fun hS6 => ?_)
               clear hK K hS5 B13 b12 HI5
               try simp only [Act.put, pa, pz, ps]
               refine ta (v := ?_) 24 120 rfl ?_ ?_
               rotate_left
               · (intro W' hSw; obtain ⟨b0, b1, b2, b3, b4, b5, b6, b7, b8, c0, c1, c2, d0, d1, d2⟩ := hSw; go_simp; try with_reducible rfl)
               simp only [Act.put, pa, pz, ps]
               refine ta (v := ?_) 25 121 rfl ?_ ?_
               rotate_left
               · (intro W' hSw; obtain ⟨b0, b1, b2, b3, b4, b5, b6, b7, b8, c0, c1, c2, d0, d1, d2⟩ := hSw; go_simp; try with_reducible rfl)
               simp only [Act.put, pa, pz, ps]
               refine ta (v := ?_) 26 122 rfl ?_ ?_
               rotate_left
               · (intro W' hSw; obtain ⟨b0, b1, b2, b3, b4, b5, b6, b7, b8, c0, c1, c2, d0, d1, d2⟩ := hSw; go_simp; try with_reducible rfl)
               simp only [Act.put, pa, pz, ps]
               refine ta (v := ?_) 27 123 rfl ?_ ?_
               rotate_left
               · (intro W' hSw; obtain ⟨b0, b1, b2, b3, b4, b5, b6, b7, b8, c0, c1, c2, d0, d1, d2⟩ := hSw; go_simp; try with_reducible rfl)
               simp only [Act.put, pa, pz, ps]
               refine ta (v := ?_) 28 124 rfl ?_ ?_
               rotate_left
               · (intro W' hSw; obtain ⟨b0, b1, b2, b3, b4, b5, b6, b7, b8, c0, c1, c2, d0, d1, d2⟩ := hSw; go_simp; try with_reducible rfl)
               simp only [Act.put, pa, pz, ps]
               refine wpAnyH_ready (rs := [29]) (by kernel_rfl) (by simp) ?_
               refine AllReadyH.cons rfl (fun K hK => ?_) AllReadyH.nil
               go_simp
               refine (HRT.out _ b13.out).mono ?_
               rintro e wA ⟨rfl, BB⟩
               have b14 := Lib.hid (below_step b13.out BB)
               refine hK.out _ _ (HKQ.out _ b14.out) (fun hS7 => ?_)
               clear hK K hS6 BB b13
               try simp only [Act.put, pa, pz, ps]
               refine ta (v := ?_) 30 126 rfl ?_ ?_
               rotate_left
               · (intro W' hSw; obtain ⟨b0, b1, b2, b3, b4, b5, b6, b7, b8, c0, c1, c2, d0, d1, d2⟩ := hSw; go_simp; try with_reducible rfl)
               simp only [Act.put, pa, pz, ps]
               refine ta (v := ?_) 31 127 rfl ?_ ?_
               rotate_left
               · (intro W' hSw; obtain ⟨b0, b1, b2, b3, b4, b5, b6, b7, b8, c0, c1, c2, d0, d1, d2⟩ := hSw; go_simp; try with_reducible rfl)
               simp only [Act.put, pa, pz, ps]
               refine wpAnyH_done (by kernel_rfl) ?_ _
               clear hS7 HAC HRAC HK14 HKQ
               have HBA := Lib.hid (below_step B6.out b14.out); have HSA := Lib.hid (HSr.out.on (below_step B6.out b14.out)); have HLA := Lib.hid b14.out
               clear b14 I1 I2 B6
               as_aux_lemma =>
                 obtain ⟨na, hna⟩ : ∃ n, la.length = n := ⟨_, rfl⟩
                 obtain ⟨nv, hnv⟩ : ∃ n, lv.length = n := ⟨_, rfl⟩
                 have I3' := I3.out; have I4' := I4.out
                 rw [hna] at I3' ; rw [hnv] at I4'
                 rw [hna, hnv]
                 rw [hna] at hal; rw [hnv] at hvl
                 have HI3a := Lib.hid I3'; have HI4a := Lib.hid I4'; have HNA := Lib.hid hna; have HNV := Lib.hid hnv
                 clear I3 I4 I3' I4' hna hnv
                 go_upto_region 17 with fail
                 obtain ⟨pb, hpb⟩ : ∃ pb : Bool, pb = decide (0 < na ∧ (x % 2 = 0 ∨ nv = 0)) := ⟨_, rfl⟩
                 have HPBB := Lib.hid hpb
                 clear hpb
                 go_cut [130, 131, 132, 133, 134, 135, 136, 137, 138, 139, 140, 141, 142, 143] (fun s130 _ _ _ _ _ _ _ _ _ _ _ _ _ wx => s130 = .bool pb ∧ wx = wA)
                 case first =>
                   by_cases ea : na = 0
                   · have hp : pb = false := by rw [HPBB.out]; simp [ea]
                     subst hp
                     subst ea
                     go_wp2_with fail
                     go_meet
                     first | exact ⟨rfl, rfl⟩ | trivial
                   · have ea1 : 0 < na := by omega
                     by_cases ex : x % 2 = 0
                     · have hp : pb = true := by rw [HPBB.out]; simp [ea1, ex]
                       subst hp
                       go_wp2_with fail
                       go_meet
                       first | exact ⟨rfl, rfl⟩ | trivial
                     · have ex1 : x % 2 = 1 := by omega
                       by_cases ev : nv = 0
                       · have hp : pb = true := by rw [HPBB.out]; simp [ea1, ev]
                         subst hp
                         subst ev
                         clear ex
                         go_wp2_with fail
                         go_meet
                         first | exact ⟨rfl, rfl⟩ | trivial
                       · have hp : pb = false := by rw [HPBB.out]; simp [ex, ev]
                         subst hp
                         have ev1 : 0 < nv := by omega
                         clear ex
                         go_wp2_with fail
                         go_meet
                         first | exact ⟨rfl, rfl⟩ | exact ⟨congrArg Value.bool (by rw [Bool.or_eq_false_iff]; constructor <;> rw [beq_eq_false_iff_ne] <;> omega), rfl⟩
                 case rest =>
                   obtain ⟨rfl, ewc⟩ := hcut
                   replace ewc := ewc.symm
                   subst ewc
                   cases pb with
                   | true =>
                     as_aux_lemma =>
                       have hpp := HPBB.out
                       have ea1 : 0 < na := by have := of_decide_eq_true hpp.symm; exact this.1
                       clear hpp
                       obtain ⟨hf2, hhf⟩ : ∃ h, x / 2 = h := ⟨_, rfl⟩
                       obtain ⟨j, hj⟩ : ∃ j, hf2 % na = j := ⟨_, rfl⟩
                       have hjl : j < na := by rw [← hj]; exact Nat.mod_lt _ ea1
                       have hqi : IntKind.i64.wrap ((x : Int) / 2) = (hf2 : Int) := by rw [wrap_in (by omega) (by omega), ← hhf]; omega
                       have hji : (hf2 : Int).tmod (na : Int) = (j : Int) := by rw [Int.tmod_eq_emod_of_nonneg (by omega), ← hj]; omega
                       clear hhf hj
                       obtain ⟨aj, haj⟩ : ∃ aj, la[j]? = some aj := ⟨_, List.getElem?_eq_getElem (by have := HNA.out; omega)⟩
                       obtain ⟨mm1, mm2, mm3⟩ := HMA.out j aj haj
                       obtain ⟨bL, oL, hLa⟩ := HI3a.out.adr ea1
                       subst hLa
                       have LaI := Lib.hid HI3a.out
                       have LaK := Lib.hid (show (la.map fun v : Nat => (v : Int))[j]? = some (aj : Int) by simp [haj])
                       have HQI := Lib.hid hqi
                       have HJI := Lib.hid hji
                       clear haj hqi hji
                       obtain ⟨X', E', H', d, hok', hcp, hcr⟩ := push_both (K := ⟨AF, cF, AH, cH, AR, cR, AC, cC, AA, cA, AB, cB⟩) HGG.out HSA.out.ok mm1 mm2 mm3
                       dsimp only [csrW, preW] at hcp hcr
                       have HPB := Lib.hid (fun (Q : PreS) W => hcp Q W); have HRB := Lib.hid (fun (Q : PreS) W => hcr Q W); have HOKn := Lib.hid hok'; have HLS := Lib.hid (And.intro hok'.bal.1 (And.intro hok'.le hok'.lh))
                       clear hcp hcr hok' mm1 mm2 mm3
                       go_upto_region 18 with fail
                       obtain ⟨wD18, hwD⟩ : ∃ W, wA.drew = W := ⟨_, rfl⟩
                       have bAD : Below wA.heap.size wA wD18 := by rw [← hwD]; exact (Below.refl _ _).drew
                       have HBD := Lib.hid (below_step HBA.out bAD); have HSD := Lib.hid (HSA.out.on bAD); have HLD := Lib.hid (below_step HLA.out bAD)
                       have HSK := Lib.hid (show ∀ W', Below wD18.heap.size wD18 W' → W'.cell? ⟨g11, 0, none⟩ = some (.int .i64 (N1 : Int)) ∧ W'.cell? ⟨g11, 1, none⟩ = some (.int .i64 (s : Int)) ∧ W'.cell? ⟨g11, 2, none⟩ = some (.int .i64 (t : Int)) ∧ W'.cell? ⟨g11, 3, none⟩ = some (.slice AF (N1 + 1) cF) ∧ W'.cell? ⟨g11, 4, none⟩ = some (.slice AH M cH) ∧ W'.cell? ⟨g11, 5, none⟩ = some (.slice AR M cR) ∧ W'.cell? ⟨g11, 6, none⟩ = some (.slice AC M cC) ∧ W'.cell? ⟨g11, 7, none⟩ = some (.slice AA M cA) ∧ W'.cell? ⟨g11, 8, none⟩ = some (.slice AB M cB) ∧ W'.cell? ⟨g13, 0, none⟩ = some (.slice AXq M cXq) ∧ W'.cell? ⟨g13, 1, none⟩ = some (.slice AEq N1 cEq) ∧ W'.cell? ⟨g13, 2, none⟩ = some (.slice AHq N1 cHq) ∧ W'.cell? ⟨bL, oL + j, none⟩ = some (.int .i64 (aj : Int)) from fun W' hb => by
                         have h9 := HKEEP.out W' (below_step (below_step HBr.out HBD.out) hb)
                         have hq := (HSD.out.on hb).q.full3.1
                         have hl := ((LaI.out.on (below_step HLD.out hb)).cel LaK.out).2
                         exact ⟨h9.1, h9.2.1, h9.2.2.1, h9.2.2.2.1, h9.2.2.2.2.1, h9.2.2.2.2.2.1, h9.2.2.2.2.2.2.1, h9.2.2.2.2.2.2.2.1, h9.2.2.2.2.2.2.2.2, hq.1, hq.2.1, hq.2.2, hl⟩)
                       have hbL := (LaI.out.cel LaK.out).1
                       have hzL := HLD.out.size
                       have hzL2 : bL < wD18.heap.size := by omega
                       have HBL := Lib.hid (And.intro hbL hzL)
                       clear bAD hbL hzL
                       refine wp_region_held_drew (S := fun W' => W'.cell? ⟨g11, 0, none⟩ = some (.int .i64 (N1 : Int)) ∧ W'.cell? ⟨g11, 1, none⟩ = some (.int .i64 (s : Int)) ∧ W'.cell? ⟨g11, 2, none⟩ = some (.int .i64 (t : Int)) ∧ W'.cell? ⟨g11, 3, none⟩ = some (.slice AF (N1 + 1) cF) ∧ W'.cell? ⟨g11, 4, none⟩ = some (.slice AH M cH) ∧ W'.cell? ⟨g11, 5, none⟩ = some (.slice AR M cR) ∧ W'.cell? ⟨g11, 6, none⟩ = some (.slice AC M cC) ∧ W'.cell? ⟨g11, 7, none⟩ = some (.slice AA M cA) ∧ W'.cell? ⟨g11, 8, none⟩ = some (.slice AB M cB) ∧ W'.cell? ⟨g13, 0, none⟩ = some (.slice AXq M cXq) ∧ W'.cell? ⟨g13, 1, none⟩ = some (.slice AEq N1 cEq) ∧ W'.cell? ⟨g13, 2, none⟩ = some (.slice AHq N1 cHq) ∧ W'.cell? ⟨bL, oL + j, none⟩ = some (.int .i64 (aj : Int))) (by kernel_rfl) (by rw [hwD]; exact HSK.out _ (Below.refl _ _)) (fun hS0 => ?_)
                       rw [hwD] at hS0 ⊢
                       clear hwD
                       refine ta (v := ?_) 0 145 rfl ?_ ?_
                       rotate_left
                       · (intro W' hSw; obtain ⟨b0, b1, b2, b3, b4, b5, b6, b7, b8, c0, c1, c2, d0⟩ := hSw; go_simp; try with_reducible rfl)
                       simp only [Act.put, pa, pz, ps]
                       refine ta (v := ?_) 1 146 rfl ?_ ?_
                       rotate_left
                       · (intro W' hSw; obtain ⟨b0, b1, b2, b3, b4, b5, b6, b7, b8, c0, c1, c2, d0⟩ := hSw; go_simp; try with_reducible rfl)
                       simp only [Act.put, pa, pz, ps]
                       refine ta (v := ?_) 2 147 rfl ?_ ?_
                       rotate_left
                       · (intro W' hSw; obtain ⟨b0, b1, b2, b3, b4, b5, b6, b7, b8, c0, c1, c2, d0⟩ := hSw; go_simp; try with_reducible rfl)
                       simp only [Act.put, pa, pz, ps]
                       refine ta (v := ?_) 3 148 rfl ?_ ?_
                       rotate_left
                       · (intro W' hSw; obtain ⟨b0, b1, b2, b3, b4, b5, b6, b7, b8, c0, c1, c2, d0⟩ := hSw; go_simp; try with_reducible rfl)
                       simp only [Act.put, pa, pz, ps]
                       have hqi := HQI.out
                       refine ta (v := ?_) 4 149 rfl ?_ ?_
                       rotate_left
                       · (intro W' hSw; obtain ⟨b0, b1, b2, b3, b4, b5, b6, b7, b8, c0, c1, c2, d0⟩ := hSw; go_simp; try with_reducible rfl)
                       simp only [Act.put, pa, pz, ps]
                       clear hqi
                       refine ta (v := ?_) 5 150 rfl ?_ ?_
                       rotate_left
                       · (intro W' hSw; obtain ⟨b0, b1, b2, b3, b4, b5, b6, b7, b8, c0, c1, c2, d0⟩ := hSw; go_simp; try with_reducible rfl)
                       simp only [Act.put, pa, pz, ps]
                       refine ta (v := ?_) 6 151 rfl ?_ ?_
                       rotate_left
                       · (intro W' hSw; obtain ⟨b0, b1, b2, b3, b4, b5, b6, b7, b8, c0, c1, c2, d0⟩ := hSw; go_simp; try with_reducible rfl)
                       simp only [Act.put, pa, pz, ps]
                       have hji := HJI.out
                       have hnz : ¬ na = 0 := by omega
                       refine ta (v := ?_) 7 152 rfl ?_ ?_
                       rotate_left
                       · (intro W' hSw; obtain ⟨b0, b1, b2, b3, b4, b5, b6, b7, b8, c0, c1, c2, d0⟩ := hSw; go_simp; try with_reducible rfl)
                       simp only [Act.put, pa, pz, ps]
                       clear hji hnz
                       refine ta (v := ?_) 8 153 rfl ?_ ?_
                       rotate_left
                       · (intro W' hSw; obtain ⟨b0, b1, b2, b3, b4, b5, b6, b7, b8, c0, c1, c2, d0⟩ := hSw; go_simp; try with_reducible rfl)
                       simp only [Act.put, pa, pz, ps]
                       refine ta (v := ?_) 9 154 rfl ?_ ?_
                       rotate_left
                       · (intro W' hSw; obtain ⟨b0, b1, b2, b3, b4, b5, b6, b7, b8, c0, c1, c2, d0⟩ := hSw; go_simp; try with_reducible rfl)
                       simp only [Act.put, pa, pz, ps]
                       refine (have tf18 : Hid ?Ttf18 := ?ptf18; ?mtf18)
                       case mtf18 =>
                         refine wpAnyH_ready (rs := [10, 15]) (by kernel_rfl) (by simp) ?_
                         refine AllReadyH.cons rfl (fun K hK => ?_) (AllReadyH.cons rfl (fun K hK => ?_) AllReadyH.nil)
                         · go_simp
                           refine (HPB.out _ _ (HI3.out.on (below_step HBr.out HBD.out)) HSD.out.sq).mono ?_
                           rintro e V1 ⟨⟨AXn, cXn, AEn, cEn, AHn, cHn⟩, rfl, hx⟩
                           try dsimp only [preW]
                           refine hK.out _ _ (HSK.out _ hx.bel) (fun hS1 => ?_)
                           clear hK K
                           try simp only [Act.put, pa, pz, ps]
                           refine ta (v := ?_) 11 144 rfl ?_ ?_
                           rotate_left
                           · (intro W' hSw; obtain ⟨b0, b1, b2, b3, b4, b5, b6, b7, b8, c0, c1, c2, d0⟩ := hSw; go_simp; try with_reducible rfl)
                           simp only [Act.put, pa, pz, ps]
                           refine ta (v := ?_) 12 156 rfl ?_ ?_
                           rotate_left
                           · (intro W' hSw; obtain ⟨b0, b1, b2, b3, b4, b5, b6, b7, b8, c0, c1, c2, d0⟩ := hSw; go_simp; try with_reducible rfl)
                           simp only [Act.put, pa, pz, ps]
                           refine ta (v := ?_) 13 157 rfl ?_ ?_
                           rotate_left
                           · (intro W' hSw; obtain ⟨b0, b1, b2, b3, b4, b5, b6, b7, b8, c0, c1, c2, d0⟩ := hSw; go_simp; try with_reducible rfl)
                           simp only [Act.put, pa, pz, ps]
                           refine ta (v := ?_) 14 158 rfl ?_ ?_
                           rotate_left
                           · (intro W' hSw; obtain ⟨b0, b1, b2, b3, b4, b5, b6, b7, b8, c0, c1, c2, d0⟩ := hSw; go_simp; try with_reducible rfl)
                           simp only [Act.put, pa, pz, ps]
                           refine wpAnyH_ready (rs := [15]) (by kernel_rfl) (by simp) ?_
                           refine AllReadyH.cons rfl (fun K hK => ?_) AllReadyH.nil
                           go_simp
                           obtain ⟨g22, hgn⟩ : ∃ g, V1.heap.size = g := ⟨_, rfl⟩
                           obtain ⟨V2, hV⟩ : ∃ W, V1.alloc (.cells #[.slice none 0 0, .slice none 0 0, .slice none 0 0] 29) = W := ⟨_, rfl⟩
                           have b2 : Below V1.heap.size V1 V2 := by rw [← hV]; exact below_alloc _
                           have bW := below_step hx.bel b2
                           have hb : Blk V2 g22 29 #[.slice none 0 0, .slice none 0 0, .slice none 0 0] := by rw [← hV]; exact Blk.new hgn
                           have hl : wD18.heap.size ≤ g22 := by rw [← hgn]; exact hx.bel.size
                           have sn := (hx.st HLS.out.1 HLS.out.2.1 HLS.out.2.2).on b2
                           have ab : PreAbv wD18.heap.size ⟨AXn, cXn, AEn, cEn, AHn, cHn⟩ := hx.abv (Nat.le_refl _)
                           have fr : PFar g22 M N1 N1 ⟨AXn, cXn, AEn, cEn, AHn, cHn⟩ := PFar.low (hx.st HLS.out.1 HLS.out.2.1 HLS.out.2.2) (by rw [hgn]; exact Nat.le_refl _)
                           refine hK.out _ _ (by rw [hV]; exact HSK.out _ bW) (fun hS2 => ?_)
                           clear hK K hS1 hS2
                           try simp only [Act.put, pa, pz, ps]
                           rw [hV]
                           rw [hgn]
                           clear hV hgn b2 hx V1
                           revert fr
                           revert ab
                           revert sn
                           revert hl
                           revert hb
                           revert bW
                           revert V2
                           revert g22
                           revert cHn
                           revert AHn
                           revert cEn
                           revert AEn
                           revert cXn
                           revert AXn
                           exact tf18.out
                         · go_simp
                           obtain ⟨g22, hgn⟩ : ∃ g, wD18.heap.size = g := ⟨_, rfl⟩
                           obtain ⟨V1, hV⟩ : ∃ W, wD18.alloc (.cells #[.slice none 0 0, .slice none 0 0, .slice none 0 0] 29) = W := ⟨_, rfl⟩
                           have b1 : Below wD18.heap.size wD18 V1 := by rw [← hV]; exact below_alloc _
                           have hb1 : Blk V1 g22 29 #[.slice none 0 0, .slice none 0 0, .slice none 0 0] := by rw [← hV]; exact Blk.new hgn
                           have hl : wD18.heap.size ≤ g22 := by rw [← hgn]; exact Nat.le_refl _
                           refine hK.out _ _ (by rw [hV]; exact HSK.out _ b1) (fun hS1 => ?_)
                           clear hK K
                           try simp only [Act.put, pa, pz, ps]
                           rw [hV] at hS1 ⊢
                           rw [hgn]
                           clear hV hgn
                           refine wpAnyH_ready (rs := [10]) (by kernel_rfl) (by simp) ?_
                           refine AllReadyH.cons rfl (fun K hK => ?_) AllReadyH.nil
                           go_simp
                           refine (HPB.out _ _ (HI3.out.on (below_step (below_step HBr.out HBD.out) b1)) (HSD.out.on b1).sq).mono ?_
                           rintro e V2 ⟨⟨AXn, cXn, AEn, cEn, AHn, cHn⟩, rfl, hx⟩
                           try dsimp only [preW]
                           have bW := below_step b1 hx.bel
                           refine hK.out _ _ (HSK.out _ bW) (fun hS2 => ?_)
                           clear hK K
                           try simp only [Act.put, pa, pz, ps]
                           refine ta (v := ?_) 11 144 rfl ?_ ?_
                           rotate_left
                           · (intro W' hSw; obtain ⟨b0, b1, b2, b3, b4, b5, b6, b7, b8, c0, c1, c2, d0⟩ := hSw; go_simp; try with_reducible rfl)
                           simp only [Act.put, pa, pz, ps]
                           refine ta (v := ?_) 12 156 rfl ?_ ?_
                           rotate_left
                           · (intro W' hSw; obtain ⟨b0, b1, b2, b3, b4, b5, b6, b7, b8, c0, c1, c2, d0⟩ := hSw; go_simp; try with_reducible rfl)
                           simp only [Act.put, pa, pz, ps]
                           refine ta (v := ?_) 13 157 rfl ?_ ?_
                           rotate_left
                           · (intro W' hSw; obtain ⟨b0, b1, b2, b3, b4, b5, b6, b7, b8, c0, c1, c2, d0⟩ := hSw; go_simp; try with_reducible rfl)
                           simp only [Act.put, pa, pz, ps]
                           refine ta (v := ?_) 14 158 rfl ?_ ?_
                           rotate_left
                           · (intro W' hSw; obtain ⟨b0, b1, b2, b3, b4, b5, b6, b7, b8, c0, c1, c2, d0⟩ := hSw; go_simp; try with_reducible rfl)
                           simp only [Act.put, pa, pz, ps]
                           have hb := hb1.below hx.bel hb1.lt
                           have sn := hx.st HLS.out.1 HLS.out.2.1 HLS.out.2.2
                           have ab : PreAbv wD18.heap.size ⟨AXn, cXn, AEn, cEn, AHn, cHn⟩ := hx.abv b1.size
                           have fr : PFar g22 M N1 N1 ⟨AXn, cXn, AEn, cEn, AHn, cHn⟩ := PFar.high (hx.abv (Nat.le_refl _)) hb1.lt
                           clear hx hb1 b1 hS1 hS2 V1
                           revert fr
                           revert ab
                           revert sn
                           revert hl
                           revert hb
                           revert bW
                           revert V2
                           revert g22
                           revert cHn
                           revert AHn
                           revert cEn
                           revert AEn
                           revert cXn
                           revert AXn
                           exact tf18.out
                       case ptf18 =>
                        refine Lib.hid ?_
                        intro AXn cXn AEn cEn AHn cHn g22 W18 bW hb hl sn ab fr
                        clear HPB
                        obtain ⟨⟨j0, j1, j2⟩, ⟨j3, j4, j5⟩, hj6⟩ := hb.full3
                        refine wpAnyH_ready (rs := [16]) (by kernel_rfl) (by simp) ?_
                        refine AllReadyH.cons rfl (fun K hK => ?_) AllReadyH.nil
                        go_simp
                        have HGg22 := Lib.hid (hb.put3 (x := .slice AXn M cXn) (y := .slice AEn N1 cEn) (z := .slice AHn N1 cHn))
                        have HSg22 := Lib.hid (sn.far3 fr (.slice AXn M cXn) (.slice AEn N1 cEn) (.slice AHn N1 cHn))
                        have gb := below_put3 (x := .slice AXn M cXn) (y := .slice AEn N1 cEn) (z := .slice AHn N1 cHn) bW hl
                        have HGBg22 := Lib.hid gb
                        have HFg22 := Lib.hid (show (PFar g13 M N1 N1 ⟨AXn, cXn, AEn, cEn, AHn, cHn⟩ ∧ PFar g14 M N1 N1 ⟨AXn, cXn, AEn, cEn, AHn, cHn⟩) ∧ g13 < g22 ∧ g14 < g22 from ⟨⟨PFar.high ab HSD.out.q.lt, PFar.high ab HSD.out.r.lt⟩, by have := HSD.out.q.lt; omega, by have := HSD.out.r.lt; omega⟩)
                        refine hK.out _ _ (HSK.out _ gb) (fun hS3 => ?_)
                        clear hK K hS0 bW hb hl sn ab fr gb j0 j1 j2 j3 j4 j5 hj6
                        try simp only [Act.put, pa, pz, ps]
                        refine ta (v := ?_) 17 23 rfl ?_ ?_
                        rotate_left
                        · (intro W' hSw; obtain ⟨b0, b1, b2, b3, b4, b5, b6, b7, b8, c0, c1, c2, d0⟩ := hSw; go_simp; try with_reducible rfl)
                        simp only [Act.put, pa, pz, ps]
                        refine ta (v := ?_) 18 24 rfl ?_ ?_
                        rotate_left
                        · (intro W' hSw; obtain ⟨b0, b1, b2, b3, b4, b5, b6, b7, b8, c0, c1, c2, d0⟩ := hSw; go_simp; try with_reducible rfl)
                        simp only [Act.put, pa, pz, ps]
                        refine wpAnyH_done (by kernel_rfl) ?_ _
                        clear hS3
                        obtain ⟨wB18, hwB⟩ : ∃ W, put3 W18 g22 (.slice AXn M cXn) (.slice AEn N1 cEn) (.slice AHn N1 cHn) = W := ⟨_, rfl⟩
                        have h1 := HGg22.out; have h2 := HSg22.out; have h3 := HGBg22.out
                        rw [hwB] at h1 h2 h3
                        dsimp only [put3] at hwB
                        rw [hwB]
                        clear hwB HGg22 HSg22 HGBg22
                        have HGg22 := Lib.hid h1; have HSg22 := Lib.hid h2
                        have HBA := Lib.hid (below_step HBD.out h3); have HSA := Lib.hid (HSD.out.on h3); have HLA := Lib.hid (below_step HLD.out h3)
                        clear h1 h2 h3 HBD HSD HLD HSK W18 HBL hzL2
                        as_aux_lemma =>
                          go_upto_region 19 with fail
                          obtain ⟨wA, hwA⟩ : ∃ W, W = wB18 := ⟨_, rfl⟩
                          subst hwA
                          obtain ⟨wD19, hwD⟩ : ∃ W, wA.drew = W := ⟨_, rfl⟩
                          have bAD : Below wA.heap.size wA wD19 := by rw [← hwD]; exact (Below.refl _ _).drew
                          have HBD := Lib.hid (below_step HBA.out bAD); have HSD := Lib.hid (HSA.out.on bAD); have HLD := Lib.hid (below_step HLA.out bAD)
                          have HGg22d := Lib.hid (HGg22.out.below bAD HGg22.out.lt); have HSg22d := Lib.hid (HSg22.out.on bAD)
                          clear HGg22 HSg22 HBA HSA HLA
                          have HSK := Lib.hid (show ∀ W', Below wD19.heap.size wD19 W' → W'.cell? ⟨g11, 0, none⟩ = some (.int .i64 (N1 : Int)) ∧ W'.cell? ⟨g11, 1, none⟩ = some (.int .i64 (s : Int)) ∧ W'.cell? ⟨g11, 2, none⟩ = some (.int .i64 (t : Int)) ∧ W'.cell? ⟨g11, 3, none⟩ = some (.slice AF (N1 + 1) cF) ∧ W'.cell? ⟨g11, 4, none⟩ = some (.slice AH M cH) ∧ W'.cell? ⟨g11, 5, none⟩ = some (.slice AR M cR) ∧ W'.cell? ⟨g11, 6, none⟩ = some (.slice AC M cC) ∧ W'.cell? ⟨g11, 7, none⟩ = some (.slice AA M cA) ∧ W'.cell? ⟨g11, 8, none⟩ = some (.slice AB M cB) ∧ W'.cell? ⟨g14, 0, none⟩ = some (.slice AXr M cXr) ∧ W'.cell? ⟨g14, 1, none⟩ = some (.slice AEr N1 cEr) ∧ W'.cell? ⟨g14, 2, none⟩ = some (.slice AHr N1 cHr) ∧ W'.cell? ⟨bL, oL + j, none⟩ = some (.int .i64 (aj : Int)) from fun W' hb => by
                            have h9 := HKEEP.out W' (below_step (below_step HBr.out HBD.out) hb)
                            have hq := (HSD.out.on hb).r.full3.1
                            have hl := ((LaI.out.on (below_step HLD.out hb)).cel LaK.out).2
                            exact ⟨h9.1, h9.2.1, h9.2.2.1, h9.2.2.2.1, h9.2.2.2.2.1, h9.2.2.2.2.2.1, h9.2.2.2.2.2.2.1, h9.2.2.2.2.2.2.2.1, h9.2.2.2.2.2.2.2.2, hq.1, hq.2.1, hq.2.2, hl⟩)
                          have hbL := (LaI.out.cel LaK.out).1
                          have hzL := HLD.out.size
                          have hzL2 : bL < wD19.heap.size := by omega
                          have HBL := Lib.hid (And.intro hbL hzL)
                          clear bAD hbL hzL
                          refine wp_region_held_drew (S := fun W' => W'.cell? ⟨g11, 0, none⟩ = some (.int .i64 (N1 : Int)) ∧ W'.cell? ⟨g11, 1, none⟩ = some (.int .i64 (s : Int)) ∧ W'.cell? ⟨g11, 2, none⟩ = some (.int .i64 (t : Int)) ∧ W'.cell? ⟨g11, 3, none⟩ = some (.slice AF (N1 + 1) cF) ∧ W'.cell? ⟨g11, 4, none⟩ = some (.slice AH M cH) ∧ W'.cell? ⟨g11, 5, none⟩ = some (.slice AR M cR) ∧ W'.cell? ⟨g11, 6, none⟩ = some (.slice AC M cC) ∧ W'.cell? ⟨g11, 7, none⟩ = some (.slice AA M cA) ∧ W'.cell? ⟨g11, 8, none⟩ = some (.slice AB M cB) ∧ W'.cell? ⟨g14, 0, none⟩ = some (.slice AXr M cXr) ∧ W'.cell? ⟨g14, 1, none⟩ = some (.slice AEr N1 cEr) ∧ W'.cell? ⟨g14, 2, none⟩ = some (.slice AHr N1 cHr) ∧ W'.cell? ⟨bL, oL + j, none⟩ = some (.int .i64 (aj : Int))) (by kernel_rfl) (by rw [hwD]; exact HSK.out _ (Below.refl _ _)) (fun hS0 => ?_)
                          rw [hwD] at hS0 ⊢
                          clear hwD
                          refine ta (v := ?_) 0 160 rfl ?_ ?_
                          rotate_left
                          · (intro W' hSw; obtain ⟨b0, b1, b2, b3, b4, b5, b6, b7, b8, c0, c1, c2, d0⟩ := hSw; go_simp; try with_reducible rfl)
                          simp only [Act.put, pa, pz, ps]
                          refine ta (v := ?_) 1 161 rfl ?_ ?_
                          rotate_left
                          · (intro W' hSw; obtain ⟨b0, b1, b2, b3, b4, b5, b6, b7, b8, c0, c1, c2, d0⟩ := hSw; go_simp; try with_reducible rfl)
                          simp only [Act.put, pa, pz, ps]
                          refine ta (v := ?_) 2 162 rfl ?_ ?_
                          rotate_left
                          · (intro W' hSw; obtain ⟨b0, b1, b2, b3, b4, b5, b6, b7, b8, c0, c1, c2, d0⟩ := hSw; go_simp; try with_reducible rfl)
                          simp only [Act.put, pa, pz, ps]
                          refine ta (v := ?_) 3 163 rfl ?_ ?_
                          rotate_left
                          · (intro W' hSw; obtain ⟨b0, b1, b2, b3, b4, b5, b6, b7, b8, c0, c1, c2, d0⟩ := hSw; go_simp; try with_reducible rfl)
                          simp only [Act.put, pa, pz, ps]
                          have hqi := HQI.out
                          refine ta (v := ?_) 4 164 rfl ?_ ?_
                          rotate_left
                          · (intro W' hSw; obtain ⟨b0, b1, b2, b3, b4, b5, b6, b7, b8, c0, c1, c2, d0⟩ := hSw; go_simp; try with_reducible rfl)
                          simp only [Act.put, pa, pz, ps]
                          clear hqi
                          refine ta (v := ?_) 5 165 rfl ?_ ?_
                          rotate_left
                          · (intro W' hSw; obtain ⟨b0, b1, b2, b3, b4, b5, b6, b7, b8, c0, c1, c2, d0⟩ := hSw; go_simp; try with_reducible rfl)
                          simp only [Act.put, pa, pz, ps]
                          refine ta (v := ?_) 6 166 rfl ?_ ?_
                          rotate_left
                          · (intro W' hSw; obtain ⟨b0, b1, b2, b3, b4, b5, b6, b7, b8, c0, c1, c2, d0⟩ := hSw; go_simp; try with_reducible rfl)
                          simp only [Act.put, pa, pz, ps]
                          have hji := HJI.out
                          have hnz : ¬ na = 0 := by omega
                          refine ta (v := ?_) 7 167 rfl ?_ ?_
                          rotate_left
                          · (intro W' hSw; obtain ⟨b0, b1, b2, b3, b4, b5, b6, b7, b8, c0, c1, c2, d0⟩ := hSw; go_simp; try with_reducible rfl)
                          simp only [Act.put, pa, pz, ps]
                          clear hji hnz
                          refine ta (v := ?_) 8 168 rfl ?_ ?_
                          rotate_left
                          · (intro W' hSw; obtain ⟨b0, b1, b2, b3, b4, b5, b6, b7, b8, c0, c1, c2, d0⟩ := hSw; go_simp; try with_reducible rfl)
                          simp only [Act.put, pa, pz, ps]
                          refine ta (v := ?_) 9 169 rfl ?_ ?_
                          rotate_left
                          · (intro W' hSw; obtain ⟨b0, b1, b2, b3, b4, b5, b6, b7, b8, c0, c1, c2, d0⟩ := hSw; go_simp; try with_reducible rfl)
                          simp only [Act.put, pa, pz, ps]
                          refine (have tf19 : Hid ?Ttf19 := ?ptf19; ?mtf19)
                          case mtf19 =>
                            refine wpAnyH_ready (rs := [10, 15]) (by kernel_rfl) (by simp) ?_
                            refine AllReadyH.cons rfl (fun K hK => ?_) (AllReadyH.cons rfl (fun K hK => ?_) AllReadyH.nil)
                            · go_simp
                              refine (HRB.out _ _ (HI3.out.on (below_step HBr.out HBD.out)) HSD.out.sr).mono ?_
                              rintro e V1 ⟨⟨AXm, cXm, AEm, cEm, AHm, cHm⟩, rfl, hx⟩
                              try dsimp only [preW]
                              refine hK.out _ _ (HSK.out _ hx.bel) (fun hS1 => ?_)
                              clear hK K
                              try simp only [Act.put, pa, pz, ps]
                              refine ta (v := ?_) 11 159 rfl ?_ ?_
                              rotate_left
                              · (intro W' hSw; obtain ⟨b0, b1, b2, b3, b4, b5, b6, b7, b8, c0, c1, c2, d0⟩ := hSw; go_simp; try with_reducible rfl)
                              simp only [Act.put, pa, pz, ps]
                              refine ta (v := ?_) 12 171 rfl ?_ ?_
                              rotate_left
                              · (intro W' hSw; obtain ⟨b0, b1, b2, b3, b4, b5, b6, b7, b8, c0, c1, c2, d0⟩ := hSw; go_simp; try with_reducible rfl)
                              simp only [Act.put, pa, pz, ps]
                              refine ta (v := ?_) 13 172 rfl ?_ ?_
                              rotate_left
                              · (intro W' hSw; obtain ⟨b0, b1, b2, b3, b4, b5, b6, b7, b8, c0, c1, c2, d0⟩ := hSw; go_simp; try with_reducible rfl)
                              simp only [Act.put, pa, pz, ps]
                              refine ta (v := ?_) 14 173 rfl ?_ ?_
                              rotate_left
                              · (intro W' hSw; obtain ⟨b0, b1, b2, b3, b4, b5, b6, b7, b8, c0, c1, c2, d0⟩ := hSw; go_simp; try with_reducible rfl)
                              simp only [Act.put, pa, pz, ps]
                              refine wpAnyH_ready (rs := [15]) (by kernel_rfl) (by simp) ?_
                              refine AllReadyH.cons rfl (fun K hK => ?_) AllReadyH.nil
                              go_simp
                              obtain ⟨g25, hgn⟩ : ∃ g, V1.heap.size = g := ⟨_, rfl⟩
                              obtain ⟨V2, hV⟩ : ∃ W, V1.alloc (.cells #[.slice none 0 0, .slice none 0 0, .slice none 0 0] 29) = W := ⟨_, rfl⟩
                              have b2 : Below V1.heap.size V1 V2 := by rw [← hV]; exact below_alloc _
                              have bW := below_step hx.bel b2
                              have hb : Blk V2 g25 29 #[.slice none 0 0, .slice none 0 0, .slice none 0 0] := by rw [← hV]; exact Blk.new hgn
                              have hl : wD19.heap.size ≤ g25 := by rw [← hgn]; exact hx.bel.size
                              have sn := (hx.st HLS.out.1 HLS.out.2.1 HLS.out.2.2).on b2
                              have ab : PreAbv wD19.heap.size ⟨AXm, cXm, AEm, cEm, AHm, cHm⟩ := hx.abv (Nat.le_refl _)
                              have fr : PFar g25 M N1 N1 ⟨AXm, cXm, AEm, cEm, AHm, cHm⟩ := PFar.low (hx.st HLS.out.1 HLS.out.2.1 HLS.out.2.2) (by rw [hgn]; exact Nat.le_refl _)
                              refine hK.out _ _ (by rw [hV]; exact HSK.out _ bW) (fun hS2 => ?_)
                              clear hK K hS1 hS2
                              try simp only [Act.put, pa, pz, ps]
                              rw [hV]
                              rw [hgn]
                              clear hV hgn b2 hx V1
                              revert fr
                              revert ab
                              revert sn
                              revert hl
                              revert hb
                              revert bW
                              revert V2
                              revert g25
                              revert cHm
                              revert AHm
                              revert cEm
                              revert AEm
                              revert cXm
                              revert AXm
                              exact tf19.out
                            · go_simp
                              obtain ⟨g25, hgn⟩ : ∃ g, wD19.heap.size = g := ⟨_, rfl⟩
                              obtain ⟨V1, hV⟩ : ∃ W, wD19.alloc (.cells #[.slice none 0 0, .slice none 0 0, .slice none 0 0] 29) = W := ⟨_, rfl⟩
                              have b1 : Below wD19.heap.size wD19 V1 := by rw [← hV]; exact below_alloc _
                              have hb1 : Blk V1 g25 29 #[.slice none 0 0, .slice none 0 0, .slice none 0 0] := by rw [← hV]; exact Blk.new hgn
                              have hl : wD19.heap.size ≤ g25 := by rw [← hgn]; exact Nat.le_refl _
                              refine hK.out _ _ (by rw [hV]; exact HSK.out _ b1) (fun hS1 => ?_)
                              clear hK K
                              try simp only [Act.put, pa, pz, ps]
                              rw [hV] at hS1 ⊢
                              rw [hgn]
                              clear hV hgn
                              refine wpAnyH_ready (rs := [10]) (by kernel_rfl) (by simp) ?_
                              refine AllReadyH.cons rfl (fun K hK => ?_) AllReadyH.nil
                              go_simp
                              refine (HRB.out _ _ (HI3.out.on (below_step (below_step HBr.out HBD.out) b1)) (HSD.out.on b1).sr).mono ?_
                              rintro e V2 ⟨⟨AXm, cXm, AEm, cEm, AHm, cHm⟩, rfl, hx⟩
                              try dsimp only [preW]
                              have bW := below_step b1 hx.bel
                              refine hK.out _ _ (HSK.out _ bW) (fun hS2 => ?_)
                              clear hK K
                              try simp only [Act.put, pa, pz, ps]
                              refine ta (v := ?_) 11 159 rfl ?_ ?_
                              rotate_left
                              · (intro W' hSw; obtain ⟨b0, b1, b2, b3, b4, b5, b6, b7, b8, c0, c1, c2, d0⟩ := hSw; go_simp; try with_reducible rfl)
                              simp only [Act.put, pa, pz, ps]
                              refine ta (v := ?_) 12 171 rfl ?_ ?_
                              rotate_left
                              · (intro W' hSw; obtain ⟨b0, b1, b2, b3, b4, b5, b6, b7, b8, c0, c1, c2, d0⟩ := hSw; go_simp; try with_reducible rfl)
                              simp only [Act.put, pa, pz, ps]
                              refine ta (v := ?_) 13 172 rfl ?_ ?_
                              rotate_left
                              · (intro W' hSw; obtain ⟨b0, b1, b2, b3, b4, b5, b6, b7, b8, c0, c1, c2, d0⟩ := hSw; go_simp; try with_reducible rfl)
                              simp only [Act.put, pa, pz, ps]
                              refine ta (v := ?_) 14 173 rfl ?_ ?_
                              rotate_left
                              · (intro W' hSw; obtain ⟨b0, b1, b2, b3, b4, b5, b6, b7, b8, c0, c1, c2, d0⟩ := hSw; go_simp; try with_reducible rfl)
                              simp only [Act.put, pa, pz, ps]
                              have hb := hb1.below hx.bel hb1.lt
                              have sn := hx.st HLS.out.1 HLS.out.2.1 HLS.out.2.2
                              have ab : PreAbv wD19.heap.size ⟨AXm, cXm, AEm, cEm, AHm, cHm⟩ := hx.abv b1.size
                              have fr : PFar g25 M N1 N1 ⟨AXm, cXm, AEm, cEm, AHm, cHm⟩ := PFar.high (hx.abv (Nat.le_refl _)) hb1.lt
                              clear hx hb1 b1 hS1 hS2 V1
                              revert fr
                              revert ab
                              revert sn
                              revert hl
                              revert hb
                              revert bW
                              revert V2
                              revert g25
                              revert cHm
                              revert AHm
                              revert cEm
                              revert AEm
                              revert cXm
                              revert AXm
                              exact tf19.out
                          case ptf19 =>
                           refine Lib.hid ?_
                           intro AXm cXm AEm cEm AHm cHm g25 W19 bW hb hl sn ab fr
                           clear HRB
                           obtain ⟨⟨j0, j1, j2⟩, ⟨j3, j4, j5⟩, hj6⟩ := hb.full3
                           refine wpAnyH_ready (rs := [16]) (by kernel_rfl) (by simp) ?_
                           refine AllReadyH.cons rfl (fun K hK => ?_) AllReadyH.nil
                           go_simp
                           have HGg25 := Lib.hid (hb.put3 (x := .slice AXm M cXm) (y := .slice AEm N1 cEm) (z := .slice AHm N1 cHm))
                           have HSg25 := Lib.hid (sn.far3 fr (.slice AXm M cXm) (.slice AEm N1 cEm) (.slice AHm N1 cHm))
                           have gb := below_put3 (x := .slice AXm M cXm) (y := .slice AEm N1 cEm) (z := .slice AHm N1 cHm) bW hl
                           have HGBg25 := Lib.hid gb
                           have HFg25 := Lib.hid (show (PFar g13 M N1 N1 ⟨AXm, cXm, AEm, cEm, AHm, cHm⟩ ∧ PFar g14 M N1 N1 ⟨AXm, cXm, AEm, cEm, AHm, cHm⟩) ∧ g13 < g25 ∧ g14 < g25 from ⟨⟨PFar.high ab HSD.out.q.lt, PFar.high ab HSD.out.r.lt⟩, by have := HSD.out.q.lt; omega, by have := HSD.out.r.lt; omega⟩)
                           refine hK.out _ _ (HSK.out _ gb) (fun hS3 => ?_)
                           clear hK K hS0 bW hb hl sn ab fr gb j0 j1 j2 j3 j4 j5 hj6
                           try simp only [Act.put, pa, pz, ps]
                           refine ta (v := ?_) 17 26 rfl ?_ ?_
                           rotate_left
                           · (intro W' hSw; obtain ⟨b0, b1, b2, b3, b4, b5, b6, b7, b8, c0, c1, c2, d0⟩ := hSw; go_simp; try with_reducible rfl)
                           simp only [Act.put, pa, pz, ps]
                           refine ta (v := ?_) 18 27 rfl ?_ ?_
                           rotate_left
                           · (intro W' hSw; obtain ⟨b0, b1, b2, b3, b4, b5, b6, b7, b8, c0, c1, c2, d0⟩ := hSw; go_simp; try with_reducible rfl)
                           simp only [Act.put, pa, pz, ps]
                           refine wpAnyH_done (by kernel_rfl) ?_ _
                           clear hS3
                           obtain ⟨wB19, hwB⟩ : ∃ W, put3 W19 g25 (.slice AXm M cXm) (.slice AEm N1 cEm) (.slice AHm N1 cHm) = W := ⟨_, rfl⟩
                           have h1 := HGg25.out; have h2 := HSg25.out; have h3 := HGBg25.out
                           rw [hwB] at h1 h2 h3
                           dsimp only [put3] at hwB
                           rw [hwB]
                           clear hwB HGg25 HSg25 HGBg25
                           have HGg25 := Lib.hid h1; have HSg25 := Lib.hid h2
                           have HBA := Lib.hid (below_step HBD.out h3); have HSA := Lib.hid (HSD.out.on h3); have HLA := Lib.hid (below_step HLD.out h3)
                           have HGg22 := Lib.hid (HGg22d.out.below h3 HGg22d.out.lt); have HSg22 := Lib.hid (HSg22d.out.on h3)
                           clear HGg22d HSg22d
                           clear h1 h2 h3 HBD HSD HLD HSK W19 HBL hzL2
                           as_aux_lemma =>
                             go_upto_region 20 with fail
                             obtain ⟨w11, hw11⟩ : ∃ W, wB19.drew = W := ⟨_, rfl⟩
                             have bAD : Below wB19.heap.size wB19 w11 := by rw [← hw11]; exact (Below.refl _ _).drew
                             have B11 := Lib.hid (below_step HBA.out bAD)
                             have hnx := (HSA.out.on bAD).next (Q' := ⟨AXn, cXn, AEn, cEn, AHn, cHn⟩) (R' := ⟨AXm, cXm, AEm, cEm, AHm, cHm⟩) hbb.out.2.2 (HSg22.out.on bAD) (HSg25.out.on bAD) HFg22.out.1 HFg25.out.1 HOKn.out
                             have HNX := Lib.hid hnx
                             have hq1 := (HSA.out.on bAD).q; have hr1 := (HSA.out.on bAD).r.far3 (x := .slice AXn M cXn) (y := .slice AEn N1 cEn) (z := .slice AHn N1 cHn) (fun e => hbb.out.2.2 e.symm)
                             have k1 := HGg22.out.below bAD HGg22.out.lt; have k2 := HGg25.out.below bAD HGg25.out.lt
                             have k3 := k1.far3 (x := .slice AXn M cXn) (y := .slice AEn N1 cEn) (z := .slice AHn N1 cHn) (show g22 ≠ g13 by have := HFg22.out.2.1; omega); have k4 := k2.far3 (x := .slice AXn M cXn) (y := .slice AEn N1 cEn) (z := .slice AHn N1 cHn) (show g25 ≠ g13 by have := HFg25.out.2.1; omega)
                             have k5 := k3.far3 (x := .slice AXm M cXm) (y := .slice AEm N1 cEm) (z := .slice AHm N1 cHm) (show g22 ≠ g14 by have := HFg22.out.2.2; omega); have k6 := k4.far3 (x := .slice AXm M cXm) (y := .slice AEm N1 cEm) (z := .slice AHm N1 cHm) (show g25 ≠ g14 by have := HFg25.out.2.2; omega)
                             have HR12 := Lib.hid hr1; have HK0 := Lib.hid (And.intro k1 k2); have HK3 := Lib.hid (And.intro k3 k4); have HK5 := Lib.hid (And.intro k5 k6)
                             have hbx : Below w3.heap.size w3 (put3 (put3 w11 g13 (.slice AXn M cXn) (.slice AEn N1 cEn) (.slice AHn N1 cHn)) g14 (.slice AXm M cXm) (.slice AEm N1 cEm) (.slice AHm N1 cHm)) := below_put3 (below_put3 (below_step HBr.out B11.out) hbb.out.1) hbb.out.2.1
                             have HBX := Lib.hid hbx
                             obtain ⟨⟨j0, j1, j2⟩, ⟨j3, j4, j5⟩, hj6⟩ := hq1.full3
                             clear hnx hr1 k1 k2 k3 k4 k5 k6 hbx hq1 bAD HBA HSA HLA HGg22 HGg25 HSg22 HSg25
                             refine wp_region_held_drew (S := fun W' => W'.cell? ⟨g22, 0, none⟩ = some (.slice AXn M cXn) ∧ W'.cell? ⟨g22, 1, none⟩ = some (.slice AEn N1 cEn) ∧ W'.cell? ⟨g22, 2, none⟩ = some (.slice AHn N1 cHn) ∧ W'.cell? ⟨g25, 0, none⟩ = some (.slice AXm M cXm) ∧ W'.cell? ⟨g25, 1, none⟩ = some (.slice AEm N1 cEm) ∧ W'.cell? ⟨g25, 2, none⟩ = some (.slice AHm N1 cHm)) (by kernel_rfl) (by rw [hw11]; exact ⟨HK0.out.1.full3.1.1, HK0.out.1.full3.1.2.1, HK0.out.1.full3.1.2.2, HK0.out.2.full3.1.1, HK0.out.2.full3.1.2.1, HK0.out.2.full3.1.2.2⟩) (fun hS0 => ?_)
                             rw [hw11] at hS0 ⊢
                             clear hw11
                             refine ta (v := ?_) 0 174 rfl ?_ ?_
                             rotate_left
                             · (intro W' hSw; obtain ⟨c0, c1, c2, d0, d1, d2⟩ := hSw; go_simp; try with_reducible rfl)
                             simp only [Act.put, pa, pz, ps]
                             refine ta (v := ?_) 1 175 rfl ?_ ?_
                             rotate_left
                             · (intro W' hSw; obtain ⟨c0, c1, c2, d0, d1, d2⟩ := hSw; go_simp; try with_reducible rfl)
                             simp only [Act.put, pa, pz, ps]
                             refine wpAnyH_ready (rs := [2]) (by kernel_rfl) (by simp) ?_
                             refine AllReadyH.cons rfl (fun K hK => ?_) AllReadyH.nil
                             go_simp
                             refine hK.out _ _ ⟨HK3.out.1.full3.1.1, HK3.out.1.full3.1.2.1, HK3.out.1.full3.1.2.2, HK3.out.2.full3.1.1, HK3.out.2.full3.1.2.1, HK3.out.2.full3.1.2.2⟩ (fun hS1 => ?_)
                             clear hK K hS0 hS1 j0 j1 j2 j3 j4 j5 hj6
                             try simp only [Act.put, pa, pz, ps]
                             obtain ⟨w12, hw12⟩ : ∃ W, put3 w11 g13 (.slice AXn M cXn) (.slice AEn N1 cEn) (.slice AHn N1 cHn) = W := ⟨_, rfl⟩
                             have hnx := HNX.out; have hr12 := HR12.out; have hbx := HBX.out; have hk5 := HK5.out
                             rw [hw12] at hnx hr12 hbx hk5
                             dsimp only [put3] at hw12
                             rw [hw12]
                             clear hw12 HNX HR12 HBX HK5 HK3 HK0
                             have HNX := Lib.hid hnx; have HBX := Lib.hid hbx; have HK5 := Lib.hid hk5
                             obtain ⟨⟨j0, j1, j2⟩, ⟨j3, j4, j5⟩, hj6⟩ := hr12.full3
                             clear hnx hbx hr12 hk5
                             refine wpAnyH_ready (rs := [3]) (by kernel_rfl) (by simp) ?_
                             refine AllReadyH.cons rfl (fun K hK => ?_) AllReadyH.nil
                             go_simp
                             refine hK.out _ _ ⟨HK5.out.1.full3.1.1, HK5.out.1.full3.1.2.1, HK5.out.1.full3.1.2.2, HK5.out.2.full3.1.1, HK5.out.2.full3.1.2.1, HK5.out.2.full3.1.2.2⟩ (fun hS2 => ?_)
                             clear hK K hS2 j0 j1 j2 j3 j4 j5 hj6
                             try simp only [Act.put, pa, pz, ps]
                             refine wpAnyH_done (by kernel_rfl) ?_ _
                             have hq6 := HQ6.out
                             go_wp2_with fail
                             refine ⟨⟨k + 1, ⟨AXn, cXn, AEn, cEn, AHn, cHn⟩, ⟨AXm, cXm, AEm, cEm, AHm, cHm⟩, _, _, _, by omega, by go_num, HNX.out, HBX.out⟩, ?_⟩
                             simp [intOf]; omega
                   | false =>
                     as_aux_lemma =>
                       by_cases ev : nv = 0
                       · subst ev
                         have hq6 := HQ6.out
                         go_wp2_with fail
                         refine ⟨⟨k + 1, ⟨AXq, cXq, AEq, cEq, AHq, cHq⟩, ⟨AXr, cXr, AEr, cEr, AHr, cHr⟩, X, E, H, by omega, by go_num, HSA.out, below_step HBr.out HBA.out⟩, ?_⟩
                         simp [intOf]; omega
                       · have ea1 : 0 < nv := by omega
                         obtain ⟨hf2, hhf⟩ : ∃ h, x / 2 = h := ⟨_, rfl⟩
                         obtain ⟨j, hj⟩ : ∃ j, hf2 % nv = j := ⟨_, rfl⟩
                         have hjl : j < nv := by rw [← hj]; exact Nat.mod_lt _ ea1
                         have hqi : IntKind.i64.wrap ((x : Int) / 2) = (hf2 : Int) := by rw [wrap_in (by omega) (by omega), ← hhf]; omega
                         have hji : (hf2 : Int).tmod (nv : Int) = (j : Int) := by rw [Int.tmod_eq_emod_of_nonneg (by omega), ← hj]; omega
                         clear hhf hj
                         obtain ⟨aj, haj⟩ : ∃ aj, lv[j]? = some aj := ⟨_, List.getElem?_eq_getElem (by have := HNV.out; omega)⟩
                         obtain ⟨mm1, mm2, mm3⟩ := HMV.out j aj haj
                         obtain ⟨bL, oL, hLa⟩ := HI4a.out.adr ea1
                         subst hLa
                         have LaI := Lib.hid HI4a.out
                         have LaK := Lib.hid (show (lv.map fun v : Nat => (v : Int))[j]? = some (aj : Int) by simp [haj])
                         have HQI := Lib.hid hqi
                         have HJI := Lib.hid hji
                         clear haj hqi hji
                         obtain ⟨X', E', H', hok', hcp, hcr⟩ := lift_both (K := ⟨AF, cF, AH, cH, AR, cR, AC, cC, AA, cA, AB, cB⟩) HGG.out HSA.out.ok mm1 mm2 mm3
                         dsimp only [csrW, preW] at hcp hcr
                         have HPB := Lib.hid (fun (Q : PreS) W => hcp Q W); have HRB := Lib.hid (fun (Q : PreS) W => hcr Q W); have HOKn := Lib.hid hok'; have HLS := Lib.hid (And.intro hok'.bal.1 (And.intro hok'.le hok'.lh))
                         clear hcp hcr hok' mm1 mm2 mm3 ev
                         go_upto_region 24 with fail
                         obtain ⟨wD24, hwD⟩ : ∃ W, wA.drew = W := ⟨_, rfl⟩
                         have bAD : Below wA.heap.size wA wD24 := by rw [← hwD]; exact (Below.refl _ _).drew
                         have HBD := Lib.hid (below_step HBA.out bAD); have HSD := Lib.hid (HSA.out.on bAD); have HLD := Lib.hid (below_step HLA.out bAD)
                         have HSK := Lib.hid (show ∀ W', Below wD24.heap.size wD24 W' → W'.cell? ⟨g11, 0, none⟩ = some (.int .i64 (N1 : Int)) ∧ W'.cell? ⟨g11, 1, none⟩ = some (.int .i64 (s : Int)) ∧ W'.cell? ⟨g11, 2, none⟩ = some (.int .i64 (t : Int)) ∧ W'.cell? ⟨g11, 3, none⟩ = some (.slice AF (N1 + 1) cF) ∧ W'.cell? ⟨g11, 4, none⟩ = some (.slice AH M cH) ∧ W'.cell? ⟨g11, 5, none⟩ = some (.slice AR M cR) ∧ W'.cell? ⟨g11, 6, none⟩ = some (.slice AC M cC) ∧ W'.cell? ⟨g11, 7, none⟩ = some (.slice AA M cA) ∧ W'.cell? ⟨g11, 8, none⟩ = some (.slice AB M cB) ∧ W'.cell? ⟨g13, 0, none⟩ = some (.slice AXq M cXq) ∧ W'.cell? ⟨g13, 1, none⟩ = some (.slice AEq N1 cEq) ∧ W'.cell? ⟨g13, 2, none⟩ = some (.slice AHq N1 cHq) ∧ W'.cell? ⟨bL, oL + j, none⟩ = some (.int .i64 (aj : Int)) from fun W' hb => by
                           have h9 := HKEEP.out W' (below_step (below_step HBr.out HBD.out) hb)
                           have hq := (HSD.out.on hb).q.full3.1
                           have hl := ((LaI.out.on (below_step HLD.out hb)).cel LaK.out).2
                           exact ⟨h9.1, h9.2.1, h9.2.2.1, h9.2.2.2.1, h9.2.2.2.2.1, h9.2.2.2.2.2.1, h9.2.2.2.2.2.2.1, h9.2.2.2.2.2.2.2.1, h9.2.2.2.2.2.2.2.2, hq.1, hq.2.1, hq.2.2, hl⟩)
                         have hbL := (LaI.out.cel LaK.out).1
                         have hzL := HLD.out.size
                         have hzL2 : bL < wD24.heap.size := by omega
                         have HBL := Lib.hid (And.intro hbL hzL)
                         clear bAD hbL hzL
                         refine wp_region_held_drew (S := fun W' => W'.cell? ⟨g11, 0, none⟩ = some (.int .i64 (N1 : Int)) ∧ W'.cell? ⟨g11, 1, none⟩ = some (.int .i64 (s : Int)) ∧ W'.cell? ⟨g11, 2, none⟩ = some (.int .i64 (t : Int)) ∧ W'.cell? ⟨g11, 3, none⟩ = some (.slice AF (N1 + 1) cF) ∧ W'.cell? ⟨g11, 4, none⟩ = some (.slice AH M cH) ∧ W'.cell? ⟨g11, 5, none⟩ = some (.slice AR M cR) ∧ W'.cell? ⟨g11, 6, none⟩ = some (.slice AC M cC) ∧ W'.cell? ⟨g11, 7, none⟩ = some (.slice AA M cA) ∧ W'.cell? ⟨g11, 8, none⟩ = some (.slice AB M cB) ∧ W'.cell? ⟨g13, 0, none⟩ = some (.slice AXq M cXq) ∧ W'.cell? ⟨g13, 1, none⟩ = some (.slice AEq N1 cEq) ∧ W'.cell? ⟨g13, 2, none⟩ = some (.slice AHq N1 cHq) ∧ W'.cell? ⟨bL, oL + j, none⟩ = some (.int .i64 (aj : Int))) (by kernel_rfl) (by rw [hwD]; exact HSK.out _ (Below.refl _ _)) (fun hS0 => ?_)
                         rw [hwD] at hS0 ⊢
                         clear hwD
                         refine ta (v := ?_) 0 189 rfl ?_ ?_
                         rotate_left
                         · (intro W' hSw; obtain ⟨b0, b1, b2, b3, b4, b5, b6, b7, b8, c0, c1, c2, d0⟩ := hSw; go_simp; try with_reducible rfl)
                         simp only [Act.put, pa, pz, ps]
                         refine ta (v := ?_) 1 190 rfl ?_ ?_
                         rotate_left
                         · (intro W' hSw; obtain ⟨b0, b1, b2, b3, b4, b5, b6, b7, b8, c0, c1, c2, d0⟩ := hSw; go_simp; try with_reducible rfl)
                         simp only [Act.put, pa, pz, ps]
                         refine ta (v := ?_) 2 191 rfl ?_ ?_
                         rotate_left
                         · (intro W' hSw; obtain ⟨b0, b1, b2, b3, b4, b5, b6, b7, b8, c0, c1, c2, d0⟩ := hSw; go_simp; try with_reducible rfl)
                         simp only [Act.put, pa, pz, ps]
                         refine ta (v := ?_) 3 192 rfl ?_ ?_
                         rotate_left
                         · (intro W' hSw; obtain ⟨b0, b1, b2, b3, b4, b5, b6, b7, b8, c0, c1, c2, d0⟩ := hSw; go_simp; try with_reducible rfl)
                         simp only [Act.put, pa, pz, ps]
                         have hqi := HQI.out
                         refine ta (v := ?_) 4 193 rfl ?_ ?_
                         rotate_left
                         · (intro W' hSw; obtain ⟨b0, b1, b2, b3, b4, b5, b6, b7, b8, c0, c1, c2, d0⟩ := hSw; go_simp; try with_reducible rfl)
                         simp only [Act.put, pa, pz, ps]
                         clear hqi
                         refine ta (v := ?_) 5 194 rfl ?_ ?_
                         rotate_left
                         · (intro W' hSw; obtain ⟨b0, b1, b2, b3, b4, b5, b6, b7, b8, c0, c1, c2, d0⟩ := hSw; go_simp; try with_reducible rfl)
                         simp only [Act.put, pa, pz, ps]
                         refine ta (v := ?_) 6 195 rfl ?_ ?_
                         rotate_left
                         · (intro W' hSw; obtain ⟨b0, b1, b2, b3, b4, b5, b6, b7, b8, c0, c1, c2, d0⟩ := hSw; go_simp; try with_reducible rfl)
                         simp only [Act.put, pa, pz, ps]
                         have hji := HJI.out
                         have hnz : ¬ nv = 0 := by omega
                         refine ta (v := ?_) 7 196 rfl ?_ ?_
                         rotate_left
                         · (intro W' hSw; obtain ⟨b0, b1, b2, b3, b4, b5, b6, b7, b8, c0, c1, c2, d0⟩ := hSw; go_simp; try with_reducible rfl)
                         simp only [Act.put, pa, pz, ps]
                         clear hji hnz
                         refine ta (v := ?_) 8 197 rfl ?_ ?_
                         rotate_left
                         · (intro W' hSw; obtain ⟨b0, b1, b2, b3, b4, b5, b6, b7, b8, c0, c1, c2, d0⟩ := hSw; go_simp; try with_reducible rfl)
                         simp only [Act.put, pa, pz, ps]
                         refine ta (v := ?_) 9 198 rfl ?_ ?_
                         rotate_left
                         · (intro W' hSw; obtain ⟨b0, b1, b2, b3, b4, b5, b6, b7, b8, c0, c1, c2, d0⟩ := hSw; go_simp; try with_reducible rfl)
                         simp only [Act.put, pa, pz, ps]
                         refine (have tf24 : Hid ?Ttf24 := ?ptf24; ?mtf24)
                         case mtf24 =>
                           refine wpAnyH_ready (rs := [10, 14]) (by kernel_rfl) (by simp) ?_
                           refine AllReadyH.cons rfl (fun K hK => ?_) (AllReadyH.cons rfl (fun K hK => ?_) AllReadyH.nil)
                           · go_simp
                             refine (HPB.out _ _ (HI3.out.on (below_step HBr.out HBD.out)) HSD.out.sq).mono ?_
                             rintro e V1 ⟨⟨AXn, cXn, AEn, cEn, AHn, cHn⟩, rfl, hx⟩
                             try dsimp only [preW]
                             refine hK.out _ _ (HSK.out _ hx.bel) (fun hS1 => ?_)
                             clear hK K
                             try simp only [Act.put, pa, pz, ps]
                             refine ta (v := ?_) 11 188 rfl ?_ ?_
                             rotate_left
                             · (intro W' hSw; obtain ⟨b0, b1, b2, b3, b4, b5, b6, b7, b8, c0, c1, c2, d0⟩ := hSw; go_simp; try with_reducible rfl)
                             simp only [Act.put, pa, pz, ps]
                             refine ta (v := ?_) 12 200 rfl ?_ ?_
                             rotate_left
                             · (intro W' hSw; obtain ⟨b0, b1, b2, b3, b4, b5, b6, b7, b8, c0, c1, c2, d0⟩ := hSw; go_simp; try with_reducible rfl)
                             simp only [Act.put, pa, pz, ps]
                             refine ta (v := ?_) 13 201 rfl ?_ ?_
                             rotate_left
                             · (intro W' hSw; obtain ⟨b0, b1, b2, b3, b4, b5, b6, b7, b8, c0, c1, c2, d0⟩ := hSw; go_simp; try with_reducible rfl)
                             simp only [Act.put, pa, pz, ps]
                             refine wpAnyH_ready (rs := [14]) (by kernel_rfl) (by simp) ?_
                             refine AllReadyH.cons rfl (fun K hK => ?_) AllReadyH.nil
                             go_simp
                             obtain ⟨g28, hgn⟩ : ∃ g, V1.heap.size = g := ⟨_, rfl⟩
                             obtain ⟨V2, hV⟩ : ∃ W, V1.alloc (.cells #[.slice none 0 0, .slice none 0 0, .slice none 0 0] 29) = W := ⟨_, rfl⟩
                             have b2 : Below V1.heap.size V1 V2 := by rw [← hV]; exact below_alloc _
                             have bW := below_step hx.bel b2
                             have hb : Blk V2 g28 29 #[.slice none 0 0, .slice none 0 0, .slice none 0 0] := by rw [← hV]; exact Blk.new hgn
                             have hl : wD24.heap.size ≤ g28 := by rw [← hgn]; exact hx.bel.size
                             have sn := (hx.st HLS.out.1 HLS.out.2.1 HLS.out.2.2).on b2
                             have ab : PreAbv wD24.heap.size ⟨AXn, cXn, AEn, cEn, AHn, cHn⟩ := hx.abv (Nat.le_refl _)
                             have fr : PFar g28 M N1 N1 ⟨AXn, cXn, AEn, cEn, AHn, cHn⟩ := PFar.low (hx.st HLS.out.1 HLS.out.2.1 HLS.out.2.2) (by rw [hgn]; exact Nat.le_refl _)
                             refine hK.out _ _ (by rw [hV]; exact HSK.out _ bW) (fun hS2 => ?_)
                             clear hK K hS1 hS2
                             try simp only [Act.put, pa, pz, ps]
                             rw [hV]
                             rw [hgn]
                             clear hV hgn b2 hx V1
                             revert fr
                             revert ab
                             revert sn
                             revert hl
                             revert hb
                             revert bW
                             revert V2
                             revert g28
                             revert cHn
                             revert AHn
                             revert cEn
                             revert AEn
                             revert cXn
                             revert AXn
                             exact tf24.out
                           · go_simp
                             obtain ⟨g28, hgn⟩ : ∃ g, wD24.heap.size = g := ⟨_, rfl⟩
                             obtain ⟨V1, hV⟩ : ∃ W, wD24.alloc (.cells #[.slice none 0 0, .slice none 0 0, .slice none 0 0] 29) = W := ⟨_, rfl⟩
                             have b1 : Below wD24.heap.size wD24 V1 := by rw [← hV]; exact below_alloc _
                             have hb1 : Blk V1 g28 29 #[.slice none 0 0, .slice none 0 0, .slice none 0 0] := by rw [← hV]; exact Blk.new hgn
                             have hl : wD24.heap.size ≤ g28 := by rw [← hgn]; exact Nat.le_refl _
                             refine hK.out _ _ (by rw [hV]; exact HSK.out _ b1) (fun hS1 => ?_)
                             clear hK K
                             try simp only [Act.put, pa, pz, ps]
                             rw [hV] at hS1 ⊢
                             rw [hgn]
                             clear hV hgn
                             refine wpAnyH_ready (rs := [10]) (by kernel_rfl) (by simp) ?_
                             refine AllReadyH.cons rfl (fun K hK => ?_) AllReadyH.nil
                             go_simp
                             refine (HPB.out _ _ (HI3.out.on (below_step (below_step HBr.out HBD.out) b1)) (HSD.out.on b1).sq).mono ?_
                             rintro e V2 ⟨⟨AXn, cXn, AEn, cEn, AHn, cHn⟩, rfl, hx⟩
                             try dsimp only [preW]
                             have bW := below_step b1 hx.bel
                             refine hK.out _ _ (HSK.out _ bW) (fun hS2 => ?_)
                             clear hK K
                             try simp only [Act.put, pa, pz, ps]
                             refine ta (v := ?_) 11 188 rfl ?_ ?_
                             rotate_left
                             · (intro W' hSw; obtain ⟨b0, b1, b2, b3, b4, b5, b6, b7, b8, c0, c1, c2, d0⟩ := hSw; go_simp; try with_reducible rfl)
                             simp only [Act.put, pa, pz, ps]
                             refine ta (v := ?_) 12 200 rfl ?_ ?_
                             rotate_left
                             · (intro W' hSw; obtain ⟨b0, b1, b2, b3, b4, b5, b6, b7, b8, c0, c1, c2, d0⟩ := hSw; go_simp; try with_reducible rfl)
                             simp only [Act.put, pa, pz, ps]
                             refine ta (v := ?_) 13 201 rfl ?_ ?_
                             rotate_left
                             · (intro W' hSw; obtain ⟨b0, b1, b2, b3, b4, b5, b6, b7, b8, c0, c1, c2, d0⟩ := hSw; go_simp; try with_reducible rfl)
                             simp only [Act.put, pa, pz, ps]
                             have hb := hb1.below hx.bel hb1.lt
                             have sn := hx.st HLS.out.1 HLS.out.2.1 HLS.out.2.2
                             have ab : PreAbv wD24.heap.size ⟨AXn, cXn, AEn, cEn, AHn, cHn⟩ := hx.abv b1.size
                             have fr : PFar g28 M N1 N1 ⟨AXn, cXn, AEn, cEn, AHn, cHn⟩ := PFar.high (hx.abv (Nat.le_refl _)) hb1.lt
                             clear hx hb1 b1 hS1 hS2 V1
                             revert fr
                             revert ab
                             revert sn
                             revert hl
                             revert hb
                             revert bW
                             revert V2
                             revert g28
                             revert cHn
                             revert AHn
                             revert cEn
                             revert AEn
                             revert cXn
                             revert AXn
                             exact tf24.out
                         case ptf24 =>
                          refine Lib.hid ?_
                          intro AXn cXn AEn cEn AHn cHn g28 W24 bW hb hl sn ab fr
                          clear HPB
                          obtain ⟨⟨j0, j1, j2⟩, ⟨j3, j4, j5⟩, hj6⟩ := hb.full3
                          refine wpAnyH_ready (rs := [15]) (by kernel_rfl) (by simp) ?_
                          refine AllReadyH.cons rfl (fun K hK => ?_) AllReadyH.nil
                          go_simp
                          have HGg28 := Lib.hid (hb.put3 (x := .slice AXn M cXn) (y := .slice AEn N1 cEn) (z := .slice AHn N1 cHn))
                          have HSg28 := Lib.hid (sn.far3 fr (.slice AXn M cXn) (.slice AEn N1 cEn) (.slice AHn N1 cHn))
                          have gb := below_put3 (x := .slice AXn M cXn) (y := .slice AEn N1 cEn) (z := .slice AHn N1 cHn) bW hl
                          have HGBg28 := Lib.hid gb
                          have HFg28 := Lib.hid (show (PFar g13 M N1 N1 ⟨AXn, cXn, AEn, cEn, AHn, cHn⟩ ∧ PFar g14 M N1 N1 ⟨AXn, cXn, AEn, cEn, AHn, cHn⟩) ∧ g13 < g28 ∧ g14 < g28 from ⟨⟨PFar.high ab HSD.out.q.lt, PFar.high ab HSD.out.r.lt⟩, by have := HSD.out.q.lt; omega, by have := HSD.out.r.lt; omega⟩)
                          refine hK.out _ _ (HSK.out _ gb) (fun hS3 => ?_)
                          clear hK K hS0 bW hb hl sn ab fr gb j0 j1 j2 j3 j4 j5 hj6
                          try simp only [Act.put, pa, pz, ps]
                          refine ta (v := ?_) 16 29 rfl ?_ ?_
                          rotate_left
                          · (intro W' hSw; obtain ⟨b0, b1, b2, b3, b4, b5, b6, b7, b8, c0, c1, c2, d0⟩ := hSw; go_simp; try with_reducible rfl)
                          simp only [Act.put, pa, pz, ps]
                          refine wpAnyH_done (by kernel_rfl) ?_ _
                          clear hS3
                          obtain ⟨wB24, hwB⟩ : ∃ W, put3 W24 g28 (.slice AXn M cXn) (.slice AEn N1 cEn) (.slice AHn N1 cHn) = W := ⟨_, rfl⟩
                          have h1 := HGg28.out; have h2 := HSg28.out; have h3 := HGBg28.out
                          rw [hwB] at h1 h2 h3
                          dsimp only [put3] at hwB
                          rw [hwB]
                          clear hwB HGg28 HSg28 HGBg28
                          have HGg28 := Lib.hid h1; have HSg28 := Lib.hid h2
                          have HBA := Lib.hid (below_step HBD.out h3); have HSA := Lib.hid (HSD.out.on h3); have HLA := Lib.hid (below_step HLD.out h3)
                          clear h1 h2 h3 HBD HSD HLD HSK W24 HBL hzL2
                          as_aux_lemma =>
                            go_upto_region 25 with fail
                            obtain ⟨wA, hwA⟩ : ∃ W, W = wB24 := ⟨_, rfl⟩
                            subst hwA
                            obtain ⟨wD25, hwD⟩ : ∃ W, wA.drew = W := ⟨_, rfl⟩
                            have bAD : Below wA.heap.size wA wD25 := by rw [← hwD]; exact (Below.refl _ _).drew
                            have HBD := Lib.hid (below_step HBA.out bAD); have HSD := Lib.hid (HSA.out.on bAD); have HLD := Lib.hid (below_step HLA.out bAD)
                            have HGg28d := Lib.hid (HGg28.out.below bAD HGg28.out.lt); have HSg28d := Lib.hid (HSg28.out.on bAD)
                            clear HGg28 HSg28 HBA HSA HLA
                            have HSK := Lib.hid (show ∀ W', Below wD25.heap.size wD25 W' → W'.cell? ⟨g11, 0, none⟩ = some (.int .i64 (N1 : Int)) ∧ W'.cell? ⟨g11, 1, none⟩ = some (.int .i64 (s : Int)) ∧ W'.cell? ⟨g11, 2, none⟩ = some (.int .i64 (t : Int)) ∧ W'.cell? ⟨g11, 3, none⟩ = some (.slice AF (N1 + 1) cF) ∧ W'.cell? ⟨g11, 4, none⟩ = some (.slice AH M cH) ∧ W'.cell? ⟨g11, 5, none⟩ = some (.slice AR M cR) ∧ W'.cell? ⟨g11, 6, none⟩ = some (.slice AC M cC) ∧ W'.cell? ⟨g11, 7, none⟩ = some (.slice AA M cA) ∧ W'.cell? ⟨g11, 8, none⟩ = some (.slice AB M cB) ∧ W'.cell? ⟨g14, 0, none⟩ = some (.slice AXr M cXr) ∧ W'.cell? ⟨g14, 1, none⟩ = some (.slice AEr N1 cEr) ∧ W'.cell? ⟨g14, 2, none⟩ = some (.slice AHr N1 cHr) ∧ W'.cell? ⟨bL, oL + j, none⟩ = some (.int .i64 (aj : Int)) from fun W' hb => by
                              have h9 := HKEEP.out W' (below_step (below_step HBr.out HBD.out) hb)
                              have hq := (HSD.out.on hb).r.full3.1
                              have hl := ((LaI.out.on (below_step HLD.out hb)).cel LaK.out).2
                              exact ⟨h9.1, h9.2.1, h9.2.2.1, h9.2.2.2.1, h9.2.2.2.2.1, h9.2.2.2.2.2.1, h9.2.2.2.2.2.2.1, h9.2.2.2.2.2.2.2.1, h9.2.2.2.2.2.2.2.2, hq.1, hq.2.1, hq.2.2, hl⟩)
                            have hbL := (LaI.out.cel LaK.out).1
                            have hzL := HLD.out.size
                            have hzL2 : bL < wD25.heap.size := by omega
                            have HBL := Lib.hid (And.intro hbL hzL)
                            clear bAD hbL hzL
                            refine wp_region_held_drew (S := fun W' => W'.cell? ⟨g11, 0, none⟩ = some (.int .i64 (N1 : Int)) ∧ W'.cell? ⟨g11, 1, none⟩ = some (.int .i64 (s : Int)) ∧ W'.cell? ⟨g11, 2, none⟩ = some (.int .i64 (t : Int)) ∧ W'.cell? ⟨g11, 3, none⟩ = some (.slice AF (N1 + 1) cF) ∧ W'.cell? ⟨g11, 4, none⟩ = some (.slice AH M cH) ∧ W'.cell? ⟨g11, 5, none⟩ = some (.slice AR M cR) ∧ W'.cell? ⟨g11, 6, none⟩ = some (.slice AC M cC) ∧ W'.cell? ⟨g11, 7, none⟩ = some (.slice AA M cA) ∧ W'.cell? ⟨g11, 8, none⟩ = some (.slice AB M cB) ∧ W'.cell? ⟨g14, 0, none⟩ = some (.slice AXr M cXr) ∧ W'.cell? ⟨g14, 1, none⟩ = some (.slice AEr N1 cEr) ∧ W'.cell? ⟨g14, 2, none⟩ = some (.slice AHr N1 cHr) ∧ W'.cell? ⟨bL, oL + j, none⟩ = some (.int .i64 (aj : Int))) (by kernel_rfl) (by rw [hwD]; exact HSK.out _ (Below.refl _ _)) (fun hS0 => ?_)
                            rw [hwD] at hS0 ⊢
                            clear hwD
                            refine ta (v := ?_) 0 203 rfl ?_ ?_
                            rotate_left
                            · (intro W' hSw; obtain ⟨b0, b1, b2, b3, b4, b5, b6, b7, b8, c0, c1, c2, d0⟩ := hSw; go_simp; try with_reducible rfl)
                            simp only [Act.put, pa, pz, ps]
                            refine ta (v := ?_) 1 204 rfl ?_ ?_
                            rotate_left
                            · (intro W' hSw; obtain ⟨b0, b1, b2, b3, b4, b5, b6, b7, b8, c0, c1, c2, d0⟩ := hSw; go_simp; try with_reducible rfl)
                            simp only [Act.put, pa, pz, ps]
                            refine ta (v := ?_) 2 205 rfl ?_ ?_
                            rotate_left
                            · (intro W' hSw; obtain ⟨b0, b1, b2, b3, b4, b5, b6, b7, b8, c0, c1, c2, d0⟩ := hSw; go_simp; try with_reducible rfl)
                            simp only [Act.put, pa, pz, ps]
                            refine ta (v := ?_) 3 206 rfl ?_ ?_
                            rotate_left
                            · (intro W' hSw; obtain ⟨b0, b1, b2, b3, b4, b5, b6, b7, b8, c0, c1, c2, d0⟩ := hSw; go_simp; try with_reducible rfl)
                            simp only [Act.put, pa, pz, ps]
                            have hqi := HQI.out
                            refine ta (v := ?_) 4 207 rfl ?_ ?_
                            rotate_left
                            · (intro W' hSw; obtain ⟨b0, b1, b2, b3, b4, b5, b6, b7, b8, c0, c1, c2, d0⟩ := hSw; go_simp; try with_reducible rfl)
                            simp only [Act.put, pa, pz, ps]
                            clear hqi
                            refine ta (v := ?_) 5 208 rfl ?_ ?_
                            rotate_left
                            · (intro W' hSw; obtain ⟨b0, b1, b2, b3, b4, b5, b6, b7, b8, c0, c1, c2, d0⟩ := hSw; go_simp; try with_reducible rfl)
                            simp only [Act.put, pa, pz, ps]
                            refine ta (v := ?_) 6 209 rfl ?_ ?_
                            rotate_left
                            · (intro W' hSw; obtain ⟨b0, b1, b2, b3, b4, b5, b6, b7, b8, c0, c1, c2, d0⟩ := hSw; go_simp; try with_reducible rfl)
                            simp only [Act.put, pa, pz, ps]
                            have hji := HJI.out
                            have hnz : ¬ nv = 0 := by omega
                            refine ta (v := ?_) 7 210 rfl ?_ ?_
                            rotate_left
                            · (intro W' hSw; obtain ⟨b0, b1, b2, b3, b4, b5, b6, b7, b8, c0, c1, c2, d0⟩ := hSw; go_simp; try with_reducible rfl)
                            simp only [Act.put, pa, pz, ps]
                            clear hji hnz
                            refine ta (v := ?_) 8 211 rfl ?_ ?_
                            rotate_left
                            · (intro W' hSw; obtain ⟨b0, b1, b2, b3, b4, b5, b6, b7, b8, c0, c1, c2, d0⟩ := hSw; go_simp; try with_reducible rfl)
                            simp only [Act.put, pa, pz, ps]
                            refine ta (v := ?_) 9 212 rfl ?_ ?_
                            rotate_left
                            · (intro W' hSw; obtain ⟨b0, b1, b2, b3, b4, b5, b6, b7, b8, c0, c1, c2, d0⟩ := hSw; go_simp; try with_reducible rfl)
                            simp only [Act.put, pa, pz, ps]
                            refine (have tf25 : Hid ?Ttf25 := ?ptf25; ?mtf25)
                            case mtf25 =>
                              refine wpAnyH_ready (rs := [10, 14]) (by kernel_rfl) (by simp) ?_
                              refine AllReadyH.cons rfl (fun K hK => ?_) (AllReadyH.cons rfl (fun K hK => ?_) AllReadyH.nil)
                              · go_simp
                                refine (HRB.out _ _ (HI3.out.on (below_step HBr.out HBD.out)) HSD.out.sr).mono ?_
                                rintro e V1 ⟨⟨AXm, cXm, AEm, cEm, AHm, cHm⟩, rfl, hx⟩
                                try dsimp only [preW]
                                refine hK.out _ _ (HSK.out _ hx.bel) (fun hS1 => ?_)
                                clear hK K
                                try simp only [Act.put, pa, pz, ps]
                                refine ta (v := ?_) 11 202 rfl ?_ ?_
                                rotate_left
                                · (intro W' hSw; obtain ⟨b0, b1, b2, b3, b4, b5, b6, b7, b8, c0, c1, c2, d0⟩ := hSw; go_simp; try with_reducible rfl)
                                simp only [Act.put, pa, pz, ps]
                                refine ta (v := ?_) 12 214 rfl ?_ ?_
                                rotate_left
                                · (intro W' hSw; obtain ⟨b0, b1, b2, b3, b4, b5, b6, b7, b8, c0, c1, c2, d0⟩ := hSw; go_simp; try with_reducible rfl)
                                simp only [Act.put, pa, pz, ps]
                                refine ta (v := ?_) 13 215 rfl ?_ ?_
                                rotate_left
                                · (intro W' hSw; obtain ⟨b0, b1, b2, b3, b4, b5, b6, b7, b8, c0, c1, c2, d0⟩ := hSw; go_simp; try with_reducible rfl)
                                simp only [Act.put, pa, pz, ps]
                                refine wpAnyH_ready (rs := [14]) (by kernel_rfl) (by simp) ?_
                                refine AllReadyH.cons rfl (fun K hK => ?_) AllReadyH.nil
                                go_simp
                                obtain ⟨g30, hgn⟩ : ∃ g, V1.heap.size = g := ⟨_, rfl⟩
                                obtain ⟨V2, hV⟩ : ∃ W, V1.alloc (.cells #[.slice none 0 0, .slice none 0 0, .slice none 0 0] 29) = W := ⟨_, rfl⟩
                                have b2 : Below V1.heap.size V1 V2 := by rw [← hV]; exact below_alloc _
                                have bW := below_step hx.bel b2
                                have hb : Blk V2 g30 29 #[.slice none 0 0, .slice none 0 0, .slice none 0 0] := by rw [← hV]; exact Blk.new hgn
                                have hl : wD25.heap.size ≤ g30 := by rw [← hgn]; exact hx.bel.size
                                have sn := (hx.st HLS.out.1 HLS.out.2.1 HLS.out.2.2).on b2
                                have ab : PreAbv wD25.heap.size ⟨AXm, cXm, AEm, cEm, AHm, cHm⟩ := hx.abv (Nat.le_refl _)
                                have fr : PFar g30 M N1 N1 ⟨AXm, cXm, AEm, cEm, AHm, cHm⟩ := PFar.low (hx.st HLS.out.1 HLS.out.2.1 HLS.out.2.2) (by rw [hgn]; exact Nat.le_refl _)
                                refine hK.out _ _ (by rw [hV]; exact HSK.out _ bW) (fun hS2 => ?_)
                                clear hK K hS1 hS2
                                try simp only [Act.put, pa, pz, ps]
                                rw [hV]
                                rw [hgn]
                                clear hV hgn b2 hx V1
                                revert fr
                                revert ab
                                revert sn
                                revert hl
                                revert hb
                                revert bW
                                revert V2
                                revert g30
                                revert cHm
                                revert AHm
                                revert cEm
                                revert AEm
                                revert cXm
                                revert AXm
                                exact tf25.out
                              · go_simp
                                obtain ⟨g30, hgn⟩ : ∃ g, wD25.heap.size = g := ⟨_, rfl⟩
                                obtain ⟨V1, hV⟩ : ∃ W, wD25.alloc (.cells #[.slice none 0 0, .slice none 0 0, .slice none 0 0] 29) = W := ⟨_, rfl⟩
                                have b1 : Below wD25.heap.size wD25 V1 := by rw [← hV]; exact below_alloc _
                                have hb1 : Blk V1 g30 29 #[.slice none 0 0, .slice none 0 0, .slice none 0 0] := by rw [← hV]; exact Blk.new hgn
                                have hl : wD25.heap.size ≤ g30 := by rw [← hgn]; exact Nat.le_refl _
                                refine hK.out _ _ (by rw [hV]; exact HSK.out _ b1) (fun hS1 => ?_)
                                clear hK K
                                try simp only [Act.put, pa, pz, ps]
                                rw [hV] at hS1 ⊢
                                rw [hgn]
                                clear hV hgn
                                refine wpAnyH_ready (rs := [10]) (by kernel_rfl) (by simp) ?_
                                refine AllReadyH.cons rfl (fun K hK => ?_) AllReadyH.nil
                                go_simp
                                refine (HRB.out _ _ (HI3.out.on (below_step (below_step HBr.out HBD.out) b1)) (HSD.out.on b1).sr).mono ?_
                                rintro e V2 ⟨⟨AXm, cXm, AEm, cEm, AHm, cHm⟩, rfl, hx⟩
                                try dsimp only [preW]
                                have bW := below_step b1 hx.bel
                                refine hK.out _ _ (HSK.out _ bW) (fun hS2 => ?_)
                                clear hK K
                                try simp only [Act.put, pa, pz, ps]
                                refine ta (v := ?_) 11 202 rfl ?_ ?_
                                rotate_left
                                · (intro W' hSw; obtain ⟨b0, b1, b2, b3, b4, b5, b6, b7, b8, c0, c1, c2, d0⟩ := hSw; go_simp; try with_reducible rfl)
                                simp only [Act.put, pa, pz, ps]
                                refine ta (v := ?_) 12 214 rfl ?_ ?_
                                rotate_left
                                · (intro W' hSw; obtain ⟨b0, b1, b2, b3, b4, b5, b6, b7, b8, c0, c1, c2, d0⟩ := hSw; go_simp; try with_reducible rfl)
                                simp only [Act.put, pa, pz, ps]
                                refine ta (v := ?_) 13 215 rfl ?_ ?_
                                rotate_left
                                · (intro W' hSw; obtain ⟨b0, b1, b2, b3, b4, b5, b6, b7, b8, c0, c1, c2, d0⟩ := hSw; go_simp; try with_reducible rfl)
                                simp only [Act.put, pa, pz, ps]
                                have hb := hb1.below hx.bel hb1.lt
                                have sn := hx.st HLS.out.1 HLS.out.2.1 HLS.out.2.2
                                have ab : PreAbv wD25.heap.size ⟨AXm, cXm, AEm, cEm, AHm, cHm⟩ := hx.abv b1.size
                                have fr : PFar g30 M N1 N1 ⟨AXm, cXm, AEm, cEm, AHm, cHm⟩ := PFar.high (hx.abv (Nat.le_refl _)) hb1.lt
                                clear hx hb1 b1 hS1 hS2 V1
                                revert fr
                                revert ab
                                revert sn
                                revert hl
                                revert hb
                                revert bW
                                revert V2
                                revert g30
                                revert cHm
                                revert AHm
                                revert cEm
                                revert AEm
                                revert cXm
                                revert AXm
                                exact tf25.out
                            case ptf25 =>
                             refine Lib.hid ?_
                             intro AXm cXm AEm cEm AHm cHm g30 W25 bW hb hl sn ab fr
                             clear HRB
                             obtain ⟨⟨j0, j1, j2⟩, ⟨j3, j4, j5⟩, hj6⟩ := hb.full3
                             refine wpAnyH_ready (rs := [15]) (by kernel_rfl) (by simp) ?_
                             refine AllReadyH.cons rfl (fun K hK => ?_) AllReadyH.nil
                             go_simp
                             have HGg30 := Lib.hid (hb.put3 (x := .slice AXm M cXm) (y := .slice AEm N1 cEm) (z := .slice AHm N1 cHm))
                             have HSg30 := Lib.hid (sn.far3 fr (.slice AXm M cXm) (.slice AEm N1 cEm) (.slice AHm N1 cHm))
                             have gb := below_put3 (x := .slice AXm M cXm) (y := .slice AEm N1 cEm) (z := .slice AHm N1 cHm) bW hl
                             have HGBg30 := Lib.hid gb
                             have HFg30 := Lib.hid (show (PFar g13 M N1 N1 ⟨AXm, cXm, AEm, cEm, AHm, cHm⟩ ∧ PFar g14 M N1 N1 ⟨AXm, cXm, AEm, cEm, AHm, cHm⟩) ∧ g13 < g30 ∧ g14 < g30 from ⟨⟨PFar.high ab HSD.out.q.lt, PFar.high ab HSD.out.r.lt⟩, by have := HSD.out.q.lt; omega, by have := HSD.out.r.lt; omega⟩)
                             refine hK.out _ _ (HSK.out _ gb) (fun hS3 => ?_)
                             clear hK K hS0 bW hb hl sn ab fr gb j0 j1 j2 j3 j4 j5 hj6
                             try simp only [Act.put, pa, pz, ps]
                             refine ta (v := ?_) 16 31 rfl ?_ ?_
                             rotate_left
                             · (intro W' hSw; obtain ⟨b0, b1, b2, b3, b4, b5, b6, b7, b8, c0, c1, c2, d0⟩ := hSw; go_simp; try with_reducible rfl)
                             simp only [Act.put, pa, pz, ps]
                             refine wpAnyH_done (by kernel_rfl) ?_ _
                             clear hS3
                             obtain ⟨wB25, hwB⟩ : ∃ W, put3 W25 g30 (.slice AXm M cXm) (.slice AEm N1 cEm) (.slice AHm N1 cHm) = W := ⟨_, rfl⟩
                             have h1 := HGg30.out; have h2 := HSg30.out; have h3 := HGBg30.out
                             rw [hwB] at h1 h2 h3
                             dsimp only [put3] at hwB
                             rw [hwB]
                             clear hwB HGg30 HSg30 HGBg30
                             have HGg30 := Lib.hid h1; have HSg30 := Lib.hid h2
                             have HBA := Lib.hid (below_step HBD.out h3); have HSA := Lib.hid (HSD.out.on h3); have HLA := Lib.hid (below_step HLD.out h3)
                             have HGg28 := Lib.hid (HGg28d.out.below h3 HGg28d.out.lt); have HSg28 := Lib.hid (HSg28d.out.on h3)
                             clear HGg28d HSg28d
                             clear h1 h2 h3 HBD HSD HLD HSK W25 HBL hzL2
                             as_aux_lemma =>
                               go_upto_region 26 with fail
                               obtain ⟨w11, hw11⟩ : ∃ W, wB25.drew = W := ⟨_, rfl⟩
                               have bAD : Below wB25.heap.size wB25 w11 := by rw [← hw11]; exact (Below.refl _ _).drew
                               have B11 := Lib.hid (below_step HBA.out bAD)
                               have hnx := (HSA.out.on bAD).next (Q' := ⟨AXn, cXn, AEn, cEn, AHn, cHn⟩) (R' := ⟨AXm, cXm, AEm, cEm, AHm, cHm⟩) hbb.out.2.2 (HSg28.out.on bAD) (HSg30.out.on bAD) HFg28.out.1 HFg30.out.1 HOKn.out
                               have HNX := Lib.hid hnx
                               have hq1 := (HSA.out.on bAD).q; have hr1 := (HSA.out.on bAD).r.far3 (x := .slice AXn M cXn) (y := .slice AEn N1 cEn) (z := .slice AHn N1 cHn) (fun e => hbb.out.2.2 e.symm)
                               have k1 := HGg28.out.below bAD HGg28.out.lt; have k2 := HGg30.out.below bAD HGg30.out.lt
                               have k3 := k1.far3 (x := .slice AXn M cXn) (y := .slice AEn N1 cEn) (z := .slice AHn N1 cHn) (show g28 ≠ g13 by have := HFg28.out.2.1; omega); have k4 := k2.far3 (x := .slice AXn M cXn) (y := .slice AEn N1 cEn) (z := .slice AHn N1 cHn) (show g30 ≠ g13 by have := HFg30.out.2.1; omega)
                               have k5 := k3.far3 (x := .slice AXm M cXm) (y := .slice AEm N1 cEm) (z := .slice AHm N1 cHm) (show g28 ≠ g14 by have := HFg28.out.2.2; omega); have k6 := k4.far3 (x := .slice AXm M cXm) (y := .slice AEm N1 cEm) (z := .slice AHm N1 cHm) (show g30 ≠ g14 by have := HFg30.out.2.2; omega)
                               have HR12 := Lib.hid hr1; have HK0 := Lib.hid (And.intro k1 k2); have HK3 := Lib.hid (And.intro k3 k4); have HK5 := Lib.hid (And.intro k5 k6)
                               have hbx : Below w3.heap.size w3 (put3 (put3 w11 g13 (.slice AXn M cXn) (.slice AEn N1 cEn) (.slice AHn N1 cHn)) g14 (.slice AXm M cXm) (.slice AEm N1 cEm) (.slice AHm N1 cHm)) := below_put3 (below_put3 (below_step HBr.out B11.out) hbb.out.1) hbb.out.2.1
                               have HBX := Lib.hid hbx
                               obtain ⟨⟨j0, j1, j2⟩, ⟨j3, j4, j5⟩, hj6⟩ := hq1.full3
                               clear hnx hr1 k1 k2 k3 k4 k5 k6 hbx hq1 bAD HBA HSA HLA HGg28 HGg30 HSg28 HSg30
                               refine wp_region_held_drew (S := fun W' => W'.cell? ⟨g28, 0, none⟩ = some (.slice AXn M cXn) ∧ W'.cell? ⟨g28, 1, none⟩ = some (.slice AEn N1 cEn) ∧ W'.cell? ⟨g28, 2, none⟩ = some (.slice AHn N1 cHn) ∧ W'.cell? ⟨g30, 0, none⟩ = some (.slice AXm M cXm) ∧ W'.cell? ⟨g30, 1, none⟩ = some (.slice AEm N1 cEm) ∧ W'.cell? ⟨g30, 2, none⟩ = some (.slice AHm N1 cHm)) (by kernel_rfl) (by rw [hw11]; exact ⟨HK0.out.1.full3.1.1, HK0.out.1.full3.1.2.1, HK0.out.1.full3.1.2.2, HK0.out.2.full3.1.1, HK0.out.2.full3.1.2.1, HK0.out.2.full3.1.2.2⟩) (fun hS0 => ?_)
                               rw [hw11] at hS0 ⊢
                               clear hw11
                               refine ta (v := ?_) 0 216 rfl ?_ ?_
                               rotate_left
                               · (intro W' hSw; obtain ⟨c0, c1, c2, d0, d1, d2⟩ := hSw; go_simp; try with_reducible rfl)
                               simp only [Act.put, pa, pz, ps]
                               refine ta (v := ?_) 1 217 rfl ?_ ?_
                               rotate_left
                               · (intro W' hSw; obtain ⟨c0, c1, c2, d0, d1, d2⟩ := hSw; go_simp; try with_reducible rfl)
                               simp only [Act.put, pa, pz, ps]
                               refine wpAnyH_ready (rs := [2]) (by kernel_rfl) (by simp) ?_
                               refine AllReadyH.cons rfl (fun K hK => ?_) AllReadyH.nil
                               go_simp
                               refine hK.out _ _ ⟨HK3.out.1.full3.1.1, HK3.out.1.full3.1.2.1, HK3.out.1.full3.1.2.2, HK3.out.2.full3.1.1, HK3.out.2.full3.1.2.1, HK3.out.2.full3.1.2.2⟩ (fun hS1 => ?_)
                               clear hK K hS0 hS1 j0 j1 j2 j3 j4 j5 hj6
                               try simp only [Act.put, pa, pz, ps]
                               obtain ⟨w12, hw12⟩ : ∃ W, put3 w11 g13 (.slice AXn M cXn) (.slice AEn N1 cEn) (.slice AHn N1 cHn) = W := ⟨_, rfl⟩
                               have hnx := HNX.out; have hr12 := HR12.out; have hbx := HBX.out; have hk5 := HK5.out
                               rw [hw12] at hnx hr12 hbx hk5
                               dsimp only [put3] at hw12
                               rw [hw12]
                               clear hw12 HNX HR12 HBX HK5 HK3 HK0
                               have HNX := Lib.hid hnx; have HBX := Lib.hid hbx; have HK5 := Lib.hid hk5
                               obtain ⟨⟨j0, j1, j2⟩, ⟨j3, j4, j5⟩, hj6⟩ := hr12.full3
                               clear hnx hbx hr12 hk5
                               refine wpAnyH_ready (rs := [3]) (by kernel_rfl) (by simp) ?_
                               refine AllReadyH.cons rfl (fun K hK => ?_) AllReadyH.nil
                               go_simp
                               refine hK.out _ _ ⟨HK5.out.1.full3.1.1, HK5.out.1.full3.1.2.1, HK5.out.1.full3.1.2.2, HK5.out.2.full3.1.1, HK5.out.2.full3.1.2.1, HK5.out.2.full3.1.2.2⟩ (fun hS2 => ?_)
                               clear hK K hS2 j0 j1 j2 j3 j4 j5 hj6
                               try simp only [Act.put, pa, pz, ps]
                               refine wpAnyH_done (by kernel_rfl) ?_ _
                               have hq6 := HQ6.out
                               go_wp2_with fail
                               refine ⟨⟨k + 1, ⟨AXn, cXn, AEn, cEn, AHn, cHn⟩, ⟨AXm, cXm, AEm, cEm, AHm, cHm⟩, _, _, _, by omega, by go_num, HNX.out, HBX.out⟩, ?_⟩
                               simp [intOf]; omega
             · have ek : q = k := by omega
               as_aux_lemma =>
                 have hcp := copyPre_is M N1 N1 ⟨AXr, cXr, AEr, cEr, AHr, cHr⟩ X E H wr HSr.out.sr (by omega) (by omega) (by omega)
                 have hp1 := fun W (hb : Below wr.heap.size wr W) => push_is N1 M s t ⟨AF, cF, AH, cH, AR, cR, AC, cC, AA, cA, AB, cB⟩ ⟨AXq, cXq, AEq, cEq, AHq, cHq⟩ fst hd rv ai cp bk X E H a W HGG.out (HI3.out.on (below_step HBr.out hb)) (HSr.out.on hb).sq HSr.out.ok
                 have hp2 := fun W (hb : Below wr.heap.size wr W) => rpush_is N1 M s t ⟨AF, cF, AH, cH, AR, cR, AC, cC, AA, cA, AB, cB⟩ ⟨AXr, cXr, AEr, cEr, AHr, cHr⟩ fst hd rv ai cp bk X E H a W HGG.out (HI3.out.on (below_step HBr.out hb)) (HSr.out.on hb).sr HSr.out.ok
                 have hl1 := fun W (hb : Below wr.heap.size wr W) => lift_is N1 M s t ⟨AF, cF, AH, cH, AR, cR, AC, cC, AA, cA, AB, cB⟩ ⟨AXq, cXq, AEq, cEq, AHq, cHq⟩ fst hd rv ai cp bk X E H u W HGG.out (HI3.out.on (below_step HBr.out hb)) (HSr.out.on hb).sq HSr.out.ok
                 have hl2 := fun W (hb : Below wr.heap.size wr W) => rlift_is N1 M s t ⟨AF, cF, AH, cH, AR, cR, AC, cC, AA, cA, AB, cB⟩ ⟨AXr, cXr, AEr, cEr, AHr, cHr⟩ fst hd rv ai cp bk X E H u W HGG.out (HI3.out.on (below_step HBr.out hb)) (HSr.out.on hb).sr HSr.out.ok
                 have hpl := push_lens (fst := fst) hlx hle hlh (by omega) (by omega) (s := s) (t := t) (hd := hd) (rv := rv) (a := a)
                 have hll := lift_lens hlx hle hlh (by omega) (by omega) (s := s) (t := t) (fst := fst) (hd := hd) (rv := rv) (u := u)
                 obtain ⟨PS, hPS⟩ : ∃ P, pushS M s t hd rv X E H a = P := ⟨_, rfl⟩
                 obtain ⟨LS, hLS⟩ : ∃ P, liftS N1 s t fst hd rv X E H u = P := ⟨_, rfl⟩
                 obtain ⟨pc, hpc⟩ : ∃ P, pushC M s t hd rv X E H a = P := ⟨_, rfl⟩
                 obtain ⟨lc, hlc⟩ : ∃ P, liftC N1 s t fst hd rv X E H u = P := ⟨_, rfl⟩
                 rw [hPS] at hpl; rw [hLS] at hll
                 simp only [hPS, hpc] at hp1 hp2
                 simp only [hLS, hlc] at hl1 hl2
                 obtain ⟨pd, PX, PE, PH⟩ := PS
                 obtain ⟨LX, LE, LH⟩ := LS
                 dsimp only [csrW, preW] at hcp hp1 hp2 hl1 hl2 hpl hll
                 have HCP := Lib.hid hcp; have HP1' := Lib.hid hp1; have HP2' := Lib.hid hp2; have HL1' := Lib.hid hl1; have HL2' := Lib.hid hl2; have HPL := Lib.hid hpl; have HLL := Lib.hid hll
                 clear hcp hp1 hp2 hl1 hl2 hpl hll hPS hLS hpc hlc ek
                 obtain ⟨⟨b0, b1, b2, b3, b4, b5, b6, b7, b8, c0, c1, c2, d0, d1, d2⟩, -⟩ : (wr.cell? ⟨g11, 0, none⟩ = some (.int .i64 (N1 : Int)) ∧ wr.cell? ⟨g11, 1, none⟩ = some (.int .i64 (s : Int)) ∧ wr.cell? ⟨g11, 2, none⟩ = some (.int .i64 (t : Int)) ∧ wr.cell? ⟨g11, 3, none⟩ = some (.slice AF (N1 + 1) cF) ∧ wr.cell? ⟨g11, 4, none⟩ = some (.slice AH M cH) ∧ wr.cell? ⟨g11, 5, none⟩ = some (.slice AR M cR) ∧ wr.cell? ⟨g11, 6, none⟩ = some (.slice AC M cC) ∧ wr.cell? ⟨g11, 7, none⟩ = some (.slice AA M cA) ∧ wr.cell? ⟨g11, 8, none⟩ = some (.slice AB M cB) ∧ wr.cell? ⟨g13, 0, none⟩ = some (.slice AXq M cXq) ∧ wr.cell? ⟨g13, 1, none⟩ = some (.slice AEq N1 cEq) ∧ wr.cell? ⟨g13, 2, none⟩ = some (.slice AHq N1 cHq) ∧ wr.cell? ⟨g14, 0, none⟩ = some (.slice AXr M cXr) ∧ wr.cell? ⟨g14, 1, none⟩ = some (.slice AEr N1 cEr) ∧ wr.cell? ⟨g14, 2, none⟩ = some (.slice AHr N1 cHr)) ∧ True := ⟨HK14.out _ (Below.refl _ _), trivial⟩
                 go_wp2_with fail
                 refine HCP.out.mono ?_
                 rintro e v1 ⟨⟨AX3, cX3, AE3, cE3, AH3, cH3⟩, rfl, x3⟩
                 try dsimp only [preW]
                 clear b0 b1 b2 b3 b4 b5 b6 b7 b8 c0 c1 c2 d0 d1 d2 HCP
                 obtain ⟨g32, hg32⟩ : ∃ g, v1.heap.size = g := ⟨_, rfl⟩
                 obtain ⟨v2, hv2⟩ : ∃ W, v1.alloc (.cells #[.slice AX3 M cX3, .slice AE3 N1 cE3, .slice AH3 N1 cH3] 29) = W := ⟨_, rfl⟩
                 have bb2 : Below v1.heap.size v1 v2 := by rw [← hv2]; exact below_alloc _
                 have HB2' := Lib.hid (below_step x3.bel bb2)
                 have HG32 := Lib.hid (show Blk v2 g32 29 #[.slice AX3 M cX3, .slice AE3 N1 cE3, .slice AH3 N1 cH3] by rw [← hv2]; exact Blk.new hg32)
                 have HS32 := Lib.hid ((x3.st hlx hle hlh).on bb2)
                 clear bb2 x3
                 obtain ⟨⟨b0, b1, b2, b3, b4, b5, b6, b7, b8, c0, c1, c2, d0, d1, d2⟩, -⟩ : (v2.cell? ⟨g11, 0, none⟩ = some (.int .i64 (N1 : Int)) ∧ v2.cell? ⟨g11, 1, none⟩ = some (.int .i64 (s : Int)) ∧ v2.cell? ⟨g11, 2, none⟩ = some (.int .i64 (t : Int)) ∧ v2.cell? ⟨g11, 3, none⟩ = some (.slice AF (N1 + 1) cF) ∧ v2.cell? ⟨g11, 4, none⟩ = some (.slice AH M cH) ∧ v2.cell? ⟨g11, 5, none⟩ = some (.slice AR M cR) ∧ v2.cell? ⟨g11, 6, none⟩ = some (.slice AC M cC) ∧ v2.cell? ⟨g11, 7, none⟩ = some (.slice AA M cA) ∧ v2.cell? ⟨g11, 8, none⟩ = some (.slice AB M cB) ∧ v2.cell? ⟨g13, 0, none⟩ = some (.slice AXq M cXq) ∧ v2.cell? ⟨g13, 1, none⟩ = some (.slice AEq N1 cEq) ∧ v2.cell? ⟨g13, 2, none⟩ = some (.slice AHq N1 cHq) ∧ v2.cell? ⟨g14, 0, none⟩ = some (.slice AXr M cXr) ∧ v2.cell? ⟨g14, 1, none⟩ = some (.slice AEr N1 cEr) ∧ v2.cell? ⟨g14, 2, none⟩ = some (.slice AHr N1 cHr)) ∧ True := ⟨HK14.out _ HB2'.out, trivial⟩
                 have hzw := HB2'.out.size
                 have y13 : g13 < v2.heap.size := by omega
                 have y14 : g14 < v2.heap.size := by omega
                 have y11 : g11 < v2.heap.size := by omega
                 go_wp2_with fail
                 clear hv2 hg32
                 refine (HP1'.out _ HB2'.out).mono ?_
                 rintro e v3 ⟨⟨AX4, cX4, AE4, cE4, AH4, cH4⟩, rfl, x4⟩
                 try dsimp only [preW]
                 clear b0 b1 b2 b3 b4 b5 b6 b7 b8 c0 c1 c2 d0 d1 d2 HP1' hzw y13 y14 y11
                 obtain ⟨g33, hg33⟩ : ∃ g, v3.heap.size = g := ⟨_, rfl⟩
                 obtain ⟨v4, hv4⟩ : ∃ W, v3.alloc (.cells #[.slice AX4 PX.length cX4, .slice AE4 PE.length cE4, .slice AH4 PH.length cH4] 29) = W := ⟨_, rfl⟩
                 have bb2 : Below v3.heap.size v3 v4 := by rw [← hv4]; exact below_alloc _
                 have bst := below_step x4.bel bb2
                 have HB4' := Lib.hid (below_step HB2'.out bst)
                 have HG33 := Lib.hid (show Blk v4 g33 29 #[.slice AX4 PX.length cX4, .slice AE4 PE.length cE4, .slice AH4 PH.length cH4] by rw [← hv4]; exact Blk.new hg33)
                 have HS33 := Lib.hid ((x4.st rfl rfl rfl).on bb2)
                 have HV2 := Lib.hid bst
                 clear bb2 x4 bst
                 obtain ⟨⟨b0, b1, b2, b3, b4, b5, b6, b7, b8, c0, c1, c2, d0, d1, d2⟩, -⟩ : (v4.cell? ⟨g11, 0, none⟩ = some (.int .i64 (N1 : Int)) ∧ v4.cell? ⟨g11, 1, none⟩ = some (.int .i64 (s : Int)) ∧ v4.cell? ⟨g11, 2, none⟩ = some (.int .i64 (t : Int)) ∧ v4.cell? ⟨g11, 3, none⟩ = some (.slice AF (N1 + 1) cF) ∧ v4.cell? ⟨g11, 4, none⟩ = some (.slice AH M cH) ∧ v4.cell? ⟨g11, 5, none⟩ = some (.slice AR M cR) ∧ v4.cell? ⟨g11, 6, none⟩ = some (.slice AC M cC) ∧ v4.cell? ⟨g11, 7, none⟩ = some (.slice AA M cA) ∧ v4.cell? ⟨g11, 8, none⟩ = some (.slice AB M cB) ∧ v4.cell? ⟨g13, 0, none⟩ = some (.slice AXq M cXq) ∧ v4.cell? ⟨g13, 1, none⟩ = some (.slice AEq N1 cEq) ∧ v4.cell? ⟨g13, 2, none⟩ = some (.slice AHq N1 cHq) ∧ v4.cell? ⟨g14, 0, none⟩ = some (.slice AXr M cXr) ∧ v4.cell? ⟨g14, 1, none⟩ = some (.slice AEr N1 cEr) ∧ v4.cell? ⟨g14, 2, none⟩ = some (.slice AHr N1 cHr)) ∧ True := ⟨HK14.out _ HB4'.out, trivial⟩
                 have hzw := HB4'.out.size
                 have y13 : g13 < v4.heap.size := by omega
                 have y14 : g14 < v4.heap.size := by omega
                 have y11 : g11 < v4.heap.size := by omega
                 go_wp2_with fail
                 clear hv4 hg33
                 refine (HP2'.out _ HB4'.out).mono ?_
                 rintro e v5 ⟨⟨AX5, cX5, AE5, cE5, AH5, cH5⟩, rfl, x5⟩
                 try dsimp only [preW]
                 clear b0 b1 b2 b3 b4 b5 b6 b7 b8 c0 c1 c2 d0 d1 d2 HP2' hzw y13 y14 y11
                 obtain ⟨g36, hg36⟩ : ∃ g, v5.heap.size = g := ⟨_, rfl⟩
                 obtain ⟨v6, hv6⟩ : ∃ W, v5.alloc (.cells #[.slice AX5 PX.length cX5, .slice AE5 PE.length cE5, .slice AH5 PH.length cH5] 29) = W := ⟨_, rfl⟩
                 have bb2 : Below v5.heap.size v5 v6 := by rw [← hv6]; exact below_alloc _
                 have bst := below_step x5.bel bb2
                 have HB6' := Lib.hid (below_step HB4'.out bst)
                 have HG36 := Lib.hid (show Blk v6 g36 29 #[.slice AX5 PX.length cX5, .slice AE5 PE.length cE5, .slice AH5 PH.length cH5] by rw [← hv6]; exact Blk.new hg36)
                 have HS36 := Lib.hid ((x5.st rfl rfl rfl).on bb2)
                 have HV2 := Lib.hid (below_step HV2.out bst)
                 have HV4 := Lib.hid bst
                 clear bb2 x5 bst
                 obtain ⟨⟨b0, b1, b2, b3, b4, b5, b6, b7, b8, c0, c1, c2, d0, d1, d2⟩, -⟩ : (v6.cell? ⟨g11, 0, none⟩ = some (.int .i64 (N1 : Int)) ∧ v6.cell? ⟨g11, 1, none⟩ = some (.int .i64 (s : Int)) ∧ v6.cell? ⟨g11, 2, none⟩ = some (.int .i64 (t : Int)) ∧ v6.cell? ⟨g11, 3, none⟩ = some (.slice AF (N1 + 1) cF) ∧ v6.cell? ⟨g11, 4, none⟩ = some (.slice AH M cH) ∧ v6.cell? ⟨g11, 5, none⟩ = some (.slice AR M cR) ∧ v6.cell? ⟨g11, 6, none⟩ = some (.slice AC M cC) ∧ v6.cell? ⟨g11, 7, none⟩ = some (.slice AA M cA) ∧ v6.cell? ⟨g11, 8, none⟩ = some (.slice AB M cB) ∧ v6.cell? ⟨g13, 0, none⟩ = some (.slice AXq M cXq) ∧ v6.cell? ⟨g13, 1, none⟩ = some (.slice AEq N1 cEq) ∧ v6.cell? ⟨g13, 2, none⟩ = some (.slice AHq N1 cHq) ∧ v6.cell? ⟨g14, 0, none⟩ = some (.slice AXr M cXr) ∧ v6.cell? ⟨g14, 1, none⟩ = some (.slice AEr N1 cEr) ∧ v6.cell? ⟨g14, 2, none⟩ = some (.slice AHr N1 cHr)) ∧ True := ⟨HK14.out _ HB6'.out, trivial⟩
                 have hzw := HB6'.out.size
                 have y13 : g13 < v6.heap.size := by omega
                 have y14 : g14 < v6.heap.size := by omega
                 have y11 : g11 < v6.heap.size := by omega
                 go_wp2_with fail
                 clear hv6 hg36
                 refine (HL1'.out _ HB6'.out).mono ?_
                 rintro e v7 ⟨⟨AX6, cX6, AE6, cE6, AH6, cH6⟩, rfl, x6⟩
                 try dsimp only [preW]
                 clear b0 b1 b2 b3 b4 b5 b6 b7 b8 c0 c1 c2 d0 d1 d2 HL1' hzw y13 y14 y11
                 obtain ⟨g39, hg39⟩ : ∃ g, v7.heap.size = g := ⟨_, rfl⟩
                 obtain ⟨v8, hv8⟩ : ∃ W, v7.alloc (.cells #[.slice AX6 LX.length cX6, .slice AE6 LE.length cE6, .slice AH6 LH.length cH6] 29) = W := ⟨_, rfl⟩
                 have bb2 : Below v7.heap.size v7 v8 := by rw [← hv8]; exact below_alloc _
                 have bst := below_step x6.bel bb2
                 have HB8' := Lib.hid (below_step HB6'.out bst)
                 have HG39 := Lib.hid (show Blk v8 g39 29 #[.slice AX6 LX.length cX6, .slice AE6 LE.length cE6, .slice AH6 LH.length cH6] by rw [← hv8]; exact Blk.new hg39)
                 have HS39 := Lib.hid ((x6.st rfl rfl rfl).on bb2)
                 have HV2 := Lib.hid (below_step HV2.out bst)
                 have HV4 := Lib.hid (below_step HV4.out bst)
                 have HV6 := Lib.hid bst
                 clear bb2 x6 bst
                 obtain ⟨⟨b0, b1, b2, b3, b4, b5, b6, b7, b8, c0, c1, c2, d0, d1, d2⟩, -⟩ : (v8.cell? ⟨g11, 0, none⟩ = some (.int .i64 (N1 : Int)) ∧ v8.cell? ⟨g11, 1, none⟩ = some (.int .i64 (s : Int)) ∧ v8.cell? ⟨g11, 2, none⟩ = some (.int .i64 (t : Int)) ∧ v8.cell? ⟨g11, 3, none⟩ = some (.slice AF (N1 + 1) cF) ∧ v8.cell? ⟨g11, 4, none⟩ = some (.slice AH M cH) ∧ v8.cell? ⟨g11, 5, none⟩ = some (.slice AR M cR) ∧ v8.cell? ⟨g11, 6, none⟩ = some (.slice AC M cC) ∧ v8.cell? ⟨g11, 7, none⟩ = some (.slice AA M cA) ∧ v8.cell? ⟨g11, 8, none⟩ = some (.slice AB M cB) ∧ v8.cell? ⟨g13, 0, none⟩ = some (.slice AXq M cXq) ∧ v8.cell? ⟨g13, 1, none⟩ = some (.slice AEq N1 cEq) ∧ v8.cell? ⟨g13, 2, none⟩ = some (.slice AHq N1 cHq) ∧ v8.cell? ⟨g14, 0, none⟩ = some (.slice AXr M cXr) ∧ v8.cell? ⟨g14, 1, none⟩ = some (.slice AEr N1 cEr) ∧ v8.cell? ⟨g14, 2, none⟩ = some (.slice AHr N1 cHr)) ∧ True := ⟨HK14.out _ HB8'.out, trivial⟩
                 have hzw := HB8'.out.size
                 have y13 : g13 < v8.heap.size := by omega
                 have y14 : g14 < v8.heap.size := by omega
                 have y11 : g11 < v8.heap.size := by omega
                 go_wp2_with fail
                 clear hv8 hg39
                 refine (HL2'.out _ HB8'.out).mono ?_
                 rintro e v9 ⟨⟨AX7, cX7, AE7, cE7, AH7, cH7⟩, rfl, x7⟩
                 try dsimp only [preW]
                 clear b0 b1 b2 b3 b4 b5 b6 b7 b8 c0 c1 c2 d0 d1 d2 HL2' hzw y13 y14 y11
                 obtain ⟨g41, hg41⟩ : ∃ g, v9.heap.size = g := ⟨_, rfl⟩
                 obtain ⟨v10, hv10⟩ : ∃ W, v9.alloc (.cells #[.slice AX7 LX.length cX7, .slice AE7 LE.length cE7, .slice AH7 LH.length cH7] 29) = W := ⟨_, rfl⟩
                 have bb2 : Below v9.heap.size v9 v10 := by rw [← hv10]; exact below_alloc _
                 have bst := below_step x7.bel bb2
                 have HB10' := Lib.hid (below_step HB8'.out bst)
                 have HG41 := Lib.hid (show Blk v10 g41 29 #[.slice AX7 LX.length cX7, .slice AE7 LE.length cE7, .slice AH7 LH.length cH7] by rw [← hv10]; exact Blk.new hg41)
                 have HS41 := Lib.hid ((x7.st rfl rfl rfl).on bb2)
                 have HV2 := Lib.hid (below_step HV2.out bst)
                 have HV4 := Lib.hid (below_step HV4.out bst)
                 have HV6 := Lib.hid (below_step HV6.out bst)
                 have HV8 := Lib.hid bst
                 clear bb2 x7 bst
                 have hss := fun W (hb : Below v10.heap.size v10 W) => samePre_is PX.length PE.length PH.length PX.length PE.length PH.length ⟨AX4, cX4, AE4, cE4, AH4, cH4⟩ ⟨AX5, cX5, AE5, cE5, AH5, cH5⟩ PX PE PH PX PE PH true W ((HS33.out.on HV4.out).on hb) ((HS36.out.on HV6.out).on hb) HPL.out.1 HPL.out.2.1 HPL.out.2.2 HPL.out.1 HPL.out.2.1 HPL.out.2.2 (by simp)
                 have hst := fun W (hb : Below v10.heap.size v10 W) => samePre_is LX.length LE.length LH.length LX.length LE.length LH.length ⟨AX6, cX6, AE6, cE6, AH6, cH6⟩ ⟨AX7, cX7, AE7, cE7, AH7, cH7⟩ LX LE LH LX LE LH true W ((HS39.out.on HV8.out).on hb) (HS41.out.on hb) HLL.out.1 HLL.out.2.1 HLL.out.2.2 HLL.out.1 HLL.out.2.1 HLL.out.2.2 (by simp)
                 have hsu := fun W (hb : Below v10.heap.size v10 W) => samePre_is M N1 N1 M N1 N1 ⟨AXq, cXq, AEq, cEq, AHq, cHq⟩ ⟨AX3, cX3, AE3, cE3, AH3, cH3⟩ X E H X E H true W (HSr.out.on (below_step HB10'.out hb)).sq ((HS32.out.on HV2.out).on hb) (by omega) (by omega) (by omega) (by omega) (by omega) (by omega) (by simp)
                 dsimp only [preW] at hss hst hsu
                 have HSS := Lib.hid hss; have HST' := Lib.hid hst; have HSU := Lib.hid hsu
                 clear hss hst hsu
                 have z33 := HG33.out.below HV4.out HG33.out.lt; have z36 := HG36.out.below HV6.out HG36.out.lt; have z39 := HG39.out.below HV8.out HG39.out.lt; have z32 := HG32.out.below HV2.out HG32.out.lt
                 have Z33 := Lib.hid z33; have Z36 := Lib.hid z36; have Z39 := Lib.hid z39; have Z32 := Lib.hid z32; have ZQ := Lib.hid (HSr.out.on HB10'.out)
                 clear z33 z36 z39 z32 HG33 HG36 HG39 HG32 HS33 HS36 HS39 HS41 HS32 HK14
                 have HBW := Lib.hid (below_step HB3.out (below_step HBr.out HB10'.out))
                 obtain ⟨⟨k0, k1, k2⟩, -, kz0⟩ := Z33.out.full3
                 obtain ⟨⟨k3, k4, k5⟩, -, kz1⟩ := Z36.out.full3
                 obtain ⟨⟨k6, k7, k8⟩, -, kz2⟩ := Z39.out.full3
                 obtain ⟨⟨k9, k10, k11⟩, -, kz3⟩ := Z32.out.full3
                 obtain ⟨⟨k12, k13, k14⟩, -, kz4⟩ := ZQ.out.q.full3
                 obtain ⟨⟨k15, k16, k17⟩, -, kz5⟩ := HG41.out.full3
                 go_wp2_with fail
                 refine (HSS.out _ (Below.refl _ _)).mono ?_
                 rintro e v11 ⟨rfl, q11⟩
                 have V11 := Lib.hid q11
                 clear k0 k1 k2 k3 k4 k5 k6 k7 k8 k9 k10 k11 k12 k13 k14 k15 k16 k17 kz0 kz1 kz2 kz3 kz4 kz5
                 obtain ⟨⟨k0, k1, k2⟩, -, kz0⟩ := (Z33.out.below V11.out Z33.out.lt).full3
                 obtain ⟨⟨k3, k4, k5⟩, -, kz1⟩ := (Z36.out.below V11.out Z36.out.lt).full3
                 obtain ⟨⟨k6, k7, k8⟩, -, kz2⟩ := (Z39.out.below V11.out Z39.out.lt).full3
                 obtain ⟨⟨k9, k10, k11⟩, -, kz3⟩ := (Z32.out.below V11.out Z32.out.lt).full3
                 obtain ⟨⟨k12, k13, k14⟩, -, kz4⟩ := (ZQ.out.on V11.out).q.full3
                 obtain ⟨⟨k15, k16, k17⟩, -, kz5⟩ := (HG41.out.below V11.out HG41.out.lt).full3
                 go_wp2_with fail
                 refine (HST'.out _ V11.out).mono ?_
                 rintro e v12 ⟨rfl, q12⟩
                 have V12 := Lib.hid (below_step V11.out q12)
                 clear k0 k1 k2 k3 k4 k5 k6 k7 k8 k9 k10 k11 k12 k13 k14 k15 k16 k17 kz0 kz1 kz2 kz3 kz4 kz5
                 obtain ⟨⟨k0, k1, k2⟩, -, kz0⟩ := (Z33.out.below V12.out Z33.out.lt).full3
                 obtain ⟨⟨k3, k4, k5⟩, -, kz1⟩ := (Z36.out.below V12.out Z36.out.lt).full3
                 obtain ⟨⟨k6, k7, k8⟩, -, kz2⟩ := (Z39.out.below V12.out Z39.out.lt).full3
                 obtain ⟨⟨k9, k10, k11⟩, -, kz3⟩ := (Z32.out.below V12.out Z32.out.lt).full3
                 obtain ⟨⟨k12, k13, k14⟩, -, kz4⟩ := (ZQ.out.on V12.out).q.full3
                 obtain ⟨⟨k15, k16, k17⟩, -, kz5⟩ := (HG41.out.below V12.out HG41.out.lt).full3
                 go_wp2_with fail
                 refine (HSU.out _ V12.out).mono ?_
                 rintro e v13 ⟨rfl, q13⟩
                 have V13 := Lib.hid (below_step V12.out q13)
                 clear k0 k1 k2 k3 k4 k5 k6 k7 k8 k9 k10 k11 k12 k13 k14 k15 k16 k17 kz0 kz1 kz2 kz3 kz4 kz5
                 go_wp2_with fail
                 refine (awake7_is _).mono ?_
                 rintro e v14 ⟨rfl, q14⟩
                 go_wp2_with fail
                 go_ret
                 exact ⟨rfl, below_step (below_step HBW.out V13.out) q14⟩

end Go.Proofs.Ytgjokddcaadjdaa
