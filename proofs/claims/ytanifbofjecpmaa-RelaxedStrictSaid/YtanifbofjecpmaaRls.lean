/- Layer 9: Right: which states are sound. -/
import Derived.Test.YtanifbofjecpmaaRlr
namespace Go.Proofs.Ytanifbofjecpmaa
open Go.RowKit Go.Shelf
set_option maxRecDepth 100000

theorem bool_of (p : Prop) : ∃ b : Bool, b = true ↔ p := by
  by_cases h : p
  · exact ⟨true, fun _ => h, fun _ => rfl⟩
  · exact ⟨false, fun e => (by cases e), fun k => absurd k h⟩
theorem and3 {r b1 b2 b3 : Bool} (h : r = true ↔ b1 = true ∧ b2 = true ∧ b3 = true) : (true && (b1 && (b2 && b3))) = r := by
  cases r <;> cases b1 <;> cases b2 <;> cases b3 <;> simp_all

theorem snd_iff {N M s t : Nat} {fst hd rv ai : Nat → Nat} {cp : Nat → Int} {bk : Nat → Bool} {X E H : List Int} (hG : PNet N M s t fst hd rv ai cp bk) (hE : E.length = N) (hH : H.length = N) :
    SndIs N M s t hd rv cp X E H ↔ Bal M rv cp X ∧ (∀ v, v < N → hOf E v = exT M hd rv cp X v ∧ (0 ≤ exT M hd rv cp X v ∨ v = s)) ∧ ∀ v, v < N → HOk N s t H v := by
  constructor
  · rintro ⟨a, -, -, b, c, d, e, f⟩
    refine ⟨a, fun v hv => ⟨b v hv, ?_⟩, fun v hv => ⟨f v hv, fun h => by rw [h]; exact d, fun h => by rw [h]; exact e⟩⟩
    by_cases h : v = s
    · exact .inr h
    · have := c v hv h
      rw [b v hv] at this
      exact .inl this
  · rintro ⟨a, b, c⟩
    exact ⟨a, hE, hH, fun v hv => (b v hv).1, fun v hv hs => by rw [(b v hv).1]; exact (b v hv).2.resolve_right hs, (c s hG.hs).2.1 rfl, (c t hG.ht).2.2 rfl, fun v hv => (c v hv).1⟩

set_option maxHeartbeats 4000000 in
theorem rright_is (N M s t nX nE nH : Nat) (K : CsrS) (Q : PreS) (fst hd rv ai : Nat → Nat) (cp : Nat → Int) (bk : Nat → Bool) (X E H : List Int) (r : Bool) (w : World) (hG : PNet N M s t fst hd rv ai cp bk) (hI : PIn w w.heap.size N M K fst hd rv ai cp bk)
    (hQ : StIn w w.heap.size nX nE nH Q X E H) (hXR : ∀ x ∈ X, InR x) (hr : r = true ↔ nX = M ∧ nE = N ∧ nH = N ∧ SndIs N M s t hd rv cp X E H) :
    Calls Try.prog 10 #[csrW N M s t K, preW nX nE nH Q] w fun e w' => e = .returned (.bool r) ∧ Below w.heap.size w w' := by
  obtain ⟨b0, hb0⟩ : ∃ b, decide (nX = M ∧ nE = N ∧ nH = N) = b := ⟨_, rfl⟩
  have hfit := fun W => rfit_is N M s t K nX nE nH Q W hG.nN b0 hb0
  have HF := Lib.hid hfit
  obtain ⟨b1, hb1⟩ := bool_of (Bal M rv cp X)
  obtain ⟨b2, hb2⟩ := bool_of (∀ v, v < N → hOf E v = exT M hd rv cp X v ∧ (0 ≤ exT M hd rv cp X v ∨ v = s))
  obtain ⟨b3, hb3⟩ := bool_of (∀ v, v < N → HOk N s t H v)
  have hrr : (b0 && (b1 && (b2 && b3))) = r := by
    cases b0 with
    | false =>
      have := of_decide_eq_false hb0
      cases r with
      | false => rfl
      | true => have h := hr.1 rfl; exact absurd ⟨h.1, h.2.1, h.2.2.1⟩ this
    | true =>
      obtain ⟨rfl, rfl, rfl⟩ := of_decide_eq_true hb0
      have e := snd_iff (X := X) hG hQ.iE.len hQ.iH.len
      rw [← hb1, ← hb2, ← hb3] at e
      have e2 : r = true ↔ b1 = true ∧ b2 = true ∧ b3 = true := by rw [hr, ← e]; simp
      exact and3 e2
  have HRR := Lib.hid hrr
  have h1 : b0 = true → ∀ W, Below w.heap.size w W → Calls Try.prog 32 #[csrW N M s t K, .slice Q.AX nX Q.cX] W fun e w' => e = .returned (.bool b1) ∧ Below W.heap.size W w' := fun h W hbl => by
    subst h
    obtain ⟨rfl, rfl, rfl⟩ := of_decide_eq_true hb0
    exact rres_is _ _ s t K fst hd rv ai cp bk Q.AX Q.cX X b1 W hG (hI.on hbl) (hQ.on hbl).iX hXR hb1
  have h2 : b0 = true → b1 = true → ∀ W, Below w.heap.size w W → Calls Try.prog 33 #[csrW N M s t K, preW nX nE nH Q] W fun e w' => e = .returned (.bool b2) ∧ Below W.heap.size W w' := fun h h' W hbl => by
    subst h
    obtain ⟨rfl, rfl, rfl⟩ := of_decide_eq_true hb0
    exact rexc_is _ _ s t _ K Q fst hd rv ai cp bk X E H b2 W hG (hI.on hbl) (hQ.on hbl) (hb1.1 h') hb2
  have h3 : b0 = true → ∀ W, Below w.heap.size w W → Calls Try.prog 34 #[csrW N M s t K, .slice Q.AH nH Q.cH] W fun e w' => e = .returned (.bool b3) ∧ Below W.heap.size W w' := fun h W hbl => by
    subst h
    obtain ⟨rfl, rfl, rfl⟩ := of_decide_eq_true hb0
    exact rhts_is _ _ s t K Q.AH Q.cH H b3 W hG.nN hG.hs hG.ht (hQ.on hbl).iH hb3
  have H1 := Lib.hid h1; have H2 := Lib.hid h2; have H3 := Lib.hid h3
  clear h1 h2 h3 hb0 hb1 hb2 hb3 hrr hr hfit hI hQ hG hXR
  obtain ⟨AF, cF, AH, cH, AR, cR, AC, cC, AA, cA, AB, cB⟩ := K
  obtain ⟨AX, cX, AE, cE, AHH, cHH⟩ := Q
  dsimp only [csrW, preW] at HF H1 H2 H3 ⊢
  go_enter Try.func10, Try.ntmps10
  go_wp2_with fail
  obtain ⟨w1, hw1⟩ : ∃ w1, ((w.alloc (.cells #[.int .i64 (N : Int), .int .i64 (s : Int), .int .i64 (t : Int), .slice AF (N + 1) cF, .slice AH M cH, .slice AR M cR, .slice AC M cC, .slice AA M cA, .slice AB M cB] 32)).alloc (.cells #[.slice AX nX cX, .slice AE nE cE, .slice AHH nH cHH] 29)) = w1 := ⟨_, rfl⟩
  have B1 : Below w.heap.size w w1 := by rw [← hw1]; exact ((Below.refl _ w).alloc (Nat.le_refl _) _).alloc (by simp) _
  have C1 : Blk w1 w.heap.size 32 #[.int .i64 (N : Int), .int .i64 (s : Int), .int .i64 (t : Int), .slice AF (N + 1) cF, .slice AH M cH, .slice AR M cR, .slice AC M cC, .slice AA M cA, .slice AB M cB] := by rw [← hw1]; exact (Blk.new rfl).alloc _
  have P1 : Blk w1 (w.heap.size + 1) 29 #[.slice AX nX cX, .slice AE nE cE, .slice AHH nH cHH] := by rw [← hw1]; exact Blk.new (by simp)
  rw [hw1]
  clear hw1
  refine (HF.out _).mono ?_
  rintro e w2 ⟨rfl, B2⟩
  have C2 := C1.below B2 C1.lt; have P2 := P1.below B2 P1.lt
  have Bw := below_step B1 B2
  clear C1 P1 B1 B2 HF
  cases b0 with
  | false =>
    have HR := Lib.hid (show false = r from HRR.out)
    clear H1 H2 H3 HRR C2 P2
    go_wp2_with fail
    go_ret
    exact ⟨ret_bool HR.out, Bw⟩
  | true =>
  obtain ⟨a0, a1, a2, a3, a4, a5, a6, a7, a8⟩ := C2.at9
  obtain ⟨⟨p0, p1, p2⟩, -, -⟩ := P2.full3
  have HC2 := Lib.hid C2; have HP2 := Lib.hid P2; have HBw := Lib.hid Bw
  clear C2 P2 Bw
  go_wp2_with fail
  refine (H1.out trivial _ HBw.out).mono ?_
  rintro e w3 ⟨rfl, B3⟩
  have C3 := HC2.out.below B3 HC2.out.lt; have P3 := HP2.out.below B3 HP2.out.lt
  have Bw := below_step HBw.out B3
  clear a0 a1 a2 a3 a4 a5 a6 a7 a8 p0 p1 p2 HC2 HP2 HBw B3 H1
  cases b1 with
  | false =>
    have HR := Lib.hid (show false = r from HRR.out)
    clear H2 H3 HRR C3 P3
    go_wp2_with fail
    go_ret
    exact ⟨ret_bool HR.out, Bw⟩
  | true =>
  obtain ⟨a0, a1, a2, a3, a4, a5, a6, a7, a8⟩ := C3.at9
  obtain ⟨⟨p0, p1, p2⟩, -, -⟩ := P3.full3
  have HC2 := Lib.hid C3; have HP2 := Lib.hid P3; have HBw := Lib.hid Bw
  clear C3 P3 Bw
  go_wp2_with fail
  refine (H2.out trivial trivial _ HBw.out).mono ?_
  rintro e w4 ⟨rfl, B3⟩
  have C3 := HC2.out.below B3 HC2.out.lt; have P3 := HP2.out.below B3 HP2.out.lt
  have Bw := below_step HBw.out B3
  clear a0 a1 a2 a3 a4 a5 a6 a7 a8 p0 p1 p2 HC2 HP2 HBw B3 H2
  cases b2 with
  | false =>
    have HR := Lib.hid (show false = r from HRR.out)
    clear H3 HRR C3 P3
    go_wp2_with fail
    go_ret
    exact ⟨ret_bool HR.out, Bw⟩
  | true =>
  obtain ⟨a0, a1, a2, a3, a4, a5, a6, a7, a8⟩ := C3.at9
  obtain ⟨⟨p0, p1, p2⟩, -, -⟩ := P3.full3
  have HC2 := Lib.hid C3; have HP2 := Lib.hid P3; have HBw := Lib.hid Bw
  clear C3 P3 Bw
  go_wp2_with fail
  refine (H3.out trivial _ HBw.out).mono ?_
  rintro e w5 ⟨rfl, B3⟩
  have Bw := below_step HBw.out B3
  clear a0 a1 a2 a3 a4 a5 a6 a7 a8 p0 p1 p2 HC2 HP2 HBw B3 H3
  have HR := Lib.hid (show b3 = r from HRR.out)
  clear HRR
  go_wp2_with fail
  go_ret
  exact ⟨ret_bool HR.out, Bw⟩
end Go.Proofs.Ytanifbofjecpmaa
