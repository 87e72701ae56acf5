/- Layer 6: the document's answers: Least, Sum. -/
import Derived.Test.YtnhfdmfciddmaaaLabs
namespace Go.Proofs.Ytnhfdmfciddmaaa
open Go.RowKit
set_option maxRecDepth 100000

/-! Plain facts. -/
/-- What is found from a up to z, backwards. -/
structure LowDn (a z : Nat) (hd : Nat → Nat) (X H : List Int) (ok : Bool) (b : Nat) : Prop where
  all : ∀ k, a ≤ k → k < z → opn X k = true → ok = true ∧ hOf H (hd b) ≤ hOf H (hd k)
  yes : ok = true → a ≤ b ∧ b < z ∧ opn X b = true ∧ ∀ k, a ≤ k → k < b → opn X k = true → hOf H (hd b) < hOf H (hd k)
section
variable {a b z : Nat} {hd : Nat → Nat} {X H : List Int} {ok : Bool}
theorem LowDn.start : LowDn z z hd X H false 0 := ⟨fun k h1 h2 => absurd h2 (by omega), fun h => by cases h⟩
theorem LowDn.skip (h : LowDn (a + 1) z hd X H ok b) (ho : opn X a = false) : LowDn a z hd X H ok b := by
  refine ⟨fun k h1 h2 h3 => ?_, fun hk => ?_⟩
  · by_cases e : k = a
    · subst e; rw [ho] at h3; cases h3
    · exact h.all k (by omega) h2 h3
  · obtain ⟨g1, g2, g3, g4⟩ := h.yes hk
    refine ⟨by omega, g2, g3, fun k h1 h2 h3 => ?_⟩
    by_cases e : k = a
    · subst e; rw [ho] at h3; cases h3
    · exact g4 k (by omega) h2 h3
theorem LowDn.first (h : LowDn (a + 1) z hd X H false b) (h0 : a < z) (ho : opn X a = true) : LowDn a z hd X H true a := by
  refine ⟨fun k h1 h2 h3 => ?_, fun _ => ⟨Nat.le_refl _, h0, ho, fun k h1 h2 h3 => absurd h2 (by omega)⟩⟩
  by_cases e : k = a
  · subst e; exact ⟨rfl, Int.le_refl _⟩
  · have := (h.all k (by omega) h2 h3).1
    cases this
theorem LowDn.take (h : LowDn (a + 1) z hd X H true b) (h0 : a < z) (ho : opn X a = true) (hl : hOf H (hd a) ≤ hOf H (hd b)) : LowDn a z hd X H true a := by
  refine ⟨fun k h1 h2 h3 => ?_, fun _ => ⟨Nat.le_refl _, h0, ho, fun k h1 h2 h3 => absurd h2 (by omega)⟩⟩
  by_cases e : k = a
  · subst e; exact ⟨rfl, Int.le_refl _⟩
  · have := (h.all k (by omega) h2 h3).2
    exact ⟨rfl, by omega⟩
theorem LowDn.keep (h : LowDn (a + 1) z hd X H true b) (hl : ¬ hOf H (hd a) ≤ hOf H (hd b)) : LowDn a z hd X H true b := by
  refine ⟨fun k h1 h2 h3 => ?_, fun hk => ?_⟩
  · by_cases e : k = a
    · subst e; exact ⟨rfl, by omega⟩
    · exact h.all k (by omega) h2 h3
  · obtain ⟨g1, g2, g3, g4⟩ := h.yes hk
    refine ⟨by omega, g2, g3, fun k h1 h2 h3 => ?_⟩
    by_cases e : k = a
    · subst e; omega
    · exact g4 k (by omega) h2 h3
theorem LowDn.low {fst : Nat → Nat} {u : Nat} (h : LowDn (fst u) (fst (u + 1)) hd X H true b) : LowIs fst hd X H u b := by
  obtain ⟨g1, g2, g3, g4⟩ := h.yes rfl
  exact ⟨g1, g2, g3, fun k h1 h2 h3 => (h.all k h1 h2 h3).2, g4⟩
theorem LowDn.none {fst : Nat → Nat} {u : Nat} (h : LowDn (fst u) (fst (u + 1)) hd X H false b) : ¬ ∃ k, fst u ≤ k ∧ k < fst (u + 1) ∧ opn X k = true := by
  rintro ⟨k, h1, h2, h3⟩
  have := (h.all k h1 h2 h3).1
  cases this
end

set_option maxHeartbeats 8000000 in
theorem rleast_is (N M s t : Nat) (K : CsrS) (fst hd rv : Nat → Nat) (AX : Option Addr) (nX cX : Nat) (X : List Int) (A : Option Addr) (n c : Nat) (H : List Int) (u : Int) (w : World) (hG : Grid N M fst hd rv) (hI : GridIn w w.heap.size N M K fst hd rv) (hX : Ints w w.heap.size AX nX X) (hA : Ints w w.heap.size A n H)
    (hs : s < N) (ht : t < N) (hN : N ≤ 4096) (hM : M ≤ 100000000) :
    Calls Try.prog 12 #[csrW N M s t K, .slice AX nX cX, .slice A n c, .int .i64 u] w (RetLow (LowAns N M s t nX fst hd X H u) w) := by
  have HI := Lib.hid hI; have HX := Lib.hid hX; have HA := Lib.hid hA; have HG := Lib.hid hG
  obtain ⟨r, hr⟩ : ∃ r, rightB N s t H = r := ⟨_, rfl⟩
  have HR := Lib.hid hr
  have hright := fun W h1 => rright_is N M s t K A n c H W h1 hs ht hN
  rw [hr] at hright
  have HRIGHT := Lib.hid hright
  obtain ⟨bF, oF, hF⟩ := hI.iF.adr (by omega)
  obtain ⟨AF, cF, AH, cH, AR, cR, AC, cC, AA, cA, AB, cB⟩ := K
  dsimp only [csrW] at HRIGHT hF ⊢
  subst hF
  have Kc : Blk (w.alloc (.cells #[.int .i64 (N : Int), .int .i64 (s : Int), .int .i64 (t : Int), .slice (some ⟨bF, oF, none⟩) (N + 1) cF, .slice AH M cH, .slice AR M cR, .slice AC M cC, .slice AA M cA, .slice AB M cB] 29)) w.heap.size 29 #[.int .i64 (N : Int), .int .i64 (s : Int), .int .i64 (t : Int), .slice (some ⟨bF, oF, none⟩) (N + 1) cF, .slice AH M cH, .slice AR M cR, .slice AC M cC, .slice AA M cA, .slice AB M cB] := Blk.new rfl
  have HKc := Lib.hid Kc
  have HB0 := Lib.hid (below_alloc (w := w) (.cells #[.int .i64 (N : Int), .int .i64 (s : Int), .int .i64 (t : Int), .slice (some ⟨bF, oF, none⟩) (N + 1) cF, .slice AH M cH, .slice AR M cR, .slice AC M cC, .slice AA M cA, .slice AB M cB] 29))
  clear Kc hI hX hA hG hr hright
  by_cases hne : nX = M
  · subst hne
    go_enter Try.func12, Try.ntmps12
    go_wp2_with fail
    refine (HRIGHT.out _ (HA.out.onAlloc _)).mono ?_
    rintro e w1 ⟨rfl, B1⟩
    have K1 := HKc.out.below B1 HKc.out.lt
    have I1 := (HI.out.onAlloc _).on B1
    have A1 := (HA.out.onAlloc _).on B1
    have X1 := (HX.out.onAlloc _).on B1
    have HB := Lib.hid (below_step HB0.out B1)
    clear B1
    cases r with
    | false =>
      have HNO := Lib.hid (show LowAns N nX s t nX fst hd X H u 0 0 false from .inr ⟨rfl, rfl, rfl, fun h => by
        have h1 := HR.out
        rw [rightB_yes.2 h.2.1] at h1
        cases h1⟩)
      clear K1 I1 A1 X1
      go_wp2_with fail
      go_ret3
      exact ⟨0, 0, false, rfl, HNO.out, HB.out⟩
    | true =>
      have HH := Lib.hid (rightB_yes.1 HR.out)
      have hln : N = n := HH.out.len.symm.trans A1.len
      subst hln
      obtain ⟨a0, a1, a2, a3, a4, a5, a6, a7, a8⟩ := K1.at9
      have hz1 := K1.lt
      have HK1 := Lib.hid K1; have HI1 := Lib.hid I1; have HA1 := Lib.hid A1; have HX1 := Lib.hid X1
      clear K1 I1 A1 X1
      by_cases hu0 : u < 0
      · have HNO := Lib.hid (show LowAns N nX s t nX fst hd X H u 0 0 false from .inr ⟨rfl, rfl, rfl, fun h => by
          obtain ⟨-, -, v, b, rfl, h1, -⟩ := h
          omega⟩)
        go_wp2_with fail
        go_ret3
        exact ⟨0, 0, false, rfl, HNO.out, HB.out⟩
      · have hu0d : decide (u < 0) = false := decide_eq_false hu0
        by_cases hu1 : (N : Int) ≤ u
        · have HNO := Lib.hid (show LowAns N nX s t nX fst hd X H u 0 0 false from .inr ⟨rfl, rfl, rfl, fun h => by
            obtain ⟨-, -, v, b, rfl, h1, -⟩ := h
            omega⟩)
          go_wp2_with fail
          go_ret3
          exact ⟨0, 0, false, rfl, HNO.out, HB.out⟩
        · have hu1d : decide ((N : Int) ≤ u) = false := decide_eq_false hu1
          obtain ⟨v, rfl⟩ : ∃ v : Nat, u = v := ⟨u.toNat, by omega⟩
          have hvN : v < N := by omega
          obtain ⟨hbF, cf⟩ := tab_cell HI1.out.iF (k := v + 1) (by omega)
          have hf1 := HG.out.mono v hvN
          have hf2 := HG.out.fle (v := v + 1) (by omega)
          obtain ⟨fa, hfa⟩ : ∃ fa, fst v = fa := ⟨_, rfl⟩
          obtain ⟨z, hz⟩ : ∃ z, fst (v + 1) = z := ⟨_, rfl⟩
          rw [hfa] at hf1
          rw [hz] at cf hf1 hf2
          have HFA := Lib.hid hfa; have HZ := Lib.hid hz
          clear hfa hz
          have hvb : v ≤ 4096 := by omega
          have hwz : IntKind.i64.wrap ((z : Int) - 1) = (z : Int) - 1 := wrap_any (by omega) (by omega)
          have hvd : decide ((N : Int) ≤ (v : Int)) = false := decide_eq_false (by omega)
          have hvd2 : decide (N ≤ v) = false := decide_eq_false (by omega)
          go_wp2_with fail
          clear a0 a1 a2 a3 a4 a5 a6 a7 a8 hz1 cf hbF hwz hvd hvd2
          go_loopw [11, 12, 13, 14] (fun sb sl sa _ wr => ∃ (a b : Nat) (ok : Bool) (x low : Int), fa ≤ a ∧ a ≤ z ∧ sa = .int .i64 x ∧ x = (a : Int) - 1 ∧ sb = .int .i64 b ∧ sl = .int .i64 low ∧ (low = if ok then hOf H (hd b) else -1) ∧ LowDn a z hd X H ok b ∧ (ok = false → b = 0) ∧ Below w1.heap.size w1 wr) (fun _ _ sa _ _ => (intOf sa + 1).toNat)
          case atStart => exact ⟨z, 0, false, _, _, hf1, Nat.le_refl _, rfl, rfl, rfl, rfl, rfl, LowDn.start, fun _ => rfl, Below.refl _ _⟩
          case round =>
            obtain ⟨a, b, ok, ax, low, ha0, ha1, rfl, hax, rfl, rfl, hlw, hlow, hok, Bw⟩ := hrel
            have HLOW := Lib.hid hlow; have HBW := Lib.hid Bw; have HLW := Lib.hid hlw; have HOK := Lib.hid hok
            have K2 := HK1.out.below Bw HK1.out.lt
            have I2 := HI1.out.on Bw
            have X2 := HX1.out.on Bw
            have A2 := HA1.out.on Bw
            obtain ⟨a0, a1, a2, a3, a4, a5, a6, a7, a8⟩ := K2.at9
            have hz2 := K2.lt
            obtain ⟨hbF, cz⟩ := tab_cell I2.iF (k := v) (by omega)
            rw [HFA.out] at cz
            clear hlow hlw hok Bw K2
            by_cases hlt : fa < a
            · obtain ⟨a, rfl⟩ : ∃ a', a = a' + 1 := ⟨a - 1, by omega⟩
              obtain rfl : ax = (a : Int) := by omega
              clear hax
              have haM : a < nX := by omega
              have hfd : fa ≤ a := by omega
              obtain ⟨bX, oX, x, hAX, hbX, hx, cx⟩ := intl_at X2 haM
              subst hAX
              have HOP := Lib.hid (opn_at hx)
              obtain ⟨bH, oH, hHa⟩ := I2.iH.adr (by omega)
              dsimp only at hHa
              subst hHa
              obtain ⟨hbH, ch⟩ := tab_cell I2.iH haM
              have hd1 := HG.out.hdl a haM
              obtain ⟨bA, oA, hAa⟩ := A2.adr (by omega)
              subst hAa
              obtain ⟨hbA, ca⟩ := A2.cel (hOf_get HH.out.len hd1)
              have hb1 := HH.out.bnd _ hd1
              obtain ⟨y, hy⟩ : ∃ y, hOf H (hd a) = y := ⟨_, rfl⟩
              obtain ⟨p, hp⟩ : ∃ p, hd a = p := ⟨_, rfl⟩
              rw [hy] at ca hb1
              have HY := Lib.hid hy
              rw [hp] at ch ca hd1
              have hwa : IntKind.i64.wrap ((a : Int) - 1) = (a : Int) - 1 := wrap_any (by omega) (by omega)
              clear hx hy hp I2 X2 A2
              by_cases h0 : 0 < x
              · have HO := Lib.hid (show opn X a = true by rw [HOP.out]; simp [h0])
                cases ok with
                | false =>
                  have hlo : low = -1 := HLW.out
                  subst hlo
                  go_wp2_with fail
                  go_roundw
                  case rel => exact ⟨a, a, true, _, _, by omega, by omega, by go_num, rfl, rfl, rfl, HY.out.symm, HLOW.out.first (by omega) HO.out, fun h => (by cases h), HBW.out⟩
                  case measure => simp [intOf]
                | true =>
                  have hbb := HLOW.out.yes rfl
                  have hlo : low = hOf H (hd b) := HLW.out
                  have hl0 := HH.out.bnd _ (HG.out.hdl b (by omega))
                  have hl1 : ¬ low < 0 := by omega
                  have hl2 : decide (low < 0) = false := decide_eq_false hl1
                  have HLO := Lib.hid hlo
                  clear hlo hl0 hbb
                  by_cases hl : y ≤ low
                  · go_wp2_with fail
                    go_roundw
                    case rel => exact ⟨a, a, true, _, _, by omega, by omega, by go_num, rfl, rfl, rfl, HY.out.symm, HLOW.out.take (by omega) HO.out (by rw [HY.out, ← HLO.out]; exact hl), fun h => (by cases h), HBW.out⟩
                    case measure => simp [intOf]
                  · have hld : decide (y ≤ low) = false := decide_eq_false hl
                    go_wp2_with fail
                    go_roundw
                    case rel => exact ⟨a, b, true, _, low, by omega, by omega, by go_num, rfl, rfl, rfl, HLO.out, HLOW.out.keep (by rw [HY.out, ← HLO.out]; omega), fun h => (by cases h), HBW.out⟩
                    case measure => simp [intOf]
              · have h0d : decide (0 < x) = false := decide_eq_false h0
                have HO := Lib.hid (show opn X a = false by rw [HOP.out]; exact h0d)
                go_wp2_with fail
                go_roundw
                case rel => exact ⟨a, b, ok, _, low, by omega, by omega, by go_num, rfl, rfl, rfl, HLW.out, HLOW.out.skip HO.out, HOK.out, HBW.out⟩
                case measure => simp [intOf]
            · obtain rfl : a = fa := by omega
              have hx1 : ¬ (a : Int) ≤ ax := by omega
              have hx2 : decide ((a : Int) ≤ ax) = false := decide_eq_false hx1
              clear hax I2 A2 X2
              cases ok with
              | false =>
                have hlo : low = -1 := HLW.out
                subst hlo
                have HNO := Lib.hid (show LowAns N nX s t nX fst hd X H v 0 0 false from .inr ⟨rfl, rfl, rfl, fun h => by
                  obtain ⟨-, -, v', b', hv, -, h1, h2, h3⟩ := h
                  have : v = v' := by omega
                  subst this
                  have hl := HLOW.out
                  rw [← HFA.out, ← HZ.out] at hl
                  exact hl.none ⟨b', h1, h2, h3⟩⟩)
                go_wp2_with fail
                go_ret3
                exact ⟨0, 0, false, rfl, HNO.out, below_step HB.out HBW.out⟩
              | true =>
                have hbb := HLOW.out.yes rfl
                have hlo : low = hOf H (hd b) := HLW.out
                have hl0 := HH.out.bnd _ (HG.out.hdl b (by omega))
                have hl1 : ¬ low < 0 := by omega
                have hl2 : decide (low < 0) = false := decide_eq_false hl1
                have HYES := Lib.hid (show LowAns N nX s t nX fst hd X H v b low true from .inl ⟨rfl, rfl, HH.out, v, b, rfl, hvN, rfl, by
                  have hl := HLOW.out
                  rw [← HFA.out, ← HZ.out] at hl
                  exact hl.low, hlo⟩)
                clear hlo hl0 hbb
                go_wp2_with fail
                go_ret3
                exact ⟨b, low, true, rfl, HYES.out, below_step HB.out HBW.out⟩
  · have hne' : ¬ (nX : Int) = (M : Int) := by omega
    have hne2 : ((nX : Int) == (M : Int)) = false := beq_false_of_ne hne'
    have HNO := Lib.hid (show LowAns N M s t nX fst hd X H u 0 0 false from .inr ⟨rfl, rfl, rfl, fun h => hne h.1⟩)
    obtain ⟨a0, a1, a2, a3, a4, a5, a6, a7, a8⟩ := HKc.out.at9
    go_enter Try.func12, Try.ntmps12
    go_wp2_with fail
    go_ret3
    exact ⟨0, 0, false, rfl, HNO.out, HB0.out⟩

set_option maxHeartbeats 4000000 in
theorem rsum_is (N M s t : Nat) (K : CsrS) (A : Option Addr) (n c : Nat) (H : List Int) (w : World) (hA : Ints w w.heap.size A n H) (hs : s < N) (ht : t < N) (hN : N ≤ 4096) :
    Calls Try.prog 23 #[csrW N M s t K, .slice A n c] w fun e w' => e = .returned (.int .i64 (htSum N s t H)) ∧ Below w.heap.size w w' := by
  have HA := Lib.hid hA
  have hright := fun W h1 => rright_is N M s t K A n c H W h1 hs ht hN
  obtain ⟨r, hr⟩ : ∃ r, rightB N s t H = r := ⟨_, rfl⟩
  have HR := Lib.hid hr
  rw [hr] at hright
  have HRIGHT := Lib.hid hright
  obtain ⟨AF, cF, AH, cH, AR, cR, AC, cC, AA, cA, AB, cB⟩ := K
  dsimp only [csrW] at HRIGHT ⊢
  obtain ⟨y, hy⟩ : ∃ y, htSum N s t H = y := ⟨_, rfl⟩
  rw [hy]
  have HY := Lib.hid hy
  have Kc : Blk (w.alloc (.cells #[.int .i64 (N : Int), .int .i64 (s : Int), .int .i64 (t : Int), .slice AF (N + 1) cF, .slice AH M cH, .slice AR M cR, .slice AC M cC, .slice AA M cA, .slice AB M cB] 29)) w.heap.size 29 #[.int .i64 (N : Int), .int .i64 (s : Int), .int .i64 (t : Int), .slice AF (N + 1) cF, .slice AH M cH, .slice AR M cR, .slice AC M cC, .slice AA M cA, .slice AB M cB] := Blk.new rfl
  have HKc := Lib.hid Kc
  obtain ⟨w1, hw1⟩ : ∃ w1, (w.alloc (.cells #[.int .i64 (N : Int), .int .i64 (s : Int), .int .i64 (t : Int), .slice AF (N + 1) cF, .slice AH M cH, .slice AR M cR, .slice AC M cC, .slice AA M cA, .slice AB M cB] 29)) = w1 := ⟨_, rfl⟩
  have HB0 := Lib.hid (below_alloc (w := w) (.cells #[.int .i64 (N : Int), .int .i64 (s : Int), .int .i64 (t : Int), .slice AF (N + 1) cF, .slice AH M cH, .slice AR M cR, .slice AC M cC, .slice AA M cA, .slice AB M cB] 29))
  have HA1 := Lib.hid (HA.out.onAlloc (.cells #[.int .i64 (N : Int), .int .i64 (s : Int), .int .i64 (t : Int), .slice AF (N + 1) cF, .slice AH M cH, .slice AR M cR, .slice AC M cC, .slice AA M cA, .slice AB M cB] 29))
  rw [hw1] at HKc HB0 HA1
  have HW1 := Lib.hid hw1
  clear hA hr hright hy Kc hw1
  go_enter Try.func23, Try.ntmps23
  go_wp2_with fail
  rw [HW1.out]
  have hnH : H.length = n := HA.out.len
  go_loopw [5, 6] (fun q i wr => ∃ k : Nat, k ≤ n ∧ i = .int .i64 k ∧ q = .int .i64 (sumH H k) ∧ (k = 0 ∨ r = true) ∧ Below w1.heap.size w1 wr) (fun _ i _ => n - (intOf i).toNat)
  case atStart => exact ⟨0, Nat.zero_le _, rfl, rfl, .inl rfl, Below.refl _ _⟩
  case round =>
    obtain ⟨k, hk, rfl, rfl, hkr, Bw⟩ := hrel
    have HKR := Lib.hid hkr; have HBW := Lib.hid Bw
    have K2 := HKc.out.below Bw HKc.out.lt
    obtain ⟨a0, a1, a2, a3, a4, a5, a6, a7, a8⟩ := K2.at9
    have hz2 := K2.lt
    have HA2 := Lib.hid (HA1.out.on Bw)
    clear hkr Bw K2
    by_cases hlt : k < n
    · have hkl : (k : Int) < (n : Int) := by omega
      go_wp2_with fail
      refine (HRIGHT.out _ HA2.out).mono ?_
      rintro e w2 ⟨rfl, B2⟩
      have HA3 := Lib.hid (HA2.out.on B2)
      have HBX := Lib.hid (HBW.out.trans (B2.mono HBW.out.size))
      clear B2 a0 a1 a2 a3 a4 a5 a6 a7 a8 hz2
      cases r with
      | false =>
        have hk0 : k = 0 := by
          rcases HKR.out with h | h
          · exact h
          · cases h
        subst hk0
        have HN := Lib.hid (show (0 : Int) = y by rw [← HY.out]; unfold htSum; rw [HR.out]; rfl)
        go_wp2_with fail
        go_ret
        refine ⟨?_, below_step HB0.out HBX.out⟩
        rw [← HN.out]
        rfl
      | true =>
        have HH := Lib.hid (rightB_yes.1 HR.out)
        have hln : N = n := HH.out.len.symm.trans hnH
        subst hln
        obtain ⟨b, off, hAe⟩ := HA3.out.adr (by omega)
        subst hAe
        obtain ⟨hb, cx⟩ := HA3.out.cel (hOf_get HH.out.len hlt)
        have hb1 := sumH_bound HH.out hN k hk
        have hb2 := sumH_bound HH.out hN (k + 1) hlt
        have HS := Lib.hid (show sumH H k + hOf H k = sumH H (k + 1) from rfl)
        have hw : IntKind.i64.wrap (sumH H k + hOf H k) = sumH H k + hOf H k := wrap_any (by have := HS.out; omega) (by have := HS.out; omega)
        generalize hOf H k = x at *
        generalize sumH H k = y1 at *
        go_wp2_with fail
        go_roundw
        case rel => exact ⟨k + 1, by omega, by go_num, by rw [← HS.out], .inr trivial, HBX.out⟩
        case measure => simp [intOf]; omega
    · obtain rfl : k = n := by omega
      have HN := Lib.hid (show sumH H k = y by
        rw [← HY.out]; unfold htSum
        cases r with
        | true =>
          rw [HR.out, if_pos rfl]
          have := (rightB_yes.1 HR.out).len
          rw [← this, hnH]
        | false =>
          rw [HR.out]
          rcases HKR.out with h | h
          · subst h; rfl
          · cases h)
      have hkd : decide (k < k) = false := decide_eq_false (by omega)
      rw [HN.out]
      go_wp2_with fail
      go_ret
      exact ⟨rfl, below_step HB0.out HBW.out⟩

end Go.Proofs.Ytnhfdmfciddmaaa
