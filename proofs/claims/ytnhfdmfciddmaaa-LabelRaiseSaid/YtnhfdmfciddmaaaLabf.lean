/- Layer 6: heights: Least, Sum. -/
import Derived.Test.YtnhfdmfciddmaaaLabe
namespace Go.Proofs.Ytnhfdmfciddmaaa
open Go.RowKit
set_option maxRecDepth 100000

/-! Plain facts. -/
/-- What is found from f0 up to a. -/
structure LowTo (f0 a : Nat) (hd : Nat → Nat) (X H : List Int) (ok : Bool) (b : Nat) : Prop where
  all : ∀ k, f0 ≤ k → k < a → opn X k = true → ok = true ∧ hOf H (hd b) ≤ hOf H (hd k)
  yes : ok = true → f0 ≤ b ∧ b < a ∧ opn X b = true ∧ ∀ k, f0 ≤ k → k < b → opn X k = true → hOf H (hd b) < hOf H (hd k)
section
variable {f0 a b z : Nat} {hd : Nat → Nat} {X H : List Int} {ok : Bool}
theorem LowTo.start : LowTo f0 f0 hd X H false 0 := ⟨fun k h1 h2 => absurd h2 (by omega), fun h => by cases h⟩
theorem LowTo.skip (h : LowTo f0 a hd X H ok b) (ho : opn X a = false) : LowTo f0 (a + 1) hd X H ok b := by
  refine ⟨fun k h1 h2 h3 => ?_, fun hk => ?_⟩
  · by_cases e : k = a
    · subst e; rw [ho] at h3; cases h3
    · exact h.all k h1 (by omega) h3
  · obtain ⟨g1, g2, g3, g4⟩ := h.yes hk
    exact ⟨g1, by omega, g3, g4⟩
theorem LowTo.first (h : LowTo f0 a hd X H false b) (h0 : f0 ≤ a) (ho : opn X a = true) : LowTo f0 (a + 1) hd X H true a := by
  refine ⟨fun k h1 h2 h3 => ?_, fun _ => ⟨h0, by omega, ho, fun k h1 h2 h3 => ?_⟩⟩
  · by_cases e : k = a
    · subst e; exact ⟨rfl, Int.le_refl _⟩
    · have := (h.all k h1 (by omega) h3).1
      cases this
  · have := (h.all k h1 h2 h3).1
    cases this
theorem LowTo.less (h : LowTo f0 a hd X H true b) (h0 : f0 ≤ a) (ho : opn X a = true) (hl : hOf H (hd a) < hOf H (hd b)) : LowTo f0 (a + 1) hd X H true a := by
  refine ⟨fun k h1 h2 h3 => ?_, fun _ => ⟨h0, by omega, ho, fun k h1 h2 h3 => ?_⟩⟩
  · by_cases e : k = a
    · subst e; exact ⟨rfl, Int.le_refl _⟩
    · have := (h.all k h1 (by omega) h3).2
      exact ⟨rfl, by omega⟩
  · have := (h.all k h1 h2 h3).2
    omega
theorem LowTo.keep (h : LowTo f0 a hd X H true b) (hl : ¬ hOf H (hd a) < hOf H (hd b)) : LowTo f0 (a + 1) hd X H true b := by
  refine ⟨fun k h1 h2 h3 => ?_, fun hk => ?_⟩
  · by_cases e : k = a
    · subst e; exact ⟨rfl, by omega⟩
    · exact h.all k h1 (by omega) h3
  · obtain ⟨g1, g2, g3, g4⟩ := h.yes hk
    exact ⟨g1, by omega, g3, g4⟩
theorem LowTo.low {fst : Nat → Nat} {u : Nat} (h : LowTo (fst u) (fst (u + 1)) hd X H true b) : LowIs fst hd X H u b := by
  obtain ⟨g1, g2, g3, g4⟩ := h.yes rfl
  exact ⟨g1, g2, g3, fun k h1 h2 h3 => (h.all k h1 h2 h3).2, g4⟩
theorem LowTo.none {fst : Nat → Nat} {u : Nat} (h : LowTo (fst u) (fst (u + 1)) hd X H false b) : ¬ ∃ k, fst u ≤ k ∧ k < fst (u + 1) ∧ opn X k = true := by
  rintro ⟨k, h1, h2, h3⟩
  have := (h.all k h1 h2 h3).1
  cases this
end
/-- The sum of the first ones. -/
def sumH (H : List Int) : Nat → Int
  | 0 => 0
  | k + 1 => sumH H k + hOf H k
theorem sumH_bound {N s t : Nat} {H : List Int} (h : HtIs N s t H) (hN : N ≤ 4096) : ∀ k, k ≤ N → 0 ≤ sumH H k ∧ sumH H k ≤ (k : Int) * 4096
  | 0, _ => ⟨Int.le_refl _, by simp [sumH]⟩
  | k + 1, hk => by
    have h1 := sumH_bound h hN k (by omega)
    have h2 := h.bnd k (by omega)
    simp only [sumH]
    omega
noncomputable def htSum (N s t : Nat) (H : List Int) : Int := if rightB N s t H = true then sumH H N else 0

/-! The program. -/
def RetLow (P : Int → Int → Bool → Prop) (w : World) (e : Ending) (w' : World) : Prop := ∃ (a x : Int) (ok : Bool), e = .returned (.tuple #[.int .i64 a, .int .i64 x, .bool ok]) ∧ P a x ok ∧ Below w.heap.size w w'

set_option maxHeartbeats 8000000 in
theorem lleast_is (N M s t : Nat) (K : CsrS) (fst hd rv : Nat → Nat) (AX : Option Addr) (nX cX : Nat) (X : List Int) (A : Option Addr) (n c : Nat) (H : List Int) (u : Int) (w : World) (hG : Grid N M fst hd rv) (hI : GridIn w w.heap.size N M K fst hd rv) (hX : Ints w w.heap.size AX nX X) (hA : Ints w w.heap.size A n H)
    (hs : s < N) (ht : t < N) (hN : N ≤ 4096) (hM : M ≤ 100000000) :
    Calls Try.prog 11 #[csrW N M s t K, .slice AX nX cX, .slice A n c, .int .i64 u] w (RetLow (LowAns N M s t nX fst hd X H u) w) := by
  have HI := Lib.hid hI; have HX := Lib.hid hX; have HA := Lib.hid hA; have HG := Lib.hid hG
  obtain ⟨r, hr⟩ : ∃ r, (decide (nX = M) && rightB N s t H) = r := ⟨_, rfl⟩
  have HR := Lib.hid hr
  have hfit := fun W h1 h2 => lfit_is N M s t K fst hd rv AX nX cX A n c H W HG.out h1 h2 hs ht hN hM
  rw [hr] at hfit
  have HFIT := Lib.hid hfit
  obtain ⟨bF, oF, hF⟩ := hI.iF.adr (by omega)
  obtain ⟨AF, cF, AH, cH, AR, cR, AC, cC, AA, cA, AB, cB⟩ := K
  dsimp only [csrW] at HFIT hF ⊢
  subst hF
  have Kc : Blk (w.alloc (.cells #[.int .i64 (N : Int), .int .i64 (s : Int), .int .i64 (t : Int), .slice (some ⟨bF, oF, none⟩) (N + 1) cF, .slice AH M cH, .slice AR M cR, .slice AC M cC, .slice AA M cA, .slice AB M cB] 29)) w.heap.size 29 #[.int .i64 (N : Int), .int .i64 (s : Int), .int .i64 (t : Int), .slice (some ⟨bF, oF, none⟩) (N + 1) cF, .slice AH M cH, .slice AR M cR, .slice AC M cC, .slice AA M cA, .slice AB M cB] := Blk.new rfl
  have HKc := Lib.hid Kc
  clear Kc hI hX hA hG hr hfit
  go_enter Try.func11, Try.ntmps11
  go_wp2_with fail
  refine (HFIT.out _ (HI.out.onAlloc _) (HA.out.onAlloc _)).mono ?_
  rintro e w1 ⟨rfl, B1⟩
  have K1 := HKc.out.below B1 HKc.out.lt
  have I1 := (HI.out.onAlloc _).on B1
  have A1 := (HA.out.onAlloc _).on B1
  have X1 := (HX.out.onAlloc _).on B1
  have HB := Lib.hid (below_step (below_alloc _) B1)
  clear B1
  cases r with
  | false =>
    have HNO := Lib.hid (show LowAns N M s t nX fst hd X H u 0 0 false from .inr ⟨rfl, rfl, rfl, fun h => by
      have h1 := HR.out
      rw [decide_eq_true h.1, rightB_yes.2 h.2.1] at h1
      cases h1⟩)
    clear K1 I1 A1 X1
    go_wp2_with fail
    go_ret3
    exact ⟨0, 0, false, rfl, HNO.out, HB.out⟩
  | true =>
    have hb : nX = M ∧ rightB N s t H = true := by have := HR.out; simpa using this
    obtain ⟨hnM, hrb⟩ := hb
    subst hnM
    have HH := Lib.hid (rightB_yes.1 hrb)
    have hln : N = n := HH.out.len.symm.trans A1.len
    subst hln
    obtain ⟨a0, a1, a2, a3, a4, a5, a6, a7, a8⟩ := K1.at9
    have hz1 := K1.lt
    have HK1 := Lib.hid K1; have HI1 := Lib.hid I1; have HA1 := Lib.hid A1; have HX1 := Lib.hid X1
    clear K1 I1 A1 X1 hrb
    by_cases hu : 0 ≤ u ∧ u < (N : Int)
    · obtain ⟨v, rfl⟩ : ∃ v : Nat, u = v := ⟨u.toNat, by omega⟩
      have hvN : v < N := by omega
      have HU := Lib.hid hu
      obtain ⟨hbF, cf⟩ := tab_cell HI1.out.iF (k := v) (by omega)
      have hf1 := HG.out.mono v hvN
      have hf2 := HG.out.fle (v := v + 1) (by omega)
      obtain ⟨fa, hfa⟩ : ∃ fa, fst v = fa := ⟨_, rfl⟩
      obtain ⟨z, hz⟩ : ∃ z, fst (v + 1) = z := ⟨_, rfl⟩
      rw [hfa] at cf hf1
      rw [hz] at hf1 hf2
      have HFA := Lib.hid hfa; have HZ := Lib.hid hz
      clear hfa hz hu
      have hvb : v ≤ 4096 := by omega
      go_wp2_with (go_at_call 32; refine (lindex_yes HU.out _).mono ?_; rintro e w' ⟨rfl, hw⟩; obtain rfl : _ = w' := hw.symm)
      clear a0 a1 a2 a3 a4 a5 a6 a7 a8 hz1 cf hbF
      go_loopw [11, 12, 13] (fun sb so sa wr => ∃ (a b : Nat) (ok : Bool), fa ≤ a ∧ a ≤ z ∧ sa = .int .i64 a ∧ sb = .int .i64 b ∧ so = .bool ok ∧ LowTo fa a hd X H ok b ∧ Below w1.heap.size w1 wr) (fun _ _ sa _ => z - (intOf sa).toNat)
      case atStart => exact ⟨fa, 0, false, Nat.le_refl _, hf1, rfl, rfl, rfl, LowTo.start, Below.refl _ _⟩
      case round =>
        obtain ⟨a, b, ok, ha0, ha1, rfl, rfl, rfl, hlow, Bw⟩ := hrel
        have HLOW := Lib.hid hlow; have HBW := Lib.hid Bw
        have K2 := HK1.out.below Bw HK1.out.lt
        have I2 := HI1.out.on Bw
        have X2 := HX1.out.on Bw
        have A2 := HA1.out.on Bw
        obtain ⟨a0, a1, a2, a3, a4, a5, a6, a7, a8⟩ := K2.at9
        have hz2 := K2.lt
        obtain ⟨hbF, cz⟩ := tab_cell I2.iF (k := v + 1) (by omega)
        rw [HZ.out] at cz
        by_cases hlt : a < z
        · have haM : a < nX := by omega
          obtain ⟨bX, oX, x, hAX, hbX, hx, cx⟩ := intl_at X2 haM
          subst hAX
          have HOP := Lib.hid (opn_at hx)
          clear hx hlow Bw K2 X2
          by_cases h0 : 0 < x
          · have HO := Lib.hid (show opn X a = true by rw [HOP.out]; simp [h0])
            cases ok with
            | false =>
              clear I2 A2
              go_wp2_with fail
              go_quiet (fail)
              go_wp2_with fail
              go_roundw
              case rel => exact ⟨a + 1, a, true, by omega, by omega, by go_num, rfl, rfl, HLOW.out.first ha0 HO.out, below_drewN' HBW.out _⟩
              case measure => simp [intOf]; omega
            | true =>
              have hbb := HLOW.out.yes rfl
              obtain ⟨bH, oH, hHa⟩ := I2.iH.adr (by omega)
              dsimp only at hHa
              subst hHa
              obtain ⟨hbH, ch⟩ := tab_cell I2.iH haM
              obtain ⟨-, cb⟩ := tab_cell I2.iH (k := b) (by omega)
              have hd1 := HG.out.hdl a haM
              have hd2 := HG.out.hdl b (by omega)
              obtain ⟨bA, oA, hAa⟩ := A2.adr (by omega)
              subst hAa
              have ca := A2.cel (hOf_get HH.out.len hd1)
              have cba := A2.cel (hOf_get HH.out.len hd2)
              obtain ⟨hbA, ca⟩ := ca
              obtain ⟨-, cba⟩ := cba
              obtain ⟨p, hp⟩ : ∃ p, hd a = p := ⟨_, rfl⟩
              obtain ⟨q, hq⟩ : ∃ q, hd b = q := ⟨_, rfl⟩
              rw [hp] at ch ca hd1
              rw [hq] at cb cba hd2
              have HP := Lib.hid hp; have HQ := Lib.hid hq
              obtain ⟨y1, hy1⟩ : ∃ y1, hOf H p = y1 := ⟨_, rfl⟩
              obtain ⟨y2, hy2⟩ : ∃ y2, hOf H q = y2 := ⟨_, rfl⟩
              rw [hy1] at ca
              rw [hy2] at cba
              have HY1 := Lib.hid (show hOf H (hd a) = y1 by rw [hp, hy1]); have HY2 := Lib.hid (show hOf H (hd b) = y2 by rw [hq, hy2])
              have hbM : b < nX := by omega
              clear hp hq hy1 hy2 I2 A2 hbb
              by_cases hl : y1 < y2
              · go_wp2_with fail
                go_quiet (fail)
                go_wp2_with fail
                go_roundw
                case rel => exact ⟨a + 1, a, true, by omega, by omega, by go_num, rfl, rfl, HLOW.out.less ha0 HO.out (by rw [HY1.out, HY2.out]; exact hl), below_drewN' HBW.out _⟩
                case measure => simp [intOf]; omega
              · have hld : decide (y1 < y2) = false := decide_eq_false hl
                go_wp2_with fail
                go_quiet (fail)
                go_wp2_with fail
                go_roundw
                case rel => exact ⟨a + 1, b, true, by omega, by omega, by go_num, rfl, rfl, HLOW.out.keep (by rw [HY1.out, HY2.out]; omega), below_drewN' HBW.out _⟩
                case measure => simp [intOf]; omega
          · have h0d : decide (0 < x) = false := decide_eq_false h0
            have HO := Lib.hid (show opn X a = false by rw [HOP.out]; exact h0d)
            clear I2 A2
            go_wp2_with fail
            go_quiet (fail)
            go_wp2_with fail
            go_roundw
            case rel => exact ⟨a + 1, b, ok, by omega, by omega, by go_num, rfl, rfl, HLOW.out.skip HO.out, below_drewN' HBW.out _⟩
            case measure => simp [intOf]; omega
        · obtain rfl : a = z := by omega
          cases ok with
          | false =>
            have HNO := Lib.hid (show LowAns N nX s t nX fst hd X H v 0 0 false from .inr ⟨rfl, rfl, rfl, fun h => by
              obtain ⟨-, -, v', b', hv, -, h1, h2, h3⟩ := h
              have : v = v' := by omega
              subst this
              have hl := HLOW.out
              rw [← HFA.out, ← HZ.out] at hl
              exact hl.none ⟨b', h1, h2, h3⟩⟩)
            clear I2 A2 K2 X2 hlow Bw
            go_wp2_with fail
            go_ret3
            exact ⟨0, 0, false, rfl, HNO.out, below_step HB.out HBW.out⟩
          | true =>
            have hbb := HLOW.out.yes rfl
            obtain ⟨bH, oH, hHa⟩ := I2.iH.adr (by omega)
            dsimp only at hHa
            subst hHa
            obtain ⟨hbH, cb⟩ := tab_cell I2.iH (k := b) (by omega)
            have hd2 := HG.out.hdl b (by omega)
            obtain ⟨bA, oA, hAa⟩ := A2.adr (by omega)
            subst hAa
            obtain ⟨hbA, cba⟩ := A2.cel (hOf_get HH.out.len hd2)
            have HYES := Lib.hid (show LowAns N nX s t nX fst hd X H v b (hOf H (hd b)) true from .inl ⟨rfl, rfl, HH.out, v, b, rfl, hvN, rfl, by
              have hl := HLOW.out
              rw [← HFA.out, ← HZ.out] at hl
              exact hl.low, rfl⟩)
            generalize hOf H (hd b) = y at *
            generalize hd b = q at *
            have hbM : b < nX := by omega
            clear I2 A2 K2 X2 hlow Bw hbb
            go_wp2_with fail
            go_quiet (fail)
            go_wp2_with fail
            go_ret3
            exact ⟨b, y, true, rfl, HYES.out, below_step HB.out (below_drewN' HBW.out _)⟩
    · have HNO := Lib.hid (show LowAns N nX s t nX fst hd X H u 0 0 false from .inr ⟨rfl, rfl, rfl, fun h => by
        obtain ⟨-, -, v, b, rfl, h1, -⟩ := h
        exact hu (by omega)⟩)
      have HU := Lib.hid hu
      clear hu
      go_wp2_with (go_at_call 32; refine (lindex_no HU.out _).mono ?_; rintro e w' ⟨rfl, hw⟩; obtain rfl : _ = w' := hw.symm)
      go_ret3
      exact ⟨0, 0, false, rfl, HNO.out, HB.out⟩

set_option maxHeartbeats 4000000 in
theorem lsum_is (N M s t : Nat) (K : CsrS) (A : Option Addr) (n c : Nat) (H : List Int) (w : World) (hA : Ints w w.heap.size A n H) (hs : s < N) (ht : t < N) (hN : N ≤ 4096) :
    Calls Try.prog 22 #[csrW N M s t K, .slice A n c] w fun e w' => e = .returned (.int .i64 (htSum N s t H)) ∧ Below w.heap.size w w' := by
  have HA := Lib.hid hA
  have hright := fun W h1 => lright_is N M s t K A n c H W h1 hs ht hN
  obtain ⟨r, hr⟩ : ∃ r, rightB N s t H = r := ⟨_, rfl⟩
  have HR := Lib.hid hr
  rw [hr] at hright
  have HRIGHT := Lib.hid hright
  obtain ⟨AF, cF, AH, cH, AR, cR, AC, cC, AA, cA, AB, cB⟩ := K
  dsimp only [csrW] at HRIGHT ⊢
  obtain ⟨y, hy⟩ : ∃ y, htSum N s t H = y := ⟨_, rfl⟩
  rw [hy]
  have HY := Lib.hid hy
  clear hA hr hright hy
  go_enter Try.func22, Try.ntmps22
  go_wp2_with fail
  refine (HRIGHT.out _ (HA.out.onAlloc _)).mono ?_
  rintro e w1 ⟨rfl, B1⟩
  have HA1 := Lib.hid ((HA.out.onAlloc _).on B1)
  have HB := Lib.hid (below_step (below_alloc _) B1)
  clear B1
  cases r with
  | false =>
    have HN := Lib.hid (show (0 : Int) = y by rw [← HY.out]; unfold htSum; rw [HR.out]; rfl)
    go_wp2_with fail
    go_ret
    refine ⟨?_, HB.out⟩
    rw [← HN.out]
    rfl
  | true =>
    have HH := Lib.hid (rightB_yes.1 HR.out)
    have hln : N = n := HH.out.len.symm.trans HA1.out.len
    subst hln
    have HN := Lib.hid (show sumH H N = y by rw [← HY.out]; unfold htSum; rw [HR.out]; rfl)
    go_wp2_with fail
    go_loopw [5, 7, 14] (fun q _ i wr => ∃ k : Nat, k ≤ N ∧ i = .int .i64 k ∧ q = .int .i64 (sumH H k) ∧ Below w1.heap.size w1 wr) (fun _ _ i _ => N - (intOf i).toNat)
    case atStart => exact ⟨0, Nat.zero_le _, rfl, rfl, Below.refl _ _⟩
    case round =>
      obtain ⟨k, hk, rfl, rfl, Bw⟩ := hrel
      by_cases hlt : k < N
      · obtain ⟨b, off, hAe⟩ := (HA1.out.on Bw).adr (by omega)
        subst hAe
        obtain ⟨hb, cx⟩ := (HA1.out.on Bw).cel (hOf_get HH.out.len hlt)
        have hb1 := sumH_bound HH.out hN k hk
        have hb2 := sumH_bound HH.out hN (k + 1) hlt
        have HS := Lib.hid (show sumH H k + hOf H k = sumH H (k + 1) from rfl)
        have hw : IntKind.i64.wrap (sumH H k + hOf H k) = sumH H k + hOf H k := wrap_any (by have := HS.out; omega) (by have := HS.out; omega)
        have HBW := Lib.hid Bw
        generalize hOf H k = x at *
        generalize sumH H k = y1 at *
        clear Bw
        go_wp2_with fail
        go_roundw
        case rel => exact ⟨k + 1, by omega, by go_num, by rw [← HS.out], HBW.out⟩
        case measure => simp [intOf]; omega
      · obtain rfl : k = N := by omega
        have HBW := Lib.hid Bw
        rw [HN.out]
        go_wp2_with fail
        go_ret
        exact ⟨rfl, below_step HB.out HBW.out⟩

end Go.Proofs.Ytnhfdmfciddmaaa
