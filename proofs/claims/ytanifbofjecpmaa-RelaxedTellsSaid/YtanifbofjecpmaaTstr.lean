/- Layer 9: the document's own Strict. -/
import Derived.BigQuiet
import Derived.Test.YtanifbofjecpmaaTleg
import Derived.Test.YtanifbofjecpmaaRxq
namespace Go.Proofs.Ytanifbofjecpmaa
open Go.RowKit
set_option maxRecDepth 100000

/-- The lowest open end, or -1. -/
def lowA (x : Option Int) : Int := x.getD (-1)

set_option maxHeartbeats 16000000 in
theorem tstrict_is (N M s t : Nat) (K : CsrS) (Q : PreS) (fst hd rv ai : Nat → Nat) (cp : Nat → Int) (bk : Nat → Bool) (X E H : List Int) (ev : EvS) (w : World) (hG : PNet N M s t fst hd rv ai cp bk) (hI : GridIn w w.heap.size N M K fst hd rv) (hQ : StIn w w.heap.size M N N Q X E H) (hS : SndIs N M s t hd rv cp X E H) :
    Calls Try.prog 18 #[csrW N M s t K, preW M N N Q, evW ev] w fun e' w' => e' = .returned (.bool (strB N s t fst hd X E H ev)) ∧ Below w.heap.size w w' := by
  have hN := hG.nN; have hM := hG.nM
  have hlg := fun W (hb : Below w.heap.size w W) => tlegal_is N M s t K Q fst hd rv X E H ev W hG.g (hI.on hb) (hQ.on hb) hN
  have HLG := Lib.hid hlg
  obtain ⟨R, hR⟩ : ∃ R, strB N s t fst hd X E H ev = R := ⟨_, rfl⟩
  obtain ⟨L, hL⟩ : ∃ L, legI N s t fst X E H ev = L := ⟨_, rfl⟩
  rw [hR]
  rw [hL] at HLG
  have HR := Lib.hid hR; have HL := Lib.hid hL; have HG := Lib.hid hG; have HI := Lib.hid hI; have HQ := Lib.hid hQ; have HS := Lib.hid hS
  clear hR hL hG hI hQ hS hlg
  obtain ⟨AF, cF, AH, cH, AR, cR, AC, cC, AA, cA, AB, cB⟩ := K
  obtain ⟨AX, cX, AE, cE, AHH, cHH⟩ := Q
  obtain ⟨who, what, u, arc, d, h, low⟩ := ev
  dsimp only [csrW, preW, evW] at HLG ⊢
  go_enter Try.func18, Try.ntmps18
  go_wp2_with fail
  obtain ⟨w1, hw1⟩ : ∃ w1, (((w.alloc (.cells #[.int .i64 (N : Int), .int .i64 (s : Int), .int .i64 (t : Int), .slice AF (N + 1) cF, .slice AH M cH, .slice AR M cR, .slice AC M cC, .slice AA M cA, .slice AB M cB] 32)).alloc (.cells #[.slice AX M cX, .slice AE N cE, .slice AHH N cHH] 29)).alloc (.cells #[.int .i64 who, .int .u8 what, .int .i64 u, .int .i64 arc, .int .i64 d, .int .i64 h, .int .i64 low] 39)) = w1 := ⟨_, rfl⟩
  have B1 : Below w.heap.size w w1 := by rw [← hw1]; exact ((below_alloc _).alloc (by simp) _).alloc (by simp; omega) _
  have C1 : Blk w1 w.heap.size 32 #[.int .i64 (N : Int), .int .i64 (s : Int), .int .i64 (t : Int), .slice AF (N + 1) cF, .slice AH M cH, .slice AR M cR, .slice AC M cC, .slice AA M cA, .slice AB M cB] := by rw [← hw1]; exact ((Blk.new rfl).alloc _).alloc _
  have P1 : Blk w1 (w.heap.size + 1) 29 #[.slice AX M cX, .slice AE N cE, .slice AHH N cHH] := by rw [← hw1]; exact (Blk.new (by simp)).alloc _
  have E1 : Blk w1 (w.heap.size + 1 + 1) 39 #[.int .i64 who, .int .u8 what, .int .i64 u, .int .i64 arc, .int .i64 d, .int .i64 h, .int .i64 low] := by rw [← hw1]; exact Blk.new (by simp)
  rw [hw1]
  clear hw1
  refine (HLG.out _ B1).mono ?_
  rintro e w2 ⟨rfl, B2⟩
  have HB2 := Lib.hid (below_step B1 B2); have HC2 := Lib.hid (C1.below B2 C1.lt); have HP2 := Lib.hid (P1.below B2 P1.lt); have HE2 := Lib.hid (E1.below B2 E1.lt)
  clear B1 B2 C1 P1 E1 HLG
  by_cases hL0 : L = 0
  · skip
    subst hL0
    have HI2 := Lib.hid (HI.out.on HB2.out); have HQ2 := Lib.hid (HQ.out.on HB2.out)
    clear HI HQ
    rcases legI_what HL.out with hw | hw
    · skip
      dsimp only at hw
      subst hw
      obtain ⟨hv, hr, hp⟩ := legI_push HL.out rfl
      obtain ⟨u', a, hu, ha, h1, h2, h3, h4, h5, h6, h7⟩ := push_lies HG.out hv hr
      dsimp only at hu ha
      subst hu; subst ha
      obtain ⟨pp1, pp2, pp3, pp4, pp5⟩ := hp
      dsimp only at pp1 pp2 pp3 pp4 pp5
      simp only [Int.toNat_natCast] at pp2 pp3 pp4
      obtain ⟨bX, oX, hAX⟩ := HQ2.out.iX.adr (by omega)
      dsimp only at hAX
      subst hAX
      obtain ⟨bE, oE, hAE⟩ := HQ2.out.iE.adr (by omega)
      dsimp only at hAE
      subst hAE
      obtain ⟨bH, oH, hAH⟩ := HQ2.out.iH.adr (by omega)
      dsimp only at hAH
      subst hAH
      obtain ⟨bD, oD, hAD⟩ := HI2.out.iH.adr (by omega)
      dsimp only at hAD
      subst hAD
      obtain ⟨zx, cx⟩ := HQ2.out.iX.cel (hOf_get HQ2.out.iX.len h4)
      obtain ⟨zy, cy⟩ := HQ2.out.iE.cel (hOf_get HQ2.out.iE.len h1)
      obtain ⟨zh, ch⟩ := HQ2.out.iH.cel (hOf_get HQ2.out.iH.len h1)
      obtain ⟨zd, cd⟩ := tab_cell HI2.out.iH h4
      obtain ⟨v, hvd⟩ : ∃ v, hd a = v := ⟨_, rfl⟩
      have hvN : v < N := by rw [← hvd]; exact HG.out.g.hdl a h4
      rw [hvd] at cd
      obtain ⟨-, cg⟩ := HQ2.out.iH.cel (hOf_get HQ2.out.iH.len hvN)
      have hbv := HS.out.bnd v hvN
      obtain ⟨x, hx⟩ : ∃ x, hOf X a = x := ⟨_, rfl⟩
      obtain ⟨y, hy⟩ : ∃ y, hOf E u' = y := ⟨_, rfl⟩
      obtain ⟨g, hg⟩ : ∃ g, hOf H v = g := ⟨_, rfl⟩
      rw [hx] at cx; rw [hy] at cy; rw [hg] at cg hbv
      rw [← pp4] at ch
      have hgw : IntKind.i64.wrap (g + 1) = g + 1 := wrap_in (by omega) (by omega)
      have hRR : R = (decide (g = h - 1) && decide (d = min y x)) := by
        rw [← HR.out]
        unfold strB
        rw [HL.out, if_pos rfl]
        unfold strP
        simp only [Int.toNat_natCast, decide_true, Bool.true_and, hvd, hg, hx, hy]
      have HRR := Lib.hid hRR
      have ha0 : (0 : Int) ≤ (a : Int) := by omega
      have haM : (a : Int) < (M : Int) := by omega
      have hu0 : (0 : Int) ≤ (u' : Int) := by omega
      have huN : (u' : Int) < (N : Int) := by omega
      have hv0 : (0 : Int) ≤ (v : Int) := by omega
      have hvM : (v : Int) < (N : Int) := by omega
      clear hRR hvd hx hy hg hv hr pp1 pp2 pp3 pp4 pp5 h2 h3 h5 h6 h7 hbv HR HL HI2 HQ2
      obtain ⟨c0, c1, c2, c3, c4, c5, c6, c7, c8⟩ := HC2.out.at9
      obtain ⟨⟨p0, p1, p2⟩, -, zp⟩ := HP2.out.full3
      obtain ⟨e0, e1, e2, e3, e4, e5, e6⟩ := HE2.out.at7
      have zc := HC2.out.lt; have ze := HE2.out.lt
      by_cases hm : x < y
      · have hm' : decide (x < y) = true := decide_eq_true hm
        by_cases g1 : h = g + 1
        · have g1' : (h == g + 1) = true := by simpa using g1
          by_cases g2 : d = x
          · have g2' : (d == x) = true := by simpa using g2
            obtain rfl : R = true := by rw [HRR.out, decide_eq_true (by omega), decide_eq_true (by omega)]; rfl
            clear g1 g2
            go_wp2_with fail
            go_quiet (fail)
            go_wp2_with fail
            go_ret
            exact ⟨rfl, below_drewN' HB2.out _⟩
          · have g2' : (d == x) = false := by simpa using g2
            obtain rfl : R = false := by rw [HRR.out, decide_eq_false (p := d = min y x) (by omega), Bool.and_false]
            clear g1
            go_wp2_with fail
            go_quiet (fail)
            go_wp2_with fail
            go_ret
            exact ⟨rfl, below_drewN' HB2.out _⟩
        · have g1' : (h == g + 1) = false := by simpa using g1
          obtain rfl : R = false := by rw [HRR.out, decide_eq_false (p := g = h - 1) (by omega), Bool.false_and]
          go_wp2_with fail
          go_quiet (fail)
          go_wp2_with fail
          go_ret
          exact ⟨rfl, below_drewN' HB2.out _⟩
      · have hm' : decide (x < y) = false := decide_eq_false hm
        by_cases g1 : h = g + 1
        · have g1' : (h == g + 1) = true := by simpa using g1
          by_cases g2 : d = y
          · have g2' : (d == y) = true := by simpa using g2
            obtain rfl : R = true := by rw [HRR.out, decide_eq_true (by omega), decide_eq_true (by omega)]; rfl
            clear g1 g2
            go_wp2_with fail
            go_quiet (fail)
            go_wp2_with fail
            go_ret
            exact ⟨rfl, below_drewN' HB2.out _⟩
          · have g2' : (d == y) = false := by simpa using g2
            obtain rfl : R = false := by rw [HRR.out, decide_eq_false (p := d = min y x) (by omega), Bool.and_false]
            clear g1
            go_wp2_with fail
            go_quiet (fail)
            go_wp2_with fail
            go_ret
            exact ⟨rfl, below_drewN' HB2.out _⟩
        · have g1' : (h == g + 1) = false := by simpa using g1
          obtain rfl : R = false := by rw [HRR.out, decide_eq_false (p := g = h - 1) (by omega), Bool.false_and]
          go_wp2_with fail
          go_quiet (fail)
          go_wp2_with fail
          go_ret
          exact ⟨rfl, below_drewN' HB2.out _⟩
    · skip
      dsimp only at hw
      subst hw
      obtain ⟨hv, hp⟩ := legI_lift HL.out rfl
      obtain ⟨⟨hv1, hv2⟩, -, -⟩ := hv
      dsimp only at hv1 hv2
      obtain ⟨u', hu⟩ := Int.eq_ofNat_of_zero_le hv1
      subst hu
      obtain ⟨pp1, pp2⟩ := hp
      dsimp only at pp1 pp2
      simp only [Int.toNat_natCast] at pp1
      have huN' : u' < N := by omega
      obtain ⟨bE, oE, hAE⟩ := HQ2.out.iE.adr (by omega)
      dsimp only at hAE
      subst hAE
      obtain ⟨bH, oH, hAH⟩ := HQ2.out.iH.adr (by omega)
      dsimp only at hAH
      subst hAH
      obtain ⟨bF, oF, hAF⟩ := HI2.out.iF.adr (by omega)
      dsimp only at hAF
      subst hAF
      obtain ⟨z, hz⟩ : ∃ z, u' + 1 = z := ⟨_, rfl⟩
      have hzw : IntKind.i64.wrap ((u' : Int) + 1) = (z : Int) := by rw [wrap_in (by omega) (by omega)]; omega
      obtain ⟨f1, hf1⟩ : ∃ x, fst u' = x := ⟨_, rfl⟩
      obtain ⟨f2, hf2⟩ : ∃ x, fst z = x := ⟨_, rfl⟩
      have hff : f1 ≤ f2 ∧ f2 ≤ M := by rw [← hf1, ← hf2, ← hz]; exact ⟨HG.out.g.mono u' huN', HG.out.g.fle (by omega)⟩
      have hcl : ∀ W, Below w2.heap.size w2 W → (bF < W.heap.size ∧ W.cell? ⟨bF, oF + u', none⟩ = some (.int .i64 (f1 : Int))) ∧ W.cell? ⟨bF, oF + z, none⟩ = some (.int .i64 (f2 : Int)) := fun W hb => by
        have h1 := tab_cell (HI2.out.on hb).iF (k := u') (by omega)
        have h2 := tab_cell (HI2.out.on hb).iF (k := z) (by omega)
        rw [hf1] at h1; rw [hf2] at h2
        exact ⟨h1, h2.2⟩
      obtain ⟨y, hy⟩ : ∃ y, hOf E u' = y := ⟨_, rfl⟩
      obtain ⟨g, hg⟩ : ∃ g, hOf H u' = g := ⟨_, rfl⟩
      have hg0 := (HS.out.bnd u' huN').1
      rw [hg] at pp1 hg0
      have hcu : ∀ W, Below w2.heap.size w2 W → (bE < W.heap.size ∧ W.cell? ⟨bE, oE + u', none⟩ = some (.int .i64 y)) ∧ (bH < W.heap.size ∧ W.cell? ⟨bH, oH + u', none⟩ = some (.int .i64 g)) := fun W hb => by
        have h1 := (HQ2.out.on hb).iE.cel (hOf_get HQ2.out.iE.len huN')
        have h2 := (HQ2.out.on hb).iH.cel (hOf_get HQ2.out.iH.len huN')
        rw [hy] at h1; rw [hg] at h2
        exact ⟨h1, h2⟩
      have hRR : R = strO y h (lowO fst hd X H u' (f2 - f1)) := by
        rw [← HR.out]
        unfold strB
        rw [HL.out, if_neg (show ¬ (2 : Int) = 1 by decide)]
        unfold strL
        simp only [Int.toNat_natCast, decide_true, Bool.true_and, hy, ← hz] at *
        rw [hf1, hf2]
      have hlow : ∀ k l, k ≤ f2 - f1 → lowO fst hd X H u' k = some l → 0 ≤ l ∧ l ≤ 2 * (N : Int) := fun k l hk hl => by
        obtain ⟨⟨b, b1, b2, b3, b4⟩, -⟩ := low_some hl
        have := HS.out.bnd (hd b) (HG.out.g.hdl b (by omega))
        omega
      have HCL := Lib.hid hcl; have HCU := Lib.hid hcu; have HRR := Lib.hid hRR; have HLO := Lib.hid hlow; have HF1 := Lib.hid hf1; have HZ := Lib.hid hz
      have hu0 : (0 : Int) ≤ (u' : Int) := by omega
      have huN : (u' : Int) < (N : Int) := by omega
      have hz0 : (0 : Int) ≤ (z : Int) := by omega
      have hzN : (z : Int) < (N : Int) + 1 := by omega
      clear hRR hcl hcu hlow hf1 hf2 hy hg hz hv1 hv2 HR HL
      obtain ⟨⟨zf, cf⟩, cg⟩ := HCL.out _ (Below.refl _ _)
      obtain ⟨c0, c1, c2, c3, c4, c5, c6, c7, c8⟩ := HC2.out.at9
      obtain ⟨⟨p0, p1, p2⟩, -, zp⟩ := HP2.out.full3
      obtain ⟨e0, e1, e2, e3, e4, e5, e6⟩ := HE2.out.at7
      have zc := HC2.out.lt; have ze := HE2.out.lt
      go_wp2_with fail
      clear zf cf cg zp p0 p1 p2 c0 c1 c2 c3 c4 c5 c6 c7 c8 e0 e1 e2 e3 e4 e5 e6 zc ze
      go_loopw [8, 9, 10] (fun lo a _ wr => ∃ k : Nat, f1 + k ≤ f2 ∧ a = .int .i64 ((f1 + k : Nat) : Int) ∧ lo = .int .i64 (lowA (lowO fst hd X H u' k)) ∧ Below w2.heap.size w2 wr) (fun _ a _ _ => f2 - (intOf a).toNat)
      case atStart => exact ⟨0, by omega, rfl, rfl, Below.refl _ _⟩
      case round =>
        obtain ⟨k, hk, rfl, rfl, B⟩ := hrel
        obtain ⟨a, ha⟩ : ∃ a, f1 + k = a := ⟨_, rfl⟩
        rw [ha]
        have HA := Lib.hid ha
        obtain ⟨c0, c1, c2, c3, c4, c5, c6, c7, c8⟩ := (HC2.out.below B HC2.out.lt).at9
        obtain ⟨⟨p0, p1, p2⟩, -, zp⟩ := (HP2.out.below B HP2.out.lt).full3
        obtain ⟨e0, e1, e2, e3, e4, e5, e6⟩ := (HE2.out.below B HE2.out.lt).at7
        have zc := (HC2.out.below B HC2.out.lt).lt; have ze := (HE2.out.below B HE2.out.lt).lt
        obtain ⟨⟨zf, cf⟩, cg⟩ := HCL.out _ B
        clear ha
        by_cases hlt : a < f2
        · have haM : a < M := by omega
          obtain ⟨bX, oX, hAX⟩ := HQ2.out.iX.adr (by omega)
          dsimp only at hAX
          subst hAX
          obtain ⟨bD, oD, hAD⟩ := HI2.out.iH.adr (by omega)
          dsimp only at hAD
          subst hAD
          obtain ⟨zx, cx⟩ := (HQ2.out.on B).iX.cel (hOf_get HQ2.out.iX.len haM)
          obtain ⟨zd, cd⟩ := tab_cell (HI2.out.on B).iH haM
          obtain ⟨v, hvd⟩ : ∃ v, hd a = v := ⟨_, rfl⟩
          have hvN : v < N := by rw [← hvd]; exact HG.out.g.hdl a haM
          rw [hvd] at cd
          obtain ⟨zh, ch⟩ := (HQ2.out.on B).iH.cel (hOf_get HQ2.out.iH.len hvN)
          obtain ⟨x, hx⟩ : ∃ x, hOf X a = x := ⟨_, rfl⟩
          obtain ⟨j, hj⟩ : ∃ j, hOf H v = j := ⟨_, rfl⟩
          rw [hx] at cx; rw [hj] at ch
          have ha0 : (0 : Int) ≤ (a : Int) := by omega
          have haM' : (a : Int) < (M : Int) := by omega
          have hv0 : (0 : Int) ≤ (v : Int) := by omega
          have hvM : (v : Int) < (N : Int) := by omega
          have haw : IntKind.i64.wrap ((a : Int) + 1) = ((a + 1 : Nat) : Int) := by rw [wrap_in (by omega) (by omega)]; omega
          have hnx : lowO fst hd X H u' (k + 1) = if 0 < x then (match lowO fst hd X H u' k with | none => some j | some l => if j < l then some j else some l) else lowO fst hd X H u' k := by
            simp only [lowO, HF1.out, HA.out, hvd, hx, hj]
            cases lowO fst hd X H u' k <;> rfl
          have hlo := fun l hl => HLO.out k l (by have := HA.out; omega) hl
          have HNX := Lib.hid hnx
          clear hnx hvd hx hj
          by_cases h0 : 0 < x
          · have h0' : decide (0 < x) = true := decide_eq_true h0
            cases hlk : lowO fst hd X H u' k with
            | none =>
              have hnk : lowO fst hd X H u' (k + 1) = some j := by rw [HNX.out, if_pos h0, hlk]
              have HNK := Lib.hid hnk
              clear hnk hlk hlo
              dsimp only [lowA, Option.getD]
              go_wp2_with fail
              go_quiet (fail)
              go_wp2_with fail
              go_roundw
              case rel => exact ⟨k + 1, by have := HA.out; omega, by have := HA.out; first | rfl | (congr 1; omega), by rw [HNK.out]; first | done | rfl, below_drewN' B _⟩
              case measure => simp [intOf]; omega
            | some l =>
              have hl := hlo l hlk
              have hl0 : decide (l < 0) = false := decide_eq_false (by omega)
              by_cases hjl : j < l
              · have hjl' : decide (j < l) = true := decide_eq_true hjl
                have hnk : lowO fst hd X H u' (k + 1) = some j := by rw [HNX.out, if_pos h0, hlk]; exact if_pos hjl
                have HNK := Lib.hid hnk
                clear hnk hlk hlo
                dsimp only [lowA, Option.getD]
                go_wp2_with fail
                go_quiet (fail)
                go_wp2_with fail
                go_roundw
                case rel => exact ⟨k + 1, by have := HA.out; omega, by have := HA.out; first | rfl | (congr 1; omega), by rw [HNK.out]; first | done | rfl, below_drewN' B _⟩
                case measure => simp [intOf]; omega
              · have hjl' : decide (j < l) = false := decide_eq_false hjl
                have hnk : lowO fst hd X H u' (k + 1) = some l := by rw [HNX.out, if_pos h0, hlk]; exact if_neg hjl
                have HNK := Lib.hid hnk
                clear hnk hlk hlo
                dsimp only [lowA, Option.getD]
                go_wp2_with fail
                go_quiet (fail)
                go_wp2_with fail
                go_roundw
                case rel => exact ⟨k + 1, by have := HA.out; omega, by have := HA.out; first | rfl | (congr 1; omega), by rw [HNK.out]; first | done | rfl, below_drewN' B _⟩
                case measure => simp [intOf]; omega
          · have h0' : decide (0 < x) = false := decide_eq_false h0
            have hnk : lowO fst hd X H u' (k + 1) = lowO fst hd X H u' k := by rw [HNX.out, if_neg h0]
            have HNK := Lib.hid hnk
            clear hnk hlo
            obtain ⟨q, hq⟩ : ∃ q, lowA (lowO fst hd X H u' k) = q := ⟨_, rfl⟩
            rw [hq]
            have HQQ := Lib.hid hq
            clear hq
            go_wp2_with fail
            go_quiet (fail)
            go_wp2_with fail
            go_roundw
            case rel => exact ⟨k + 1, by have := HA.out; omega, by have := HA.out; first | rfl | (congr 1; omega), by rw [HNK.out, HQQ.out], below_drewN' B _⟩
            case measure => simp [intOf]; omega
        · have hlt' : ¬ (a : Int) < (f2 : Int) := by omega
          have hkk : f2 - f1 = k := by have := HA.out; omega
          have hRR := HRR.out
          rw [hkk] at hRR
          obtain ⟨⟨zy, cy⟩, ⟨zh, ch⟩⟩ := HCU.out _ B
          cases hlk : lowO fst hd X H u' k with
          | none =>
            rw [hlk] at hRR
            obtain rfl : R = false := hRR
            have hq1 : decide (g ≤ (-1 : Int)) = false := decide_eq_false (by omega)
            dsimp only [lowA, Option.getD]
            clear hlk
            by_cases hy0 : 0 < y
            · have hy1 : decide (0 < y) = true := decide_eq_true hy0
              go_wp2_with fail
              go_ret
              exact ⟨rfl, below_step HB2.out B⟩
            · have hy1 : decide (0 < y) = false := decide_eq_false hy0
              go_wp2_with fail
              go_ret
              exact ⟨rfl, below_step HB2.out B⟩
          | some l =>
            have hl := HLO.out k l (by omega) hlk
            rw [hlk] at hRR
            dsimp only [lowA, Option.getD, strO] at hRR ⊢
            have hlw : IntKind.i64.wrap (l + 1) = l + 1 := wrap_in (by omega) (by omega)
            have HR2 := Lib.hid hRR
            clear hRR hlk
            by_cases hy0 : 0 < y
            · have hy1 : decide (0 < y) = true := decide_eq_true hy0
              by_cases hq0 : g ≤ l
              · have hq1 : decide (g ≤ l) = true := decide_eq_true hq0
                by_cases hh : h = l + 1
                · have hh1 : (h == l + 1) = true := by simpa using hh
                  obtain rfl : R = true := by rw [HR2.out, decide_eq_true hy0, decide_eq_true hh]; rfl
                  clear hh
                  go_wp2_with fail
                  go_ret
                  exact ⟨rfl, below_step HB2.out B⟩
                · have hh1 : (h == l + 1) = false := by simpa using hh
                  obtain rfl : R = false := by rw [HR2.out, decide_eq_false hh, Bool.and_false]
                  go_wp2_with fail
                  go_ret
                  exact ⟨rfl, below_step HB2.out B⟩
              · have hq1 : decide (g ≤ l) = false := decide_eq_false hq0
                obtain rfl : R = false := by rw [HR2.out, decide_eq_false (p := h = l + 1) (by omega), Bool.and_false]
                go_wp2_with fail
                go_ret
                exact ⟨rfl, below_step HB2.out B⟩
            · have hy1 : decide (0 < y) = false := decide_eq_false hy0
              obtain rfl : R = false := by rw [HR2.out, decide_eq_false hy0, Bool.false_and]
              go_wp2_with fail
              go_ret
              exact ⟨rfl, below_step HB2.out B⟩
  · skip
    have hl1 : (L != 0) = true := by simpa using hL0
    obtain rfl : R = false := by rw [← HR.out]; unfold strB; rw [HL.out, decide_eq_false hL0, Bool.false_and]
    clear hL0
    go_wp2_with fail
    go_ret
    exact ⟨rfl, HB2.out⟩
end Go.Proofs.Ytanifbofjecpmaa
