/- Layer 6: the document's answers: by, Steep, Flat. -/
import Derived.Test.YtnhfdmfciddmaaaLabr
namespace Go.Proofs.Ytnhfdmfciddmaaa
open Go.RowKit
set_option maxRecDepth 100000

def qBetween (lo hi x : Int) : Bool := decide (lo ≤ x ∧ x ≤ hi)

set_option maxHeartbeats 16000000 in
theorem rby_is (N M s t : Nat) (K : CsrS) (fst hd rv : Nat → Nat) (AX : Option Addr) (nX cX : Nat) (X : List Int) (A : Option Addr) (n c : Nat) (H : List Int) (lo hi : Int) (w : World) (hG : Grid N M fst hd rv) (hI : GridIn w w.heap.size N M K fst hd rv) (hX : Ints w w.heap.size AX nX X) (hA : Ints w w.heap.size A n H)
    (hs : s < N) (ht : t < N) (hN : N ≤ 4096) (hM : M ≤ 100000000) :
    Calls Try.prog 37 #[csrW N M s t K, .slice AX nX cX, .slice A n c, .int .i64 lo, .int .i64 hi] w (RetSel (slps N M s t nX hd rv X H (qBetween lo hi)) w) := by
  have HI := Lib.hid hI; have HX := Lib.hid hX; have HA := Lib.hid hA; have HG := Lib.hid hG
  obtain ⟨L, hL⟩ : ∃ L, slps N M s t nX hd rv X H (qBetween lo hi) = L := ⟨_, rfl⟩
  rw [hL]
  have HL := Lib.hid hL
  obtain ⟨r, hr⟩ : ∃ r, rightB N s t H = r := ⟨_, rfl⟩
  have HR := Lib.hid hr
  have hright := fun W h1 => rright_is N M s t K A n c H W h1 hs ht hN
  rw [hr] at hright
  have HRIGHT := Lib.hid hright
  obtain ⟨bF, oF, hF⟩ := hI.iF.adr (by omega)
  obtain ⟨AF, cF, AH, cH, AR, cR, AC, cC, AA, cA, AB, cB⟩ := K
  dsimp only [csrW] at HRIGHT hF ⊢
  subst hF
  have Kc : Blk (w.alloc (.cells #[.int .i64 (N : Int), .int .i64 (s : Int), .int .i64 (t : Int), .slice (some ⟨bF, oF, none⟩) (N + 1) cF, .slice AH M cH, .slice AR M cR, .slice AC M cC, .slice AA M cA, .slice AB M cB] 29)) w.heap.size 29 #[.int .i64 (N : Int), .int .i64 (s : Int), .int .i64 (t : Int), .slice (some ⟨bF, oF, none⟩) (N + 1) cF, .slice AH M cH, .slice AR M cR, .slice AC M cC, .slice AA M cA, .slice AB M cB] := Blk.new rfl
  have HKc := Lib.hid Kc
  obtain ⟨a0, a1, a2, a3, a4, a5, a6, a7, a8⟩ := Kc.at9
  have HB0 := Lib.hid (below_alloc (w := w) (.cells #[.int .i64 (N : Int), .int .i64 (s : Int), .int .i64 (t : Int), .slice (some ⟨bF, oF, none⟩) (N + 1) cF, .slice AH M cH, .slice AR M cR, .slice AC M cC, .slice AA M cA, .slice AB M cB] 29))
  by_cases hne : nX = M
  · subst hne
    clear Kc hI hX hA hG hr hright hL a0 a1 a2 a3 a4 a5 a6 a7 a8
    go_enter Try.func37, Try.ntmps37
    go_wp2_with fail
    refine (HRIGHT.out _ (HA.out.onAlloc _)).mono ?_
    rintro e w1 ⟨rfl, B1⟩
    have K1 := HKc.out.below B1 HKc.out.lt
    have I1 := (HI.out.onAlloc _).on B1
    have A1 := (HA.out.onAlloc _).on B1
    have X1 := (HX.out.onAlloc _).on B1
    have HB := Lib.hid (below_step HB0.out B1)
    clear B1
    cases r with
    | false =>
      have HN := Lib.hid (show L = [] by
        rw [← HL.out]; unfold slps
        rw [if_neg]
        rw [HR.out]
        simp)
      clear K1 I1 A1 X1
      go_wp2_with fail
      go_ret
      rw [HN.out]
      exact ⟨none, 0, rfl, World.ownsRow_nil _ _ _ _, HB.out⟩
    | true =>
      have HH := Lib.hid (rightB_yes.1 HR.out)
      have hln : N = n := HH.out.len.symm.trans A1.len
      subst hln
      have HN := Lib.hid (show L = selTo (slp s hd rv X H (qBetween lo hi)) nX by
        rw [← HL.out]; unfold slps
        rw [if_pos ⟨rfl, HR.out⟩])
      have HK1 := Lib.hid K1; have HI1 := Lib.hid I1; have HA1 := Lib.hid A1; have HX1 := Lib.hid X1
      have hx0 : Hx w1 w1 w1.heap.size [⟨3, none, 0, 0, []⟩] := (Hx.start rfl).nil _
      have HX0 := Lib.hid hx0
      clear K1 I1 A1 X1 hx0
      go_wp2_with fail
      go_loopw [11, 12, 13, 14] (fun q i _ _ wr => ∃ (v : Nat) (AQ : Option Addr) (cQ : Nat), v ≤ N ∧ i = .int .i64 v ∧ q = .slice AQ (selTo (slp s hd rv X H (qBetween lo hi)) (fst v)).length cQ ∧ Hx w1 wr w1.heap.size [⟨3, AQ, (selTo (slp s hd rv X H (qBetween lo hi)) (fst v)).length, cQ, nvs (selTo (slp s hd rv X H (qBetween lo hi)) (fst v))⟩]) (fun _ i _ _ _ => N - (intOf i).toNat)
      case atStart =>
        have h0 := HG.out.f0
        refine ⟨0, none, 0, Nat.zero_le _, rfl, ?_, ?_⟩
        · rw [h0]; rfl
        · rw [h0]; exact HX0.out
      case round =>
        clear HX0
        obtain ⟨v, AQ, cQ, hv, rfl, rfl, hx⟩ := hrel
        have HXV := Lib.hid hx
        have Bw := hx.bel
        have K2 := HK1.out.below Bw HK1.out.lt
        have I2 := HI1.out.on Bw
        obtain ⟨a0, a1, a2, a3, a4, a5, a6, a7, a8⟩ := K2.at9
        have hz2 := K2.lt
        clear hx Bw K2
        by_cases hlv : v < N
        · obtain ⟨hbF, cf⟩ := tab_cell I2.iF (k := v) (by omega)
          have hf1 := HG.out.mono v hlv
          have hf2 := HG.out.fle (v := v + 1) (by omega)
          have HTL := Lib.hid (fun a h1 h2 => HG.out.tail v a hlv h1 h2)
          obtain ⟨fa, hfa⟩ : ∃ fa, fst v = fa := ⟨_, rfl⟩
          obtain ⟨z, hz⟩ : ∃ z, fst (v + 1) = z := ⟨_, rfl⟩
          rw [hfa] at cf hf1 HTL HXV
          rw [hz] at hf1 hf2 HTL
          have HFA := Lib.hid hfa; have HZ := Lib.hid hz
          rw [hfa]
          clear hfa hz I2
          go_wp2_with fail
          clear a0 a1 a2 a3 a4 a5 a6 a7 a8 hz2 cf hbF
          go_loopw [11, 13, 14] (fun q i _ wr => ∃ (a : Nat) (AQ : Option Addr) (cQ : Nat), fa ≤ a ∧ a ≤ z ∧ i = .int .i64 a ∧ q = .slice AQ (selTo (slp s hd rv X H (qBetween lo hi)) a).length cQ ∧ Hx w1 wr w1.heap.size [⟨3, AQ, (selTo (slp s hd rv X H (qBetween lo hi)) a).length, cQ, nvs (selTo (slp s hd rv X H (qBetween lo hi)) a)⟩]) (fun _ i _ _ => z - (intOf i).toNat)
          case atStart => exact ⟨fa, AQ, cQ, Nat.le_refl _, hf1, rfl, rfl, HXV.out⟩
          case round =>
            clear HXV
            obtain ⟨a, AQ, cQ, ha0, ha1, rfl, rfl, hx⟩ := hrel
            have HXA := Lib.hid hx
            have Bw := hx.bel
            have K2 := HK1.out.below Bw HK1.out.lt
            have I2 := HI1.out.on Bw
            have X2 := HX1.out.on Bw
            have A2 := HA1.out.on Bw
            obtain ⟨a0, a1, a2, a3, a4, a5, a6, a7, a8⟩ := K2.at9
            have hz2 := K2.lt
            obtain ⟨hbF, cz⟩ := tab_cell I2.iF (k := v + 1) (by omega)
            rw [HZ.out] at cz
            have hsl := sel_len (slp s hd rv X H (qBetween lo hi)) a
            clear hx Bw K2
            by_cases hlt : a < z
            · have haM : a < nX := by omega
              obtain ⟨bX, oX, x, hAX, hbX, hx, cx⟩ := intl_at X2 haM
              subst hAX
              have htl := HTL.out a ha0 hlt
              have HSL := Lib.hid (show slp s hd rv X H (qBetween lo hi) a = (decide (0 < x) && decide (v ≠ s) && qBetween lo hi (hOf H v - hOf H (hd a))) by unfold slp; rw [opn_at hx, htl])
              obtain ⟨bH, oH, hHa⟩ := I2.iH.adr (by omega)
              dsimp only at hHa
              subst hHa
              obtain ⟨hbH, ch⟩ := tab_cell I2.iH haM
              have hd1 := HG.out.hdl a haM
              obtain ⟨bA, oA, hAa⟩ := A2.adr (by omega)
              subst hAa
              obtain ⟨hbA, ca⟩ := A2.cel (hOf_get HH.out.len hd1)
              obtain ⟨-, cv⟩ := A2.cel (hOf_get HH.out.len hlv)
              have hb1 := HH.out.bnd _ hd1
              have hb2 := HH.out.bnd _ hlv
              obtain ⟨y2, hy2⟩ : ∃ y2, hOf H (hd a) = y2 := ⟨_, rfl⟩
              obtain ⟨y1, hy1⟩ : ∃ y1, hOf H v = y1 := ⟨_, rfl⟩
              obtain ⟨p, hp⟩ : ∃ p, hd a = p := ⟨_, rfl⟩
              rw [hy2] at ca hb1 HSL
              rw [hy1] at cv hb2 HSL
              rw [hp] at ch ca hd1
              have hw : IntKind.i64.wrap (y1 - y2) = y1 - y2 := wrap_any (by omega) (by omega)
              clear hx hy1 hy2 hp htl I2 X2 A2
              by_cases hvs : v = s
              · have HSF := Lib.hid (show slp s hd rv X H (qBetween lo hi) a = false by rw [HSL.out]; simp [hvs])
                subst hvs
                go_wp2_with fail
                go_quiet (fail)
                go_wp2_with fail
                go_roundw
                case rel => exact ⟨a + 1, AQ, cQ, by omega, by omega, by go_num, by rw [sel_no HSF.out], by rw [sel_no HSF.out]; exact HXA.out.drew _⟩
                case measure => simp [intOf]; omega
              · have hvs1 : ¬ (v : Int) = (s : Int) := by omega
                have hvs2 : ((v : Int) == (s : Int)) = false := beq_false_of_ne hvs1
                have hvs3 : decide ((v : Int) = (s : Int)) = false := decide_eq_false hvs1
                by_cases h0 : 0 < x
                · by_cases h1 : lo ≤ y1 - y2
                  · by_cases h2 : y1 - y2 ≤ hi
                    · have HST := Lib.hid (show slp s hd rv X H (qBetween lo hi) a = true by rw [HSL.out]; simp [hvs, h0, qBetween, h1, h2])
                      go_wp2_with fail
                      go_quiet (fail)
                      go_wp2_with (at_builtin; refine wp_appH (HXA.out.drew _) rfl (.tmp 82) (.tmp 84) _ _ _ rfl one_int.wide 0 (selTo (slp s hd rv X H (qBetween lo hi)) a).length cQ AQ _ (.int .i64 (a : Int)) rfl rfl rfl rfl (by omega) (by simp) ?_)
                      intro A4 c4 w4 HX4 _
                      go_wp2_with fail
                      go_roundw
                      case rel =>
                        refine ⟨a + 1, A4, c4, by omega, by omega, by go_num, by rw [sel_yes HST.out, List.length_append]; rfl, ?_⟩
                        have h := HX4.out
                        rw [sel_yes HST.out, List.length_append]
                        unfold nvs at h ⊢
                        rw [List.map_append]
                        exact h
                      case measure => simp [intOf]; omega
                    · have h2d : decide (y1 - y2 ≤ hi) = false := decide_eq_false h2
                      have HSF := Lib.hid (show slp s hd rv X H (qBetween lo hi) a = false by rw [HSL.out]; simp [qBetween, h2])
                      go_wp2_with fail
                      go_quiet (fail)
                      go_wp2_with fail
                      go_roundw
                      case rel => exact ⟨a + 1, AQ, cQ, by omega, by omega, by go_num, by rw [sel_no HSF.out], by rw [sel_no HSF.out]; exact HXA.out.drew _⟩
                      case measure => simp [intOf]; omega
                  · have h1d : decide (lo ≤ y1 - y2) = false := decide_eq_false h1
                    have HSF := Lib.hid (show slp s hd rv X H (qBetween lo hi) a = false by rw [HSL.out]; simp [qBetween, h1])
                    go_wp2_with fail
                    go_quiet (fail)
                    go_wp2_with fail
                    go_roundw
                    case rel => exact ⟨a + 1, AQ, cQ, by omega, by omega, by go_num, by rw [sel_no HSF.out], by rw [sel_no HSF.out]; exact HXA.out.drew _⟩
                    case measure => simp [intOf]; omega
                · have h0d : decide (0 < x) = false := decide_eq_false h0
                  have HSF := Lib.hid (show slp s hd rv X H (qBetween lo hi) a = false by rw [HSL.out]; simp [h0])
                  go_wp2_with fail
                  go_quiet (fail)
                  go_wp2_with fail
                  go_roundw
                  case rel => exact ⟨a + 1, AQ, cQ, by omega, by omega, by go_num, by rw [sel_no HSF.out], by rw [sel_no HSF.out]; exact HXA.out.drew _⟩
                  case measure => simp [intOf]; omega
            · obtain rfl : a = z := by omega
              clear I2 X2 A2
              go_wp2_with fail
              go_roundw
              case rel => exact ⟨v + 1, AQ, cQ, by omega, by go_num, by rw [HZ.out], by rw [HZ.out]; exact HXA.out⟩
              case measure => simp [intOf]; omega
        · obtain rfl : v = N := by omega
          have HFN := Lib.hid HG.out.fN
          rw [HG.out.fN]
          have hx := HXV.out
          rw [HG.out.fN] at hx
          have HXE := Lib.hid hx
          clear hx HXV I2
          generalize selTo (slp s hd rv X H (qBetween lo hi)) nX = L1 at *
          go_wp2_with fail
          go_ret
          rw [HN.out]
          exact ⟨AQ, cQ, rfl, own_less (HXE.out.held.own 0 _ rfl) HB.out.size, below_step HB.out HXE.out.bel⟩
  · have hne' : ¬ (nX : Int) = (M : Int) := by omega
    have hne2 : ((nX : Int) == (M : Int)) = false := beq_false_of_ne hne'
    have HN := Lib.hid (show L = [] by
      rw [← HL.out]; unfold slps
      rw [if_neg fun h => hne h.1])
    have hz := Kc.lt
    clear Kc hI hX hA hG hr hright hL
    go_enter Try.func37, Try.ntmps37
    go_wp2_with fail
    go_ret
    rw [HN.out]
    exact ⟨none, 0, rfl, World.ownsRow_nil _ _ _ _, HB0.out⟩

theorem slps_steep {N M s t nX : Nat} {fst hd rv : Nat → Nat} {X H : List Int} (hG : Grid N M fst hd rv) : slps N M s t nX hd rv X H (qBetween 2 N) = slps N M s t nX hd rv X H qSteep := by
  unfold slps
  by_cases h : nX = M ∧ rightB N s t H = true
  · rw [if_pos h, if_pos h]
    have hH := rightB_yes.1 h.2
    refine sel_congr fun a ha => ?_
    have h1 := hH.bnd _ (hG.hdl _ (hG.rvl a ha))
    have h2 := hH.bnd _ (hG.hdl a ha)
    unfold slp
    congr 1
    unfold qBetween qSteep
    rw [Bool.eq_iff_iff, decide_eq_true_eq, decide_eq_true_eq]
    omega
  · rw [if_neg h, if_neg h]
theorem slps_flat {N M s t nX : Nat} {hd rv : Nat → Nat} {X H : List Int} : slps N M s t nX hd rv X H (qBetween 1 1) = slps N M s t nX hd rv X H qFlat := by
  have e : qBetween 1 1 = qFlat := by
    funext x
    unfold qBetween qFlat
    rw [Bool.eq_iff_iff, decide_eq_true_eq, decide_eq_true_eq]
    omega
  rw [e]

set_option maxHeartbeats 4000000 in
theorem rsteep_is (N M s t : Nat) (K : CsrS) (fst hd rv : Nat → Nat) (AX : Option Addr) (nX cX : Nat) (X : List Int) (A : Option Addr) (n c : Nat) (H : List Int) (w : World) (hG : Grid N M fst hd rv) (hI : GridIn w w.heap.size N M K fst hd rv) (hX : Ints w w.heap.size AX nX X) (hA : Ints w w.heap.size A n H)
    (hs : s < N) (ht : t < N) (hN : N ≤ 4096) (hM : M ≤ 100000000) :
    Calls Try.prog 17 #[csrW N M s t K, .slice AX nX cX, .slice A n c] w (RetSel (slps N M s t nX hd rv X H qSteep) w) := by
  have HI := Lib.hid hI; have HX := Lib.hid hX; have HA := Lib.hid hA
  have hall := fun W h1 h2 h3 => rby_is N M s t K fst hd rv AX nX cX X A n c H 2 N W hG h1 h2 h3 hs ht hN hM
  rw [slps_steep hG] at hall
  generalize slps N M s t nX hd rv X H qSteep = L at *
  have HALL := Lib.hid hall
  clear hI hX hA hall
  obtain ⟨AF, cF, AH, cH, AR, cR, AC, cC, AA, cA, AB, cB⟩ := K
  dsimp only [csrW] at HALL ⊢
  go_enter Try.func17, Try.ntmps17
  go_wp2_with fail
  refine (HALL.out _ (HI.out.onAlloc _) (HX.out.onAlloc _) (HA.out.onAlloc _)).mono ?_
  rintro e w1 ⟨AQ, cQ, rfl, hO, hB⟩
  have HO := Lib.hid hO; have HBB := Lib.hid (below_step (below_alloc _) hB)
  clear hO hB
  go_wp2_with fail
  go_ret
  exact ⟨AQ, cQ, rfl, own_less HO.out (by simp), HBB.out⟩

set_option maxHeartbeats 4000000 in
theorem rflat_is (N M s t : Nat) (K : CsrS) (fst hd rv : Nat → Nat) (AX : Option Addr) (nX cX : Nat) (X : List Int) (A : Option Addr) (n c : Nat) (H : List Int) (w : World) (hG : Grid N M fst hd rv) (hI : GridIn w w.heap.size N M K fst hd rv) (hX : Ints w w.heap.size AX nX X) (hA : Ints w w.heap.size A n H)
    (hs : s < N) (ht : t < N) (hN : N ≤ 4096) (hM : M ≤ 100000000) :
    Calls Try.prog 19 #[csrW N M s t K, .slice AX nX cX, .slice A n c] w (RetSel (slps N M s t nX hd rv X H qFlat) w) := by
  have HI := Lib.hid hI; have HX := Lib.hid hX; have HA := Lib.hid hA
  have hall := fun W h1 h2 h3 => rby_is N M s t K fst hd rv AX nX cX X A n c H 1 1 W hG h1 h2 h3 hs ht hN hM
  rw [slps_flat] at hall
  generalize slps N M s t nX hd rv X H qFlat = L at *
  have HALL := Lib.hid hall
  clear hI hX hA hall
  obtain ⟨AF, cF, AH, cH, AR, cR, AC, cC, AA, cA, AB, cB⟩ := K
  dsimp only [csrW] at HALL ⊢
  go_enter Try.func19, Try.ntmps19
  go_wp2_with fail
  refine (HALL.out _ (HI.out.onAlloc _) (HX.out.onAlloc _) (HA.out.onAlloc _)).mono ?_
  rintro e w1 ⟨AQ, cQ, rfl, hO, hB⟩
  have HO := Lib.hid hO; have HBB := Lib.hid (below_step (below_alloc _) hB)
  clear hO hB
  go_wp2_with fail
  go_ret
  exact ⟨AQ, cQ, rfl, own_less HO.out (by simp), HBB.out⟩

set_option maxHeartbeats 4000000 in
theorem rvalid_is (N M s t : Nat) (K : CsrS) (fst hd rv : Nat → Nat) (AX : Option Addr) (nX cX : Nat) (X : List Int) (A : Option Addr) (n c : Nat) (H : List Int) (w : World) (hG : Grid N M fst hd rv) (hI : GridIn w w.heap.size N M K fst hd rv) (hX : Ints w w.heap.size AX nX X) (hA : Ints w w.heap.size A n H)
    (hs : s < N) (ht : t < N) (hN : N ≤ 4096) (hM : M ≤ 100000000) :
    Calls Try.prog 21 #[csrW N M s t K, .slice AX nX cX, .slice A n c] w fun e w' => e = .returned (.bool (validB N M s t nX hd rv X H)) ∧ Below w.heap.size w w' := by
  have HI := Lib.hid hI; have HX := Lib.hid hX; have HA := Lib.hid hA
  obtain ⟨v, hv⟩ : ∃ v, validB N M s t nX hd rv X H = v := ⟨_, rfl⟩
  rw [hv]
  have HV := Lib.hid hv
  have hright := fun W h1 => rright_is N M s t K A n c H W h1 hs ht hN
  have hall := fun W h1 h2 h3 => rsteep_is N M s t K fst hd rv AX nX cX X A n c H W hG h1 h2 h3 hs ht hN hM
  unfold validB at HV
  generalize slps N M s t nX hd rv X H qSteep = L at *
  generalize rightB N s t H = r at *
  have HRIGHT := Lib.hid hright; have HALL := Lib.hid hall
  clear hI hX hA hright hall hv
  obtain ⟨AF, cF, AH, cH, AR, cR, AC, cC, AA, cA, AB, cB⟩ := K
  dsimp only [csrW] at HRIGHT HALL ⊢
  have Kc : Blk (w.alloc (.cells #[.int .i64 (N : Int), .int .i64 (s : Int), .int .i64 (t : Int), .slice AF (N + 1) cF, .slice AH M cH, .slice AR M cR, .slice AC M cC, .slice AA M cA, .slice AB M cB] 29)) w.heap.size 29 #[.int .i64 (N : Int), .int .i64 (s : Int), .int .i64 (t : Int), .slice AF (N + 1) cF, .slice AH M cH, .slice AR M cR, .slice AC M cC, .slice AA M cA, .slice AB M cB] := Blk.new rfl
  have HKc := Lib.hid Kc
  have HB0 := Lib.hid (below_alloc (w := w) (.cells #[.int .i64 (N : Int), .int .i64 (s : Int), .int .i64 (t : Int), .slice AF (N + 1) cF, .slice AH M cH, .slice AR M cR, .slice AC M cC, .slice AA M cA, .slice AB M cB] 29))
  clear Kc
  by_cases hne : nX = M
  · subst hne
    go_enter Try.func21, Try.ntmps21
    go_wp2_with fail
    refine (HRIGHT.out _ (HA.out.onAlloc _)).mono ?_
    rintro e w1 ⟨rfl, B1⟩
    have K1 := HKc.out.below B1 HKc.out.lt
    have HI1 := Lib.hid ((HI.out.onAlloc _).on B1)
    have HA1 := Lib.hid ((HA.out.onAlloc _).on B1)
    have HX1 := Lib.hid ((HX.out.onAlloc _).on B1)
    have HB := Lib.hid (below_step HB0.out B1)
    clear B1
    cases r with
    | false =>
      have HVF := Lib.hid (show false = v by have := HV.out; simpa using this)
      clear K1
      go_wp2_with fail
      go_ret
      exact ⟨ret_bool HVF.out, HB.out⟩
    | true =>
      have HVF := Lib.hid (show decide (L.length = 0) = v by have := HV.out; simpa using this)
      obtain ⟨a0, a1, a2, a3, a4, a5, a6, a7, a8⟩ := K1.at9
      have hz1 := K1.lt
      clear K1
      go_wp2_with fail
      refine (HALL.out _ HI1.out HX1.out HA1.out).mono ?_
      rintro e w2 ⟨AQ, cQ, rfl, hO, hB⟩
      have HBB := Lib.hid (below_step HB.out hB)
      generalize L.length = q at *
      clear hO hB a0 a1 a2 a3 a4 a5 a6 a7 a8 hz1
      go_wp2_with fail
      go_ret
      exact ⟨ret_bool (by rw [← HVF.out, beq_nat]), HBB.out⟩
  · have hne' : ¬ (nX : Int) = (M : Int) := by omega
    have hne2 : ((nX : Int) == (M : Int)) = false := beq_false_of_ne hne'
    have HVF := Lib.hid (show false = v by have := HV.out; simpa [hne] using this)
    go_enter Try.func21, Try.ntmps21
    go_wp2_with fail
    go_ret
    exact ⟨ret_bool HVF.out, HB0.out⟩

end Go.Proofs.Ytnhfdmfciddmaaa
