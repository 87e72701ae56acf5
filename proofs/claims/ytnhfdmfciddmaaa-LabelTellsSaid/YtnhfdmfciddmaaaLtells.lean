/- LabelTells: the walk. -/
import Derived.Test.YtnhfdmfciddmaaaLaba
import Derived.Test.YtnhfdmfciddmaaaLabt
import Derived.Test.YtnhfdmfciddmaaaLabh
import Derived.Test.YtnhfdmfciddmaaaLefto
import Derived.Test.YtnhfdmfciddmaaaTake
import Derived.Test.YtnhfdmfciddmaaaIntc
import Derived.Test.YtnhfdmfciddmaaaDturnsl
namespace Go.Proofs.Ytnhfdmfciddmaaa
open Go.RowKit
set_option maxRecDepth 100000

set_option maxHeartbeats 16000000 in
theorem ltells_walk (N S T : Int) (A : Option Addr) (n c : Nat) (l : List ArcN) (AL : Option Addr) (nl cl : Nat) (L : List Int) (AH : Option Addr) (nh ch : Nat) (LH : List Int) (u : Int) (a : Nat) (w : World) (hA : Arcs w w.heap.size A n l) (hf : FitsAll l) (hnc : n ≤ c) (hL : Ints w w.heap.size AL nl L) (hLR : ∀ x ∈ L, InR x) (hH : Ints w w.heap.size AH nh LH) (ha : a ≤ 255) :
    Calls Try.prog 3 #[.agg #[.int .i64 N, .int .i64 S, .int .i64 T, .slice A n c], .slice AL nl cl, .slice AH nh ch, .int .i64 u, .int .u8 (a : Int)] w fun e w' => e = .returned (.bool true) ∧ Below w.heap.size w w' := by
  have hso := fun W hW => some_any N S T A n c 16 40 l W hW hf hnc (by omega) (by omega) (by omega)
  obtain ⟨N1, hN1, hN2, hN3, hck, hln, hmem⟩ := some_net N S T 16 40 l (by omega) (by omega) (by omega)
  rw [hN1] at hso hck hln hmem
  generalize S % (N1 : Int) = S1 at *
  generalize someT (N1 : Int) S T = T1 at *
  generalize someL (N1 : Int) 40 l = l1 at *
  obtain ⟨-, -, -, -, hs0, hs1, ht0, ht1, hst, -, -⟩ := ends_in hck
  obtain ⟨s, rfl⟩ := Int.eq_ofNat_of_zero_le hs0
  obtain ⟨t, rfl⟩ := Int.eq_ofNat_of_zero_le ht0
  have hsN : s < N1 := by omega
  have htN : t < N1 := by omega
  have hst' : s ≠ t := fun e => hst (by rw [e])
  have HST := Lib.hid hst'
  have HSO := Lib.hid hso; have HCK := Lib.hid hck; have HLR := Lib.hid hLR
  have HCAP := Lib.hid fun (x : ArcN) (hx : x ∈ l1) => (show 0 ≤ x.cap ∧ x.cap < 1125899906842624 by have := hmem x hx; omega)
  clear hso hck hN1 hmem hLR hs0 hs1 ht0 ht1 hst hst'
  have HH := Lib.hid hH
  clear hH
  go_enter Try.func3, Try.ntmps3
  go_wp2_with fail
  refine (HSO.out _ (hA.onAlloc _)).mono ?_
  rintro e w1 ⟨A1, n1, c1, rfl, o1, hl1, B1⟩
  have a1 := arcs_own o1 hl1
  have Bw1 := below_step (below_alloc _) B1
  have L1 := (hL.below Bw1).more Bw1.size
  clear B1 o1 hA hL HSO
  go_wp2_with fail
  refine (left_grid_own N1 s t A1 n1 c1 l1 AL nl cl L _ a1 HCK.out L1 HLR.out HCAP.out (by omega) (by omega)).mono ?_
  rintro e w2 ⟨x0, M, K, fst, hd, rv, AX, cX, X, rfl, hG, G2, X2, ⟨hM, hXb⟩, B2, O2, hx1, hx2⟩
  have Bw2 := below_step Bw1 B2
  have HG := Lib.hid hG
  have hXl : X.length = M := X2.len
  have hcx : M ≤ cX := own_cap O2
  clear B2 Bw1 a1 L1 hG hXb HCK HLR HCAP hl1 hln O2
  dsimp only [csrW]
  have C3 : Blk (w2.alloc (.cells #[.int .i64 (N1 : Int), .int .i64 (s : Int), .int .i64 (t : Int), .slice K.AF (N1 + 1) K.cF, .slice K.AH M K.cH, .slice K.AR M K.cR, .slice K.AC M K.cC, .slice K.AA M K.cA, .slice K.AB M K.cB] 29)) w2.heap.size 29 #[.int .i64 (N1 : Int), .int .i64 (s : Int), .int .i64 (t : Int), .slice K.AF (N1 + 1) K.cF, .slice K.AH M K.cH, .slice K.AR M K.cR, .slice K.AC M K.cC, .slice K.AA M K.cA, .slice K.AB M K.cB] := Blk.new rfl
  have G3 := (G2.more hx2).onAlloc (.cells #[.int .i64 (N1 : Int), .int .i64 (s : Int), .int .i64 (t : Int), .slice K.AF (N1 + 1) K.cF, .slice K.AH M K.cH, .slice K.AR M K.cR, .slice K.AC M K.cC, .slice K.AA M K.cA, .slice K.AB M K.cB] 29)
  have X3 := X2.onAlloc (.cells #[.int .i64 (N1 : Int), .int .i64 (s : Int), .int .i64 (t : Int), .slice K.AF (N1 + 1) K.cF, .slice K.AH M K.cH, .slice K.AR M K.cR, .slice K.AC M K.cC, .slice K.AA M K.cA, .slice K.AB M K.cB] 29)
  have Bw3 := Bw2.alloc Bw2.size (.cells #[.int .i64 (N1 : Int), .int .i64 (s : Int), .int .i64 (t : Int), .slice K.AF (N1 + 1) K.cF, .slice K.AH M K.cH, .slice K.AR M K.cR, .slice K.AC M K.cC, .slice K.AA M K.cA, .slice K.AB M K.cB] 29)
  go_upto_if 28 with fail
  generalize w2.alloc (.cells #[.int .i64 (N1 : Int), .int .i64 (s : Int), .int .i64 (t : Int), .slice K.AF (N1 + 1) K.cF, .slice K.AH M K.cH, .slice K.AR M K.cR, .slice K.AC M K.cC, .slice K.AA M K.cA, .slice K.AB M K.cB] 29) = w3 at *
  have hz3 := C3.lt
  clear G2 X2 Bw2
  go_cut [2, 27, 28] (fun s2 _ _ wx => ∃ (A' : Option Addr) (n' c' : Nat) (H : List Int), s2 = .slice A' n' c' ∧ Ints wx wx.heap.size A' n' H ∧ Blk wx w2.heap.size 29 #[.int .i64 (N1 : Int), .int .i64 (s : Int), .int .i64 (t : Int), .slice K.AF (N1 + 1) K.cF, .slice K.AH M K.cH, .slice K.AR M K.cR, .slice K.AC M K.cC, .slice K.AA M K.cA, .slice K.AB M K.cB] ∧ GridIn wx wx.heap.size N1 M K fst hd rv ∧ Ints wx wx.heap.size AX M X ∧ Below w.heap.size w wx)
  case first =>
    by_cases h4 : 0 < (a : Int) % 4
    · obtain ⟨a0, a1, a2, a3, a4, a5, a6, a7, a8⟩ := C3.at9
      have HC3 := Lib.hid C3; have HG3 := Lib.hid G3; have HX3 := Lib.hid X3; have HB3 := Lib.hid Bw3
      clear C3 G3 X3 Bw3
      go_wp2_with fail
      refine (heights_is N1 M s t K AH nh ch LH _ ((HH.out.below HB3.out).more HB3.out.size) hsN htN HST.out (by omega)).mono ?_
      rintro e w4 ⟨gH, rfl, hgH, KH, B4⟩
      have C4 := HC3.out.below B4 HC3.out.lt
      have G4 := HG3.out.on B4
      have X4 := HX3.out.on B4
      have Bw4 := below_step HB3.out B4
      have H4 := KH.ints (L := htAll N1 s t LH) ht_len
      clear a0 a1 a2 a3 a4 a5 a6 a7 a8 KH B4
      go_wp2_with fail
      go_meet
      exact ⟨_, _, _, _, rfl, H4, C4, G4, X4, Bw4⟩
    · have h4d : decide (0 < (a : Int) % 4) = false := decide_eq_false h4
      have H4 := (HH.out.below Bw3).more Bw3.size
      go_wp2_with fail
      go_meet
      exact ⟨_, _, _, _, rfl, H4, C3, G3, X3, Bw3⟩
  case rest =>
    obtain ⟨A4, n4, c4, H, rfl, H4, C4, G4, X4, Bw4⟩ := hcut
    obtain ⟨w4, hw4⟩ := world_of Bw4
    subst hw4
    clear C3 G3 X3 Bw3 HH hz3
    go_upto_if 34 with fail
    go_cut [12, 33, 34] (fun s12 _ _ wx => ∃ (n' : Nat) (Y : List Int), s12 = .slice AX n' cX ∧ Ints wx wx.heap.size AX n' Y ∧ Ints wx wx.heap.size A4 n4 H ∧ Blk wx w2.heap.size 29 #[.int .i64 (N1 : Int), .int .i64 (s : Int), .int .i64 (t : Int), .slice K.AF (N1 + 1) K.cF, .slice K.AH M K.cH, .slice K.AR M K.cR, .slice K.AC M K.cC, .slice K.AA M K.cA, .slice K.AB M K.cB] ∧ GridIn wx wx.heap.size N1 M K fst hd rv ∧ Below w.heap.size w wx)
    case first =>
      by_cases h8 : (a : Int) % 8 = 7
      · have hsl : ∀ W, (Instr.sliceAt 25 (.slice AX M cX) none (some (.int .i64 ((M / 2 : Nat) : Int))) none).run Try.prog W = .ok (.slice AX (M / 2) cX) W := fun W => long_part _ _ _ _ (by omega) _
        go_wp2_with fail
        go_meet
        exact ⟨_, _, rfl, rd_take X4 (k := M / 2) (by omega), H4, C4, G4, Bw4⟩
      · have g1 : decide ((a : Int) % 8 = 7) = false := decide_eq_false h8
        have g3 : ((a : Int) % 8 == 7) = false := beq_eq_false_iff_ne.2 h8
        go_wp2_with fail
        go_meet
        exact ⟨_, _, rfl, X4, H4, C4, G4, Bw4⟩
    case rest =>
      obtain ⟨n5, Y, rfl, Y5, H5, C5, G5, Bw5⟩ := hcut
      obtain ⟨w5, hw5⟩ := world_of Bw5
      subst hw5
      clear C4 G4 X4 Bw4 H4
      have hM8 : M ≤ 100000000 := by omega
      have hN8 : N1 ≤ 4096 := by omega
      obtain ⟨a0, a1, a2, a3, a4, a5, a6, a7, a8⟩ := C5.at9
      have hz5 := C5.lt
      go_wp2_with fail
      refine (lleast_is N1 M s t K fst hd rv AX n5 cX Y A4 n4 c4 H u _ HG.out G5 Y5 H5 hsN htN hN8 hM8).mono ?_
      rintro e w6 ⟨b1, y1, ok1, rfl, hlow1, B6⟩
      have C6 := C5.below B6 C5.lt
      have G6 := G5.on B6
      have Y6 := Y5.on B6
      have H6 := H5.on B6
      have Bw6 := below_step Bw5 B6
      clear C5 G5 Y5 H5 Bw5 B6 a0 a1 a2 a3 a4 a5 a6 a7 a8 hz5
      obtain ⟨a0, a1, a2, a3, a4, a5, a6, a7, a8⟩ := C6.at9
      have hz6 := C6.lt
      go_wp2_with fail
      refine (rleast_is N1 M s t K fst hd rv AX n5 cX Y A4 n4 c4 H u _ HG.out G6 Y6 H6 hsN htN hN8 hM8).mono ?_
      rintro e w7 ⟨b2, y2, ok2, rfl, hlow2, B7⟩
      obtain ⟨rfl, rfl, rfl⟩ := hlow1.same hlow2
      clear hlow1 hlow2
      have C7 := C6.below B7 C6.lt
      have G7 := G6.on B7
      have Y7 := Y6.on B7
      have H7 := H6.on B7
      have Bw7 := below_step Bw6 B7
      clear C6 G6 Y6 H6 Bw6 B7 a0 a1 a2 a3 a4 a5 a6 a7 a8 hz6
      have HC7 := Lib.hid C7; have HG7 := Lib.hid G7; have HY7 := Lib.hid Y7; have HH7 := Lib.hid H7; have HB7 := Lib.hid Bw7
      have hq1 := slps_len (N := N1) (M := M) (s := s) (t := t) (nX := n5) (hd := hd) (rv := rv) (X := Y) (H := H) (q := qSteep)
      have hq2 := slps_len (N := N1) (M := M) (s := s) (t := t) (nX := n5) (hd := hd) (rv := rv) (X := Y) (H := H) (q := qFlat)
      have cr := fun W h => lright_is N1 M s t K A4 n4 c4 H W h hsN htN hN8
      have rr := fun W h => rright_is N1 M s t K A4 n4 c4 H W h hsN htN hN8
      have cs := fun W h1 h2 h3 => lsteep_is N1 M s t K fst hd rv AX n5 cX Y A4 n4 c4 H W HG.out h1 h2 h3 hsN htN hN8 hM8
      have rs := fun W h1 h2 h3 => rsteep_is N1 M s t K fst hd rv AX n5 cX Y A4 n4 c4 H W HG.out h1 h2 h3 hsN htN hN8 hM8
      have cf := fun W h1 h2 h3 => lflat_is N1 M s t K fst hd rv AX n5 cX Y A4 n4 c4 H W HG.out h1 h2 h3 hsN htN hN8 hM8
      have rf := fun W h1 h2 h3 => rflat_is N1 M s t K fst hd rv AX n5 cX Y A4 n4 c4 H W HG.out h1 h2 h3 hsN htN hN8 hM8
      have cv := fun W h1 h2 h3 => lvalid_is N1 M s t K fst hd rv AX n5 cX Y A4 n4 c4 H W HG.out h1 h2 h3 hsN htN hN8 hM8
      have vr := fun W h1 h2 h3 => rvalid_is N1 M s t K fst hd rv AX n5 cX Y A4 n4 c4 H W HG.out h1 h2 h3 hsN htN hN8 hM8
      have cm := fun W h => lsum_is N1 M s t K A4 n4 c4 H W h hsN htN hN8
      have rm := fun W h => rsum_is N1 M s t K A4 n4 c4 H W h hsN htN hN8
      dsimp only [csrW] at cr rr cs rs cf rf cv vr cm rm
      generalize rightB N1 s t H = r at *
      generalize slps N1 M s t n5 hd rv Y H qSteep = L1 at *
      generalize slps N1 M s t n5 hd rv Y H qFlat = L2 at *
      generalize validB N1 M s t n5 hd rv Y H = vb at *
      generalize htSum N1 s t H = sm at *
      have CR := Lib.hid cr; have RR := Lib.hid rr; have CS := Lib.hid cs; have RS := Lib.hid rs; have CF := Lib.hid cf; have RF := Lib.hid rf; have CV := Lib.hid cv; have VR := Lib.hid vr; have CM := Lib.hid cm; have RM := Lib.hid rm
      clear C7 G7 Y7 H7 Bw7 cr rr cs rs cf rf cv vr cm rm
      go_upto_region 8 with fail
      simp only [List.append]
      go_region_held3 (fun W => Below w7.heap.size w7 W ∧ W.cell? ⟨w2.heap.size, 0, none⟩ = some (.int .i64 (N1 : Int)) ∧ W.cell? ⟨w2.heap.size, 1, none⟩ = some (.int .i64 (s : Int)) ∧ W.cell? ⟨w2.heap.size, 2, none⟩ = some (.int .i64 (t : Int)) ∧ W.cell? ⟨w2.heap.size, 3, none⟩ = some (.slice K.AF (N1 + 1) K.cF) ∧ W.cell? ⟨w2.heap.size, 4, none⟩ = some (.slice K.AH M K.cH) ∧ W.cell? ⟨w2.heap.size, 5, none⟩ = some (.slice K.AR M K.cR) ∧ W.cell? ⟨w2.heap.size, 6, none⟩ = some (.slice K.AC M K.cC) ∧ W.cell? ⟨w2.heap.size, 7, none⟩ = some (.slice K.AA M K.cA) ∧ W.cell? ⟨w2.heap.size, 8, none⟩ = some (.slice K.AB M K.cB))
        (first
          | exact csr_keep HC7.out (Below.refl _ _).drew
          | (go_split_ands
             exact csr_keep HC7.out (by refine below_step ?_ (by assumption); assumption)))
        (first
          | (go_at_call 13; go_split_ands; ((with_reducible refine (CR.out _ (HH7.out.on (by assumption))).mono ?_); rintro e W1 ⟨rfl, B1⟩))
          | (go_at_call 14; go_split_ands; ((with_reducible refine (RR.out _ (HH7.out.on (by assumption))).mono ?_); rintro e W2 ⟨rfl, B2⟩))
          | (go_at_call 16; go_split_ands; ((with_reducible refine (CS.out _ (HG7.out.on (by assumption)) (HY7.out.on (by assumption)) (HH7.out.on (by assumption))).mono ?_); rintro e W3 ⟨AQ1, cQ1, rfl, hO1, B3⟩; have I1 := own_nums hO1; clear hO1))
          | (go_at_call 17; go_split_ands; ((with_reducible refine (RS.out _ (HG7.out.on (by assumption)) (HY7.out.on (by assumption)) (HH7.out.on (by assumption))).mono ?_); rintro e W4 ⟨AQ2, cQ2, rfl, hO2, B4⟩; have I2 := own_nums hO2; have J1 := Lib.hid (I1.on B4); have J2 := Lib.hid I2; clear hO2 I1 I2))
          | (go_at_call 15; go_split_ands; ((with_reducible refine (ints_is _ _ J1.out J2.out (by omega) (by omega) (v := true) (decide_eq_true rfl)).mono ?_); rintro e W5 ⟨rfl, B5⟩))
          | (go_at_call 18; go_split_ands; ((with_reducible refine (CF.out _ (HG7.out.on (by assumption)) (HY7.out.on (by assumption)) (HH7.out.on (by assumption))).mono ?_); rintro e W6 ⟨AQ3, cQ3, rfl, hO3, B6⟩; have I3 := own_nums hO3; clear hO3))
          | (go_at_call 19; go_split_ands; ((with_reducible refine (RF.out _ (HG7.out.on (by assumption)) (HY7.out.on (by assumption)) (HH7.out.on (by assumption))).mono ?_); rintro e W7 ⟨AQ4, cQ4, rfl, hO4, B7⟩; have I4 := own_nums hO4; have J3 := Lib.hid (I3.on B7); have J4 := Lib.hid I4; clear hO4 I3 I4))
          | (go_at_call 15; go_split_ands; ((with_reducible refine (ints_is _ _ J3.out J4.out (by omega) (by omega) (v := true) (decide_eq_true rfl)).mono ?_); rintro e W8 ⟨rfl, B8⟩))
          | (go_at_call 20; go_split_ands; ((with_reducible refine (CV.out _ (HG7.out.on (by assumption)) (HY7.out.on (by assumption)) (HH7.out.on (by assumption))).mono ?_); rintro e W9 ⟨rfl, B9⟩))
          | (go_at_call 21; go_split_ands; ((with_reducible refine (VR.out _ (HG7.out.on (by assumption)) (HY7.out.on (by assumption)) (HH7.out.on (by assumption))).mono ?_); rintro e W10 ⟨rfl, B10⟩))
          | (go_at_call 22; go_split_ands; ((with_reducible refine (CM.out _ (HH7.out.on (by assumption))).mono ?_); rintro e W11 ⟨rfl, B11⟩))
          | (go_at_call 23; go_split_ands; ((with_reducible refine (RM.out _ (HH7.out.on (by assumption))).mono ?_); rintro e W12 ⟨rfl, B12⟩))
          | (go_at_call 24; go_split_ands; ((with_reducible refine (awake6_any _).mono ?_); rintro e W13 ⟨rfl, B13⟩)))
      go_split_ands
      go_wp2_with fail
      go_ret
      exact ⟨rfl, below_step HB7.out (by assumption)⟩

end Go.Proofs.Ytnhfdmfciddmaaa
