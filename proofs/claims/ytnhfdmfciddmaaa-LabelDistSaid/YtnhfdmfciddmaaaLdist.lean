/- LabelDist: the walk. -/
import Derived.Test.YtnhfdmfciddmaaaLabq
namespace Go.Proofs.Ytnhfdmfciddmaaa
open Go.RowKit
set_option maxRecDepth 100000

set_option maxHeartbeats 16000000 in
theorem ldist_walk (N S T : Int) (A : Option Addr) (n c : Nat) (l : List ArcN) (AL : Option Addr) (nl cl : Nat) (L : List Int) (AH : Option Addr) (nh ch : Nat) (LH : List Int) (w : World) (hA : Arcs w w.heap.size A n l) (hf : FitsAll l) (hnc : n ≤ c) (hL : Ints w w.heap.size AL nl L) (hLR : ∀ x ∈ L, InR x) (hH : Ints w w.heap.size AH nh LH) :
    Calls Try.prog 4 #[.agg #[.int .i64 N, .int .i64 S, .int .i64 T, .slice A n c], .slice AL nl cl, .slice AH nh ch] w fun e w' => e = .returned (.bool true) ∧ Below w.heap.size w w' := by
  have hso := fun W hW => some_any N S T A n c 16 40 l W hW hf hnc (by omega) (by omega) (by omega)
  obtain ⟨N1, hN1, hN2, hN3, hck, hln, hmem⟩ := some_net N S T 16 40 l (by omega) (by omega) (by omega)
  rw [hN1] at hso hck hln hmem
  generalize S % (N1 : Int) = S1 at *
  generalize someT (N1 : Int) S T = T1 at *
  generalize someL (N1 : Int) 40 l = l1 at *
  obtain ⟨-, -, -, -, hs0, hs1, ht0, ht1, hst, -, -⟩ := ends_in hck
  obtain ⟨s, rfl⟩ := Int.eq_ofNat_of_zero_le hs0
  obtain ⟨t, rfl⟩ := Int.eq_ofNat_of_zero_le ht0
  have hsN : s < N1 := by omega
  have htN : t < N1 := by omega
  have hst' : s ≠ t := fun e => hst (by rw [e])
  have HST := Lib.hid hst'
  have HSO := Lib.hid hso; have HCK := Lib.hid hck; have HLR := Lib.hid hLR
  have HCAP := Lib.hid fun (x : ArcN) (hx : x ∈ l1) => (show 0 ≤ x.cap ∧ x.cap < 1125899906842624 by have := hmem x hx; omega)
  clear hso hck hN1 hmem hLR hs0 hs1 ht0 ht1 hst hst'
  have HH := Lib.hid hH
  clear hH
  go_enter Try.func4, Try.ntmps4
  go_wp2_with fail
  refine (HSO.out _ (hA.onAlloc _)).mono ?_
  rintro e w1 ⟨A1, n1, c1, rfl, o1, hl1, B1⟩
  have a1 := arcs_own o1 hl1
  have Bw1 := below_step (below_alloc _) B1
  have L1 := (hL.below Bw1).more Bw1.size
  clear B1 o1 hA hL HSO
  go_wp2_with fail
  refine (left_grid_own N1 s t A1 n1 c1 l1 AL nl cl L _ a1 HCK.out L1 HLR.out HCAP.out (by omega) (by omega)).mono ?_
  rintro e w2 ⟨x0, M, K, fst, hd, rv, AX, cX, X, rfl, hG, G2, X2, ⟨hM, hXb⟩, B2, O2, hx1, hx2⟩
  obtain ⟨AF, cF, AH', cH, AR, cR, AC, cC, AA, cA, AB, cB⟩ := K
  obtain ⟨bF, oF, hF⟩ := G2.iF.adr (by omega)
  dsimp only at hF
  subst hF
  have Bw2 := below_step Bw1 B2
  have HG := Lib.hid hG
  have hXl : X.length = M := X2.len
  have hcx : M ≤ cX := own_cap O2
  have hx3 : w.heap.size ≤ x0 := Nat.le_trans Bw1.size hx1
  clear B2 Bw1 a1 L1 hG HCK HLR HCAP hl1 hln hx1
  dsimp only [csrW]
  have C3 : Blk (w2.alloc (.cells #[.int .i64 (N1 : Int), .int .i64 (s : Int), .int .i64 (t : Int), .slice (some ⟨bF, oF, none⟩) (N1 + 1) cF, .slice AH' M cH, .slice AR M cR, .slice AC M cC, .slice AA M cA, .slice AB M cB] 29)) w2.heap.size 29 #[.int .i64 (N1 : Int), .int .i64 (s : Int), .int .i64 (t : Int), .slice (some ⟨bF, oF, none⟩) (N1 + 1) cF, .slice AH' M cH, .slice AR M cR, .slice AC M cC, .slice AA M cA, .slice AB M cB] := Blk.new rfl
  have G3 := G2.below ((below_alloc (w := w2) (.cells #[.int .i64 (N1 : Int), .int .i64 (s : Int), .int .i64 (t : Int), .slice (some ⟨bF, oF, none⟩) (N1 + 1) cF, .slice AH' M cH, .slice AR M cR, .slice AC M cC, .slice AA M cA, .slice AB M cB] 29)).mono hx2)
  have X3 := X2.onAlloc (.cells #[.int .i64 (N1 : Int), .int .i64 (s : Int), .int .i64 (t : Int), .slice (some ⟨bF, oF, none⟩) (N1 + 1) cF, .slice AH' M cH, .slice AR M cR, .slice AC M cC, .slice AA M cA, .slice AB M cB] 29)
  have O3 := O2.alloc (.cells #[.int .i64 (N1 : Int), .int .i64 (s : Int), .int .i64 (t : Int), .slice (some ⟨bF, oF, none⟩) (N1 + 1) cF, .slice AH' M cH, .slice AR M cR, .slice AC M cC, .slice AA M cA, .slice AB M cB] 29)
  have Bw3 := Bw2.alloc Bw2.size (.cells #[.int .i64 (N1 : Int), .int .i64 (s : Int), .int .i64 (t : Int), .slice (some ⟨bF, oF, none⟩) (N1 + 1) cF, .slice AH' M cH, .slice AR M cR, .slice AC M cC, .slice AA M cA, .slice AB M cB] 29)
  have hx4 : x0 ≤ w2.heap.size := hx2
  have hM8 : M ≤ 100000000 := by omega
  have hN8 : N1 ≤ 4096 := by omega
  go_upto_region 2 with fail
  have hz3 := C3.lt
  generalize hw3 : w2.alloc (.cells #[.int .i64 (N1 : Int), .int .i64 (s : Int), .int .i64 (t : Int), .slice (some ⟨bF, oF, none⟩) (N1 + 1) cF, .slice AH' M cH, .slice AR M cR, .slice AC M cC, .slice AA M cA, .slice AB M cB] 29) = w3 at *
  have hx5 : w3.heap.size = w2.heap.size + 1 := by rw [← hw3]; simp
  clear G2 X2 O2 Bw2 hw3 hx2
  obtain ⟨a0, a1, a2, a3, a4, a5, a6, a7, a8⟩ := C3.at9
  have HC3 := Lib.hid C3; have HG3 := Lib.hid G3; have HX3 := Lib.hid X3; have HB3 := Lib.hid Bw3; have HO3 := Lib.hid O3; have HS5 := Lib.hid hx5
  clear C3 G3 X3 Bw3 O3 hx5
  go_wp2_with fail
  refine (heights_is N1 M s t ⟨some ⟨bF, oF, none⟩, cF, AH', cH, AR, cR, AC, cC, AA, cA, AB, cB⟩ AH nh ch LH _ ((HH.out.below HB3.out).more HB3.out.size) hsN htN HST.out hN8).mono ?_
  rintro e w4 ⟨gH, rfl, hgH, KH, B4⟩
  have HC4 := Lib.hid (HC3.out.below B4 HC3.out.lt)
  have HGX4 := Lib.hid (HG3.out.below (B4.mono (by have := HS5.out; omega)))
  have HG4 := Lib.hid (HGX4.out.more (show x0 ≤ w4.heap.size by have := HS5.out; have := B4.size; omega))
  have HX4 := Lib.hid (HX3.out.on B4)
  have HB4 := Lib.hid (below_step HB3.out B4)
  have HO4 := Lib.hid (orow_on HO3.out B4)
  have HZ4 := Lib.hid B4.size
  obtain ⟨H, hHdef⟩ : ∃ H, htAll N1 s t LH = H := ⟨_, rfl⟩
  have HI := Lib.hid (show HtIs N1 s t H by rw [← hHdef]; exact ht_is hsN htN HST.out)
  rw [hHdef] at KH
  have HKH := Lib.hid KH
  clear a0 a1 a2 a3 a4 a5 a6 a7 a8 B4 KH hHdef HC3 HG3 HX3 HB3 HO3 hz3
  obtain ⟨i0, hi, hz0, hz1, hz2⟩ := info_parts long_info
  have HJ := Lib.hid hi; have HZ0 := Lib.hid hz0; have HZ1 := Lib.hid hz1; have HZ2 := Lib.hid hz2
  clear hi hz0 hz1 hz2
  go_wp2_with (at_builtin; refine wpList_append_row _ rfl (.tmp 23) (.tmp 24) _ rfl w4.heap.size 2 i0 _ 1 8 Try.underlying25 HJ.out HZ0.out HZ1.out HZ2.out rfl (by omega) (some ⟨w4.heap.size, 0, none⟩) 0 0 [] rfl (own_none8 w4) AX M cX (X.flatMap intCells) rfl ?_ ?_ int_one ?_ ?_ ?_ ?_)
  · rw [flat_len (int_len X), hXl]
  · exact RdBy.src (int_len X) (HX4.out.onAlloc _)
  · unfold maxLen; omega
  · omega
  · simp
  intro A5 c5 w5 HO5 hg5 HX5
  have B5 : Below w4.heap.size w4 w5 := below_grown (below_alloc (w := w4) (.cells #[] 2)) hg5 (own_none8 w4) (Nat.le_refl _) (by simp)
  have ho5 : w5.ownsRow w4.heap.size 2 1 (.slice A5 M c5) M (X.map (Value.int .i64)) := by
    have h := HO5.out
    try rw [List.nil_append, Nat.zero_add] at h
    rw [← ivs_flat] at h
    exact h
  have hx5 := Hx.one ho5 B5.size B5
  have HX5' := Lib.hid hx5
  try rw [Nat.zero_add]
  clear hg5 HX5 HO5 ho5 hx5 HJ HZ0 HZ1 HZ2
  have C5 := HC4.out.below B5 HC4.out.lt
  have G5 := HG4.out.on B5
  obtain ⟨hbF, cf⟩ := tab_cell G5.iF (k := s) (by omega)
  have hf1 := HG.out.mono s hsN
  have hf2 := HG.out.fle (v := s + 1) (by omega)
  obtain ⟨fa, hfa⟩ : ∃ fa, fst s = fa := ⟨_, rfl⟩
  obtain ⟨z, hz⟩ : ∃ z, fst (s + 1) = z := ⟨_, rfl⟩
  rw [hfa] at cf hf1
  rw [hz] at hf1 hf2
  have HFA := Lib.hid hfa; have HZZ := Lib.hid hz
  clear hfa hz B5
  obtain ⟨a0, a1, a2, a3, a4, a5, a6, a7, a8⟩ := C5.at9
  have hz5 := C5.lt
  clear C5 G5
  go_wp2_with fail
  clear a0 a1 a2 a3 a4 a5 a6 a7 a8 hz5 cf hbF
  have hcs : closeTo M fa fa X = X := close_start hXl
  go_loopw [10] (fun i wr => ∃ k : Nat, fa ≤ k ∧ k ≤ z ∧ i = .int .i64 k ∧ Hx w4 wr w4.heap.size [⟨2, A5, M, c5, (closeTo M fa k X).map (Value.int .i64)⟩]) (fun i _ => z - (intOf i).toNat)
  case atStart => exact ⟨fa, Nat.le_refl _, hf1, rfl, by rw [hcs]; exact HX5'.out⟩
  case round =>
    obtain ⟨k, hk0, hk1, rfl, hx⟩ := hrel
    have HXR := Lib.hid hx
    have Bw := hx.bel
    have C6 := HC4.out.below Bw HC4.out.lt
    have G6 := HG4.out.on Bw
    obtain ⟨a0, a1, a2, a3, a4, a5, a6, a7, a8⟩ := C6.at9
    have hz6 := C6.lt
    obtain ⟨hbF, cz⟩ := tab_cell G6.iF (k := s + 1) (by omega)
    rw [HZZ.out] at cz
    clear hx C6 G6 hcs HX5'
    by_cases hlt : k < z
    · have hkM : k < M := by omega
      obtain ⟨g, hAg⟩ := HXR.out.held.radr (i := 0) rfl (by omega)
      subst hAg
      obtain ⟨yk, hyk⟩ : ∃ y, (closeTo M fa k X)[k]? = some y := ⟨_, List.getElem?_eq_getElem (by unfold closeTo; rw [tab_len]; exact hkM)⟩
      obtain ⟨cg, fg, hgl, hgb⟩ := HXR.out.cell (i := 0) rfl hkM (u := .int .i64 yk) (by rw [List.getElem?_map, hyk]; rfl)
      have hput := close_put (X := X) (M := M) hk0
      have HX7 := Lib.hid (HXR.out.puti k 0)
      rw [hput] at HX7
      clear hput hyk Bw
      go_wp2_with fail
      go_roundw
      case rel => exact ⟨k + 1, by omega, by omega, by go_num, HX7.out⟩
      case measure => simp [intOf]; omega
    · obtain rfl : k = z := by omega
      have hout := HXR.out.held.ints (i := 0) rfl (show (closeTo M fa k X).length = M from tab_len _ _)
      have HOUT := Lib.hid hout
      have HC6 := Lib.hid (HC4.out.below Bw HC4.out.lt); have HG6 := Lib.hid (HG4.out.on Bw); have HX6 := Lib.hid (HX4.out.on Bw)
      have HKH6 := Lib.hid (HKH.out.below Bw HKH.out.lt)
      have HB6 := Lib.hid (below_step HB4.out Bw)
      clear hout Bw HXR HC4 HG4 HX4 HKH HB4 HO4
      go_wp2_with fail
      clear a0 a1 a2 a3 a4 a5 a6 a7 a8 hz6 cz hbF
      refine (to_dist_own N1 M s t ⟨some ⟨bF, oF, none⟩, cF, AH', cH, AR, cR, AC, cC, AA, cA, AB, cB⟩ fst hd rv A5 c5 (closeTo M fa k X) t _ HG.out HG6.out HOUT.out hM8 hN8 htN).mono ?_
      rintro e w7 ⟨g, d, rfl, O7, hD, B7⟩
      have hfar : FarIs N1 M s t hd rv X d := by
        rw [← HFA.out, ← HZZ.out] at hD
        exact far_of HG.out hsN hD
      have HFAR := Lib.hid hfar
      have hx7 := Hx.one O7 B7.size B7
      have HX7 := Lib.hid hx7
      have HC7 := Lib.hid (HC6.out.below B7 HC6.out.lt); have HG7 := Lib.hid (HG6.out.on B7); have HY7 := Lib.hid (HX6.out.on B7)
      have HKH7 := Lib.hid (HKH6.out.below B7 HKH6.out.lt)
      have HB7 := Lib.hid (below_step HB6.out B7)
      clear hfar hx7 hD O7 B7 HKH6 HOUT
      obtain ⟨a0, a1, a2, a3, a4, a5, a6, a7, a8⟩ := HC7.out.at9
      have hz7 := HC7.out.lt
      have hH7 := HKH7.out.ints HI.out.len
      have HH7 := Lib.hid hH7
      clear hH7
      go_wp2_with fail
      refine (lvalid_is N1 M s t ⟨some ⟨bF, oF, none⟩, cF, AH', cH, AR, cR, AC, cC, AA, cA, AB, cB⟩ fst hd rv AX M cX X (some ⟨gH, 0, none⟩) N1 N1 H _ HG.out HG7.out HY7.out HH7.out hsN htN hN8 hM8).mono ?_
      rintro e w8 ⟨rfl, B8⟩
      have HX8 := Lib.hid (HX7.out.on B8)
      have HC8 := Lib.hid (HC7.out.below B8 HC7.out.lt); have HG8 := Lib.hid (HG7.out.on B8); have HY8 := Lib.hid (HY7.out.on B8)
      have HH8 := Lib.hid (HH7.out.on B8)
      have HB8 := Lib.hid (below_step HB7.out B8)
      clear B8 HX7 HC7 HG7 HY7 HH7 HB7 HKH7 a0 a1 a2 a3 a4 a5 a6 a7 a8 hz7
      obtain ⟨vb, hvb⟩ : ∃ vb, validB N1 M s t M hd rv X H = vb := ⟨_, rfl⟩
      have HVB := Lib.hid hvb
      rw [hvb]
      clear hvb
      obtain ⟨a0, a1, a2, a3, a4, a5, a6, a7, a8⟩ := HC8.out.at9
      have hz8 := HC8.out.lt
      go_upto_if 59 with fail
      go_cut [12] (fun _ wx => Below w8.heap.size w8 wx)
      case first =>
        cases vb with
        | false =>
          go_wp2_with fail
          go_meet
          exact Below.refl _ _
        | true =>
          go_wp2_with fail
          go_loopw [12, 62] (fun _ i wr => ∃ v : Nat, v ≤ N1 ∧ i = .int .i64 v ∧ Below w8.heap.size w8 wr) (fun _ i _ => N1 - (intOf i).toNat)
          case atStart => exact ⟨0, Nat.zero_le _, rfl, Below.refl _ _⟩
          case round =>
            obtain ⟨v, hv, rfl, Bw⟩ := hrel
            have HBW := Lib.hid Bw
            have C9 := HC8.out.below Bw HC8.out.lt
            obtain ⟨b0, b1, b2, b3, b4, b5, b6, b7, b8⟩ := C9.at9
            have hz9 := C9.lt
            have hzw := Bw.size
            by_cases hlt : v < N1
            · obtain ⟨hbH, ch⟩ := (HH8.out.on Bw).cel (hOf_get HI.out.len hlt)
              rw [Nat.zero_add] at ch
              have HX9 := HX8.out.on Bw
              obtain ⟨cd, fd, hgl, hgb⟩ := HX9.cell (i := 0) rfl hlt (fvs_at hlt)
              have hov := HFAR.out.over HG.out HVB.out (d v) v (Nat.le_refl _) hlt
              have hle : ¬ (d v : Int) < hOf H v := by omega
              have hled : decide ((d v : Int) < hOf H v) = false := decide_eq_false hle
              generalize hOf H v = y at *
              clear Bw C9 HX9 hov a0 a1 a2 a3 a4 a5 a6 a7 a8 hz8
              by_cases hvs : v = s
              · subst hvs
                go_wp2_with fail
                go_quiet (fail)
                go_wp2_with fail
                go_roundw
                case rel => exact ⟨v + 1, by omega, by go_num, below_drewN' HBW.out _⟩
                case measure => simp [intOf]; omega
              · have hvs1 : ¬ (v : Int) = (s : Int) := by omega
                have hvs2 : ((v : Int) == (s : Int)) = false := beq_false_of_ne hvs1
                have hvs3 : decide ((v : Int) = (s : Int)) = false := decide_eq_false hvs1
                go_wp2_with fail
                go_quiet (fail)
                go_wp2_with fail
                go_roundw
                case rel => exact ⟨v + 1, by omega, by go_num, below_drewN' HBW.out _⟩
                case measure => simp [intOf]; omega
            · clear a0 a1 a2 a3 a4 a5 a6 a7 a8 hz8 C9 Bw
              go_wp2_with fail
              go_meet
              exact HBW.out
      case rest =>
        obtain ⟨w9, hw9⟩ := world_of hcut
        subst hw9
        have HX9 := Lib.hid (HX8.out.on hcut)
        have HC9 := Lib.hid (HC8.out.below hcut HC8.out.lt); have HG9 := Lib.hid (HG8.out.on hcut); have HY9 := Lib.hid (HY8.out.on hcut)
        have HB9 := Lib.hid (below_step HB8.out hcut)
        have HBB := Lib.hid hcut
        clear a0 a1 a2 a3 a4 a5 a6 a7 a8 hz8
        obtain ⟨a0, a1, a2, a3, a4, a5, a6, a7, a8⟩ := HC9.out.at9
        have hz9 := HC9.out.lt
        obtain ⟨cd, fd, hgl, hgb⟩ := HX9.out.cell (i := 0) rfl hsN (fvs_at hsN)
        have HHT := Lib.hid (HFAR.out.htis hsN htN HST.out)
        have HVD := Lib.hid (HFAR.out.valid HG.out hsN htN HST.out)
        have HXP := Lib.hid (HX9.out.put (i := 0) rfl s (.int .i64 (N1 : Int)))
        have hsame : (fvs N1 d).set s (.int .i64 (N1 : Int)) = fvs N1 d := by
          rw [fvs_set]
          unfold fvs
          congr 1
          refine tab_congr fun v hv => ?_
          by_cases e : v = s
          · subst e; rw [nupd_at]; exact (HFAR.out.src hsN HST.out).symm
          · rw [nupd_ne e]
        have hxp := HXP.out
        simp only [List.set_cons_zero] at hxp
        rw [hsame, fvs_ints] at hxp
        have hD9 := hxp.held.ints (i := 0) rfl (show (farH N1 d).length = N1 from tab_len _ _)
        have HD9 := Lib.hid hD9
        have hrt := rightB_yes.2 HHT.out
        have hvd := HVD.out
        have hst9 := valid_steep HVD.out
        have HRT := Lib.hid hrt; have HSN := Lib.hid hst9
        have hbx := hxp.bel
        have HC10 := Lib.hid (HC6.out.below hbx HC6.out.lt); have HG10 := Lib.hid (HG6.out.on hbx); have HY10 := Lib.hid (HX6.out.on hbx); have HB10 := Lib.hid (below_step HB6.out hbx)
        clear hrt hvd hst9 hbx hxp hsame hD9 HXP hcut HX9 HG9 HY9 HB9 HBB HHT
        go_upto_region 19 with fail
        clear a0 a1 a2 a3 a4 a5 a6 a7 a8 hz9 cd fd hgl hgb
        generalize w9.setCell ⟨g, s, none⟩ (.int .i64 (N1 : Int)) = w10 at *
        obtain ⟨a0, a1, a2, a3, a4, a5, a6, a7, a8⟩ := HC10.out.at9
        have hz10 := HC10.out.lt
        go_wp2_with fail
        refine (lright_is N1 M s t ⟨some ⟨bF, oF, none⟩, cF, AH', cH, AR, cR, AC, cC, AA, cA, AB, cB⟩ (some ⟨g, 0, none⟩) N1 N1 (farH N1 d) _ HD9.out hsN htN hN8).mono ?_
        rw [HRT.out]
        rintro e w11 ⟨rfl, B11⟩
        have HC11 := Lib.hid (HC10.out.below B11 HC10.out.lt); have HG11 := Lib.hid (HG10.out.on B11); have HY11 := Lib.hid (HY10.out.on B11); have HB11 := Lib.hid (below_step HB10.out B11); have HD11 := Lib.hid (HD9.out.on B11)
        clear B11 a0 a1 a2 a3 a4 a5 a6 a7 a8 hz10
        obtain ⟨a0, a1, a2, a3, a4, a5, a6, a7, a8⟩ := HC11.out.at9
        have hz11 := HC11.out.lt
        go_wp2_with fail
        refine (lvalid_is N1 M s t ⟨some ⟨bF, oF, none⟩, cF, AH', cH, AR, cR, AC, cC, AA, cA, AB, cB⟩ fst hd rv AX M cX X (some ⟨g, 0, none⟩) N1 N1 (farH N1 d) _ HG.out HG11.out HY11.out HD11.out hsN htN hN8 hM8).mono ?_
        rw [HVD.out]
        rintro e w12 ⟨rfl, B12⟩
        have HC12 := Lib.hid (HC11.out.below B12 HC11.out.lt); have HG12 := Lib.hid (HG11.out.on B12); have HY12 := Lib.hid (HY11.out.on B12); have HB12 := Lib.hid (below_step HB11.out B12); have HD12 := Lib.hid (HD11.out.on B12)
        clear B12 a0 a1 a2 a3 a4 a5 a6 a7 a8 hz11
        obtain ⟨a0, a1, a2, a3, a4, a5, a6, a7, a8⟩ := HC12.out.at9
        have hz12 := HC12.out.lt
        go_wp2_with fail
        refine (lsteep_is N1 M s t ⟨some ⟨bF, oF, none⟩, cF, AH', cH, AR, cR, AC, cC, AA, cA, AB, cB⟩ fst hd rv AX M cX X (some ⟨g, 0, none⟩) N1 N1 (farH N1 d) _ HG.out HG12.out HY12.out HD12.out hsN htN hN8 hM8).mono ?_
        rw [HSN.out]
        rintro e w13 ⟨AQ, cQ, rfl, -, B13⟩
        have HB13 := Lib.hid (below_step HB12.out B13)
        clear B13 a0 a1 a2 a3 a4 a5 a6 a7 a8 hz12
        go_wp2_with fail
        refine (awake6_any _).mono ?_
        rintro e w14 ⟨rfl, B14⟩
        have HB14 := Lib.hid (below_step HB13.out B14)
        clear B14
        go_wp2_with fail
        go_ret
        exact ⟨rfl, HB14.out⟩

end Go.Proofs.Ytnhfdmfciddmaaa
