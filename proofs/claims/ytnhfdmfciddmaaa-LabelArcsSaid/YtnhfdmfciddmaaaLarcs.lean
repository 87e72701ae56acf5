/- LabelArcs: the walk. -/
import Derived.Test.YtnhfdmfciddmaaaLabm
namespace Go.Proofs.Ytnhfdmfciddmaaa
open Go.RowKit Go.Maps
set_option maxRecDepth 100000

theorem kind_is {M s : Nat} {hd rv : Nat → Nat} {X H : List Int} {L1 L2 : List Nat} {a : Nat} (h1 : ∀ a, a ∈ L1 ↔ a < M ∧ opn X a = true ∧ hd (rv a) ≠ s ∧ qSteep (hOf H (hd (rv a)) - hOf H (hd a)) = true) (h2 : ∀ a, a ∈ L2 ↔ a < M ∧ opn X a = true ∧ hd (rv a) ≠ s ∧ qFlat (hOf H (hd (rv a)) - hOf H (hd a)) = true) (ha : a < M) :
    (mkTo L2 2 (mkTo L1 1 (fun _ => none) L1.length) L2.length (a : Int)).getD 0 = if opn X a = true ∧ hd (rv a) ≠ s ∧ 0 < hOf H (hd (rv a)) - hOf H (hd a) then (if 1 < hOf H (hd (rv a)) - hOf H (hd a) then 1 else 2) else 0 := by
  rw [mk_all, mk_all]
  have e1 := h1 a; have e2 := h2 a
  unfold qSteep at e1
  unfold qFlat at e2
  rw [decide_eq_true_eq] at e1 e2
  by_cases c2 : a ∈ L2
  · obtain ⟨-, g1, g2, g3⟩ := e2.1 c2
    rw [if_pos (nat_mem.2 c2), if_pos ⟨g1, g2, by omega⟩, if_neg (by omega)]
    rfl
  · rw [if_neg (fun h => c2 (nat_mem.1 h))]
    by_cases c1 : a ∈ L1
    · obtain ⟨-, g1, g2, g3⟩ := e1.1 c1
      rw [if_pos (nat_mem.2 c1), if_pos ⟨g1, g2, by omega⟩, if_pos g3]
      rfl
    · rw [if_neg (fun h => c1 (nat_mem.1 h)), if_neg]
      · rfl
      · rintro ⟨g1, g2, g3⟩
        by_cases g4 : 1 < hOf H (hd (rv a)) - hOf H (hd a)
        · exact c1 (e1.2 ⟨ha, g1, g2, g4⟩)
        · exact c2 (e2.2 ⟨ha, g1, g2, by omega⟩)

set_option maxHeartbeats 16000000 in
theorem larcs_walk (N S T : Int) (A : Option Addr) (n c : Nat) (l : List ArcN) (AL : Option Addr) (nl cl : Nat) (L : List Int) (AH : Option Addr) (nh ch : Nat) (LH : List Int) (at8 : Nat) (w : World) (hA : Arcs w w.heap.size A n l) (hf : FitsAll l) (hnc : n ≤ c) (hL : Ints w w.heap.size AL nl L) (hLR : ∀ x ∈ L, InR x) (hH : Ints w w.heap.size AH nh LH) (ha : at8 ≤ 255) :
    Calls Try.prog 6 #[.agg #[.int .i64 N, .int .i64 S, .int .i64 T, .slice A n c], .slice AL nl cl, .slice AH nh ch, .int .u8 (at8 : Int)] w fun e w' => e = .returned (.bool true) ∧ Below w.heap.size w w' := by
  have hso := fun W hW => some_any N S T A n c 16 40 l W hW hf hnc (by omega) (by omega) (by omega)
  obtain ⟨N1, hN1, hN2, hN3, hck, hln, hmem⟩ := some_net N S T 16 40 l (by omega) (by omega) (by omega)
  rw [hN1] at hso hck hln hmem
  generalize S % (N1 : Int) = S1 at *
  generalize someT (N1 : Int) S T = T1 at *
  generalize someL (N1 : Int) 40 l = l1 at *
  obtain ⟨-, -, -, -, hs0, hs1, ht0, ht1, hst, -, -⟩ := ends_in hck
  obtain ⟨s, rfl⟩ := Int.eq_ofNat_of_zero_le hs0
  obtain ⟨t, rfl⟩ := Int.eq_ofNat_of_zero_le ht0
  have hsN : s < N1 := by omega
  have htN : t < N1 := by omega
  have hst' : s ≠ t := fun e => hst (by rw [e])
  have HST := Lib.hid hst'
  have HSO := Lib.hid hso; have HCK := Lib.hid hck; have HLR := Lib.hid hLR
  have HCAP := Lib.hid fun (x : ArcN) (hx : x ∈ l1) => (show 0 ≤ x.cap ∧ x.cap < 1125899906842624 by have := hmem x hx; omega)
  clear hso hck hN1 hmem hLR hs0 hs1 ht0 ht1 hst hst'
  have HH := Lib.hid hH
  clear hH
  go_enter Try.func6, Try.ntmps6
  go_wp2_with fail
  refine (HSO.out _ (hA.onAlloc _)).mono ?_
  rintro e w1 ⟨A1, n1, c1, rfl, o1, hl1, B1⟩
  have a1 := arcs_own o1 hl1
  have Bw1 := below_step (below_alloc _) B1
  have L1 := (hL.below Bw1).more Bw1.size
  clear B1 o1 hA hL HSO
  go_wp2_with fail
  refine (left_grid_own N1 s t A1 n1 c1 l1 AL nl cl L _ a1 HCK.out L1 HLR.out HCAP.out (by omega) (by omega)).mono ?_
  rintro e w2 ⟨x0, M, K, fst, hd, rv, AX, cX, X, rfl, hG, G2, X2, ⟨hM, hXb⟩, B2, O2, hx1, hx2⟩
  obtain ⟨AF, cF, AH', cH, AR, cR, AC, cC, AA, cA, AB, cB⟩ := K
  obtain ⟨bF, oF, hF⟩ := G2.iF.adr (by omega)
  dsimp only at hF
  subst hF
  have Bw2 := below_step Bw1 B2
  have HG := Lib.hid hG
  have hXl : X.length = M := X2.len
  have hcx : M ≤ cX := own_cap O2
  have hx3 : w.heap.size ≤ x0 := Nat.le_trans Bw1.size hx1
  clear B2 Bw1 a1 L1 hG HCK HLR HCAP hl1 hln hx1
  dsimp only [csrW]
  have C3 : Blk (w2.alloc (.cells #[.int .i64 (N1 : Int), .int .i64 (s : Int), .int .i64 (t : Int), .slice (some ⟨bF, oF, none⟩) (N1 + 1) cF, .slice AH' M cH, .slice AR M cR, .slice AC M cC, .slice AA M cA, .slice AB M cB] 29)) w2.heap.size 29 #[.int .i64 (N1 : Int), .int .i64 (s : Int), .int .i64 (t : Int), .slice (some ⟨bF, oF, none⟩) (N1 + 1) cF, .slice AH' M cH, .slice AR M cR, .slice AC M cC, .slice AA M cA, .slice AB M cB] := Blk.new rfl
  have G3 := G2.below ((below_alloc (w := w2) (.cells #[.int .i64 (N1 : Int), .int .i64 (s : Int), .int .i64 (t : Int), .slice (some ⟨bF, oF, none⟩) (N1 + 1) cF, .slice AH' M cH, .slice AR M cR, .slice AC M cC, .slice AA M cA, .slice AB M cB] 29)).mono hx2)
  have X3 := X2.onAlloc (.cells #[.int .i64 (N1 : Int), .int .i64 (s : Int), .int .i64 (t : Int), .slice (some ⟨bF, oF, none⟩) (N1 + 1) cF, .slice AH' M cH, .slice AR M cR, .slice AC M cC, .slice AA M cA, .slice AB M cB] 29)
  have O3 := O2.alloc (.cells #[.int .i64 (N1 : Int), .int .i64 (s : Int), .int .i64 (t : Int), .slice (some ⟨bF, oF, none⟩) (N1 + 1) cF, .slice AH' M cH, .slice AR M cR, .slice AC M cC, .slice AA M cA, .slice AB M cB] 29)
  have Bw3 := Bw2.alloc Bw2.size (.cells #[.int .i64 (N1 : Int), .int .i64 (s : Int), .int .i64 (t : Int), .slice (some ⟨bF, oF, none⟩) (N1 + 1) cF, .slice AH' M cH, .slice AR M cR, .slice AC M cC, .slice AA M cA, .slice AB M cB] 29)
  have hx4 : x0 ≤ w2.heap.size := hx2
  have hM8 : M ≤ 100000000 := by omega
  have hN8 : N1 ≤ 4096 := by omega
  go_upto_region 2 with fail
  have hz3 := C3.lt
  generalize hw3 : w2.alloc (.cells #[.int .i64 (N1 : Int), .int .i64 (s : Int), .int .i64 (t : Int), .slice (some ⟨bF, oF, none⟩) (N1 + 1) cF, .slice AH' M cH, .slice AR M cR, .slice AC M cC, .slice AA M cA, .slice AB M cB] 29) = w3 at *
  have hx5 : w3.heap.size = w2.heap.size + 1 := by rw [← hw3]; simp
  clear G2 X2 O2 Bw2 hw3 hx2
  obtain ⟨a0, a1, a2, a3, a4, a5, a6, a7, a8⟩ := C3.at9
  have HC3 := Lib.hid C3; have HG3 := Lib.hid G3; have HX3 := Lib.hid X3; have HB3 := Lib.hid Bw3; have HO3 := Lib.hid O3; have HS5 := Lib.hid hx5
  clear C3 G3 X3 Bw3 O3 hx5
  go_wp2_with fail
  refine (heights_is N1 M s t ⟨some ⟨bF, oF, none⟩, cF, AH', cH, AR, cR, AC, cC, AA, cA, AB, cB⟩ AH nh ch LH _ ((HH.out.below HB3.out).more HB3.out.size) hsN htN HST.out hN8).mono ?_
  rintro e w4 ⟨gH, rfl, hgH, KH, B4⟩
  have HC4 := Lib.hid (HC3.out.below B4 HC3.out.lt)
  have HGX4 := Lib.hid (HG3.out.below (B4.mono (by have := HS5.out; omega)))
  have HG4 := Lib.hid (HGX4.out.more (show x0 ≤ w4.heap.size by have := HS5.out; have := B4.size; omega))
  have HX4 := Lib.hid (HX3.out.on B4)
  have HB4 := Lib.hid (below_step HB3.out B4)
  have HO4 := Lib.hid (orow_on HO3.out B4)
  have HZ4 := Lib.hid B4.size
  obtain ⟨H, hHdef⟩ : ∃ H, htAll N1 s t LH = H := ⟨_, rfl⟩
  have HI := Lib.hid (show HtIs N1 s t H by rw [← hHdef]; exact ht_is hsN htN HST.out)
  rw [hHdef] at KH
  have HKH := Lib.hid KH
  clear a0 a1 a2 a3 a4 a5 a6 a7 a8 B4 KH hHdef HC3 HG3 HX3 HB3 HO3 hz3
  have hmm := @run_makeMap Try.prog
  have KI := int_keyed (P := Try.prog) Try.underlying3
  have hwa : IntKind.i64.wrap (at8 : Int) = (at8 : Int) := by rw [IntKind.wrap_i64]; omega
  have HWA := Lib.hid hwa
  clear hwa
  obtain ⟨a0, a1, a2, a3, a4, a5, a6, a7, a8⟩ := HC4.out.at9
  have hz4 := HC4.out.lt
  have HH4 := Lib.hid (HKH.out.ints HI.out.len)
  go_wp2_with fail
  clear a0 a1 a2 a3 a4 a5 a6 a7 a8 hz4 hmm
  have HBm := Lib.hid (below_alloc (w := w4) (.map #[] 0))
  refine (lsteep_is N1 M s t ⟨some ⟨bF, oF, none⟩, cF, AH', cH, AR, cR, AC, cC, AA, cA, AB, cB⟩ fst hd rv AX M cX X (some ⟨gH, 0, none⟩) N1 N1 H _ HG.out (HG4.out.on HBm.out) (HX4.out.on HBm.out) (HH4.out.on HBm.out) hsN htN hN8 hM8).mono ?_
  have hnd1 := slps_nodup (N := N1) (M := M) (s := s) (t := t) (nX := M) (hd := hd) (rv := rv) (X := X) (H := H) (q := qSteep)
  have hin1 := fun a => slps_in (M := M) (hd := hd) (rv := rv) (X := X) (q := qSteep) (a := a) HI.out
  have hle1 := slps_len (N := N1) (M := M) (s := s) (t := t) (nX := M) (hd := hd) (rv := rv) (X := X) (H := H) (q := qSteep)
  obtain ⟨L1, hL1⟩ : ∃ L1, slps N1 M s t M hd rv X H qSteep = L1 := ⟨_, rfl⟩
  rw [hL1] at hnd1 hin1 hle1 ⊢
  have HL1 := Lib.hid hL1; have HND1 := Lib.hid hnd1; have HIN1 := Lib.hid hin1
  clear hL1 hnd1 hin1
  rintro e w5 ⟨AQ1, cQ1, rfl, O5, B5⟩
  simp only [World.size_alloc] at O5
  have HO5 := Lib.hid O5
  have M5 : MapsTo intV Try.prog 3 3 w5 w4.heap.size 0 (mkTo L1 1 (fun _ => none) 0) := ((MapsTo.made w4).kept (row := none) ⟨B5.os, B5.tape, B5.output, B5.size, fun k hk _ => B5.block k hk⟩ (by simp)).as fun x => mk_zero x
  have HM5 := Lib.hid M5
  have HB5 := Lib.hid (below_step HBm.out B5)
  have HS5 := Lib.hid (show w4.heap.size + 1 ≤ w5.heap.size by have := B5.size; simpa using this)
  clear O5 M5 B5 HBm
  go_wp2_with fail
  go_loopw [14, 42] (fun _ i wr => ∃ k cnt : Nat, k ≤ L1.length ∧ cnt ≤ k ∧ i = .int .i64 k ∧ Below w4.heap.size w4 wr ∧ w4.heap.size + 1 ≤ wr.heap.size ∧ wr.ownsRow (w4.heap.size + 1) 3 1 (.slice AQ1 L1.length cQ1) L1.length (nvs L1) ∧ MapsTo intV Try.prog 3 3 wr w4.heap.size cnt (mkTo L1 1 (fun _ => none) k)) (fun _ i _ => L1.length - (intOf i).toNat)
  case atStart => exact ⟨0, 0, Nat.zero_le _, Nat.zero_le _, rfl, HB5.out, HS5.out, HO5.out, HM5.out⟩
  case round =>
    clear HO5 HM5 HB5 HS5
    obtain ⟨k, cnt, hk, hcnt, rfl, hB, hS, hO, hM1⟩ := hrel
    obtain ⟨w6, hw6⟩ := world_of hB
    subst hw6
    have HO := Lib.hid hO; have HM := Lib.hid hM1; have HB := Lib.hid hB; have HS := Lib.hid hS
    by_cases hlt : k < L1.length
    · obtain ⟨a, hak⟩ : ∃ a, L1[k]? = some a := ⟨_, List.getElem?_eq_getElem hlt⟩
      obtain ⟨g, hAg, hgl, cg⟩ := own_nat hO rfl hak
      subst hAg
      have haM := ((HIN1.out a).1 (List.mem_of_getElem? hak)).1
      have hlk := hM1.look (t := 45) KI Try.underlying45 Try.underlying3 (zero_int _) (keyInt (x := (a : Int)) (by unfold InR; omega))
      rw [mk_new hak HND1.out] at hlk
      have hlk' : (Instr.lookup 45 (.map (some w4.heap.size)) (.int .i64 (a : Int)) false).run Try.prog w6 = .ok (.int .i64 0) w6 := hlk
      have HPUT := Lib.hid (mk_put (v := 1) (m := fun _ => none) hak)
      have hq : IntKind.i64.wrap (0 + 1) = 1 := by decide
      clear hak hlk hB hS hO hM1
      go_wp2_with (first
            | (at_mapUpdate
               refine wpList_mapUpdate_to _ rfl _ _ _ 45 rfl HM.out KI intV_inj Try.underlying45 Try.underlying3 (by unfold maxLen; omega) (a : Int) _ (keyInt (by unfold InR; omega)) 1 (wf_i64 (by unfold InR; omega)) rfl rfl rfl ?_)
            | fail)
      intro w7 hM7 hg7
      clear hlk' cg hq hgl
      go_wp2_with fail
      go_roundw
      case rel =>
        have hsz := hg7.size
        have hss := HS.out
        exact ⟨k + 1, cnt + 1, by omega, by omega, by go_num, HB.out.grown hg7 HB.out.size (fun j hj => by injection hj with hj; omega), by omega, own_map HO.out hg7 (by omega), hM7.out.as HPUT.out⟩
      case measure => simp [intOf]; omega
    · obtain rfl : k = L1.length := by omega
      clear hB hS hO hM1
      obtain ⟨a0, a1, a2, a3, a4, a5, a6, a7, a8⟩ := (HC4.out.below HB.out HC4.out.lt).at9
      have hz6 := (HC4.out.below HB.out HC4.out.lt).lt
      go_wp2_with fail
      clear a0 a1 a2 a3 a4 a5 a6 a7 a8 hz6
      refine (lflat_is N1 M s t ⟨some ⟨bF, oF, none⟩, cF, AH', cH, AR, cR, AC, cC, AA, cA, AB, cB⟩ fst hd rv AX M cX X (some ⟨gH, 0, none⟩) N1 N1 H _ HG.out (HG4.out.on HB.out) (HX4.out.on HB.out) (HH4.out.on HB.out) hsN htN hN8 hM8).mono ?_
      have hnd2 := slps_nodup (N := N1) (M := M) (s := s) (t := t) (nX := M) (hd := hd) (rv := rv) (X := X) (H := H) (q := qFlat)
      have hin2 := fun a => slps_in (M := M) (hd := hd) (rv := rv) (X := X) (q := qFlat) (a := a) HI.out
      have hle2 := slps_len (N := N1) (M := M) (s := s) (t := t) (nX := M) (hd := hd) (rv := rv) (X := X) (H := H) (q := qFlat)
      generalize slps N1 M s t M hd rv X H qFlat = L2 at *
      have HND2 := Lib.hid hnd2; have HIN2 := Lib.hid hin2
      have hdis : ∀ a, a ∈ L2 → mkTo L1 1 (fun _ => none) L1.length (a : Int) = none := fun a h2 => by
        rw [mk_all, if_neg]
        rw [nat_mem]
        intro h1
        have e1 := ((HIN1.out a).1 h1).2.2.2
        have e2 := ((hin2 a).1 h2).2.2.2
        unfold qSteep at e1
        unfold qFlat at e2
        rw [decide_eq_true_eq] at e1 e2
        omega
      have HDIS := Lib.hid hdis
      clear hnd2 hin2 hdis
      rintro e w7 ⟨AQ2, cQ2, rfl, O7, B7⟩
      have HO7 := Lib.hid (own_less O7 HS.out)
      have HO1 := Lib.hid (orow_on HO.out B7)
      have M7 : MapsTo intV Try.prog 3 3 w7 w4.heap.size cnt (mkTo L2 2 (mkTo L1 1 (fun _ => none) L1.length) 0) := (HM.out.kept (row := none) ⟨B7.os, B7.tape, B7.output, B7.size, fun k hk _ => B7.block k hk⟩ (by simp)).as fun x => mk_zero x
      have HM7 := Lib.hid M7
      have HB7 := Lib.hid (below_step HB.out B7)
      have HS7 := Lib.hid (show w4.heap.size + 1 ≤ w7.heap.size from Nat.le_trans HS.out B7.size)
      clear O7 M7 B7 HO HM HB HS
      go_wp2_with fail
      go_loopw [16, 56] (fun _ i wr => ∃ k2 cnt2 : Nat, k2 ≤ L2.length ∧ cnt2 ≤ cnt + k2 ∧ i = .int .i64 k2 ∧ Below w4.heap.size w4 wr ∧ w4.heap.size + 1 ≤ wr.heap.size ∧ wr.ownsRow (w4.heap.size + 1) 3 1 (.slice AQ1 L1.length cQ1) L1.length (nvs L1) ∧ wr.ownsRow (w4.heap.size + 1) 3 1 (.slice AQ2 L2.length cQ2) L2.length (nvs L2) ∧ MapsTo intV Try.prog 3 3 wr w4.heap.size cnt2 (mkTo L2 2 (mkTo L1 1 (fun _ => none) L1.length) k2)) (fun _ i _ => L2.length - (intOf i).toNat)
      case atStart => exact ⟨0, cnt, Nat.zero_le _, by omega, rfl, HB7.out, HS7.out, HO1.out, HO7.out, HM7.out⟩
      case round =>
        clear HO1 HO7 HM7 HB7 HS7
        obtain ⟨k2, cnt2, hk2, hcnt2, rfl, hB, hS, hO1, hO2, hM2⟩ := hrel
        obtain ⟨w8, hw8⟩ := world_of hB
        subst hw8
        have HO1 := Lib.hid hO1; have HO2 := Lib.hid hO2; have HM := Lib.hid hM2; have HB := Lib.hid hB; have HS := Lib.hid hS
        by_cases hlt2 : k2 < L2.length
        · obtain ⟨a, hak⟩ : ∃ a, L2[k2]? = some a := ⟨_, List.getElem?_eq_getElem hlt2⟩
          obtain ⟨g, hAg, hgl, cg⟩ := own_nat hO2 rfl hak
          subst hAg
          have haM := ((HIN2.out a).1 (List.mem_of_getElem? hak)).1
          have hlk := hM2.look (t := 45) KI Try.underlying45 Try.underlying3 (zero_int _) (keyInt (x := (a : Int)) (by unfold InR; omega))
          rw [mk_new hak HND2.out, HDIS.out a (List.mem_of_getElem? hak)] at hlk
          have hlk' : (Instr.lookup 45 (.map (some w4.heap.size)) (.int .i64 (a : Int)) false).run Try.prog w8 = .ok (.int .i64 0) w8 := hlk
          have HPUT := Lib.hid (mk_put (v := 2) (m := mkTo L1 1 (fun _ => none) L1.length) hak)
          have hq : IntKind.i64.wrap (0 + 2) = 2 := by decide
          clear hak hlk hB hS hO1 hO2 hM2
          go_wp2_with (first
                | (at_mapUpdate
                   refine wpList_mapUpdate_to _ rfl _ _ _ 45 rfl HM.out KI intV_inj Try.underlying45 Try.underlying3 (by unfold maxLen; omega) (a : Int) _ (keyInt (by unfold InR; omega)) 2 (wf_i64 (by unfold InR; omega)) rfl rfl rfl ?_)
                | fail)
          intro w9 hM9 hg9
          clear hlk' cg hq hgl
          go_wp2_with fail
          go_roundw
          case rel =>
            have hsz := hg9.size
            have hss := HS.out
            exact ⟨k2 + 1, cnt2 + 1, by omega, by omega, by go_num, HB.out.grown hg9 HB.out.size (fun j hj => by injection hj with hj; omega), by omega, own_map HO1.out hg9 (by omega), own_map HO2.out hg9 (by omega), hM9.out.as HPUT.out⟩
          case measure => simp [intOf]; omega
        · obtain rfl : k2 = L2.length := by omega
          clear hB hS hO1 hO2 hM2
          have HKIND := Lib.hid (fun a (h : a < M) => kind_is (a := a) HIN1.out HIN2.out h)
          have hcn : cnt2 ≤ 300000000 := by omega
          clear HDIS HND1 HND2 HO2
          generalize mkTo L2 2 (mkTo L1 1 (fun _ => none) L1.length) L2.length = m2 at *
          have hbx := HB.out
          go_wp2_with fail
          go_loopw [17, 18, 19, 20, 21, 67] (fun _ _ _ _ _ i wr => ∃ k : Nat, k ≤ M ∧ i = .int .i64 k ∧ Below w4.heap.size w4 wr ∧ w4.heap.size + 1 ≤ wr.heap.size ∧ wr.ownsRow (w4.heap.size + 1) 3 1 (.slice AQ1 L1.length cQ1) L1.length (nvs L1) ∧ MapsTo intV Try.prog 3 3 wr w4.heap.size cnt2 m2) (fun _ _ _ _ _ i _ => M - (intOf i).toNat)
          case atStart => exact ⟨0, Nat.zero_le _, rfl, HB.out, HS.out, HO1.out, HM.out⟩
          case round =>
            clear HO1 HM HB HS hbx
            obtain ⟨k, hk, rfl, hB, hS, hO, hM3⟩ := hrel
            obtain ⟨w9, hw9⟩ := world_of hB
            subst hw9
            have HO := Lib.hid hO; have HM := Lib.hid hM3; have HB := Lib.hid hB; have HS := Lib.hid hS
            have HC9 := Lib.hid (HC4.out.below hB HC4.out.lt); have HG9 := Lib.hid (HG4.out.on hB); have HX9 := Lib.hid (HX4.out.on hB); have HH9 := Lib.hid (HH4.out.on hB)
            obtain ⟨a0, a1, a2, a3, a4, a5, a6, a7, a8⟩ := HC9.out.at9
            have hz9 := HC9.out.lt
            clear hB hS hO hM3
            by_cases hlt3 : k < M
            · go_wp2_with fail
              clear a0 a1 a2 a3 a4 a5 a6 a7 a8 hz9
              refine (tail2_at N1 M s t ⟨some ⟨bF, oF, none⟩, cF, AH', cH, AR, cR, AC, cC, AA, cA, AB, cB⟩ fst hd rv k _ HG.out HG9.out hlt3).mono ?_
              rintro e w10 ⟨rfl, B10⟩
              have HO10 := Lib.hid (orow_on HO.out B10)
              have HM10 := Lib.hid (HM.out.kept (row := none) ⟨B10.os, B10.tape, B10.output, B10.size, fun k hk _ => B10.block k hk⟩ (by simp))
              have HB10 := Lib.hid (below_step HB.out B10)
              have HS10 := Lib.hid (Nat.le_trans HS.out B10.size)
              obtain ⟨a0, a1, a2, a3, a4, a5, a6, a7, a8⟩ := (HC9.out.below B10 HC9.out.lt).at9
              have hz10 := (HC9.out.below B10 HC9.out.lt).lt
              have hG10 := HG9.out.on B10
              obtain ⟨bH, oH, hHa⟩ := hG10.iH.adr (by omega)
              dsimp only at hHa
              subst hHa
              obtain ⟨hbH, ch⟩ := tab_cell hG10.iH hlt3
              obtain ⟨bX, oX, x, hAX, hbX, hx, cx⟩ := intl_at (HX9.out.on B10) hlt3
              subst hAX
              have hrk := HG.out.rvl k hlt3
              have hd1 := HG.out.hdl k hlt3
              have hd2 := HG.out.hdl _ hrk
              obtain ⟨hbA, cv⟩ := (HH9.out.on B10).cel (hOf_get HI.out.len hd1)
              obtain ⟨-, cu⟩ := (HH9.out.on B10).cel (hOf_get HI.out.len hd2)
              rw [Nat.zero_add] at cu cv
              have hb1 := HI.out.bnd _ hd1
              have hb2 := HI.out.bnd _ hd2
              have hlk := fun q => (HM10.out.drewN q).look (t := 45) KI Try.underlying45 Try.underlying3 (zero_int _) (keyInt (x := (k : Int)) (by unfold InR; omega))
              rw [HKIND.out k hlt3, opn_at hx] at hlk
              clear hx B10 HC9 HG9 HX9 HH9 hG10 hrk HO HM HB HS
              generalize hd (rv k) = u at *
              generalize hd k = v at *
              generalize hOf H u = y at *
              generalize hOf H v = z at *
              obtain ⟨dd, hdd⟩ : ∃ dd, y - z = dd := ⟨_, rfl⟩
              have hwr : IntKind.i64.wrap (y - z) = dd := by rw [wrap_any (by omega) (by omega), hdd]
              rw [hdd] at hlk
              clear hdd
              have hlk' : ∀ q, (Instr.lookup 45 (.map (some w4.heap.size)) (.int .i64 (k : Int)) false).run Try.prog (w10.drewN q) = .ok (.int .i64 (if decide (0 < x) = true ∧ u ≠ s ∧ 0 < dd then (if 1 < dd then 1 else 2) else 0)) (w10.drewN q) := hlk
              clear hlk
              by_cases h0 : 0 < x
              · by_cases h1 : u = s
                · have hval : (if decide (0 < x) = true ∧ u ≠ s ∧ 0 < dd then (if 1 < dd then (1 : Int) else 2) else 0) = 0 := by rw [if_neg (fun h => h.2.1 h1)]
                  rw [hval] at hlk'
                  clear hval
                  subst h1
                  go_wp2_with fail
                  go_quiet (fail)
                  go_wp2_with fail
                  go_roundw
                  case rel => exact ⟨k + 1, by omega, by go_num, below_drewN' HB10.out _, HS10.out, HO10.out, HM10.out.drewN _⟩
                  case measure => simp [intOf]; omega
                · have g1 : ¬ (u : Int) = (s : Int) := by omega
                  have g2 : ((u : Int) == (s : Int)) = false := beq_false_of_ne g1
                  have g3 : decide ((u : Int) = (s : Int)) = false := decide_eq_false g1
                  by_cases h2 : 0 < dd
                  · by_cases h3 : 1 < dd
                    · have hval : (if decide (0 < x) = true ∧ u ≠ s ∧ 0 < dd then (if 1 < dd then (1 : Int) else 2) else 0) = 1 := by rw [if_pos ⟨by simp [h0], h1, h2⟩, if_pos h3]
                      rw [hval] at hlk'
                      clear hval
                      go_wp2_with fail
                      go_quiet (fail)
                      go_wp2_with fail
                      go_roundw
                      case rel => exact ⟨k + 1, by omega, by go_num, below_drewN' HB10.out _, HS10.out, HO10.out, HM10.out.drewN _⟩
                      case measure => simp [intOf]; omega
                    · have h3d : decide (1 < dd) = false := decide_eq_false h3
                      have hval : (if decide (0 < x) = true ∧ u ≠ s ∧ 0 < dd then (if 1 < dd then (1 : Int) else 2) else 0) = 2 := by rw [if_pos ⟨by simp [h0], h1, h2⟩, if_neg h3]
                      rw [hval] at hlk'
                      clear hval
                      go_wp2_with fail
                      go_quiet (fail)
                      go_wp2_with fail
                      go_roundw
                      case rel => exact ⟨k + 1, by omega, by go_num, below_drewN' HB10.out _, HS10.out, HO10.out, HM10.out.drewN _⟩
                      case measure => simp [intOf]; omega
                  · have h2d : decide (0 < dd) = false := decide_eq_false h2
                    have hval : (if decide (0 < x) = true ∧ u ≠ s ∧ 0 < dd then (if 1 < dd then (1 : Int) else 2) else 0) = 0 := by rw [if_neg (fun h => h2 h.2.2)]
                    rw [hval] at hlk'
                    clear hval
                    go_wp2_with fail
                    go_quiet (fail)
                    go_wp2_with fail
                    go_roundw
                    case rel => exact ⟨k + 1, by omega, by go_num, below_drewN' HB10.out _, HS10.out, HO10.out, HM10.out.drewN _⟩
                    case measure => simp [intOf]; omega
              · have h0d : decide (0 < x) = false := decide_eq_false h0
                have hval : (if decide (0 < x) = true ∧ u ≠ s ∧ 0 < dd then (if 1 < dd then (1 : Int) else 2) else 0) = 0 := by rw [if_neg (fun h => h0 (by simpa using h.1))]
                rw [hval] at hlk'
                clear hval
                go_wp2_with fail
                go_quiet (fail)
                go_wp2_with fail
                go_roundw
                case rel => exact ⟨k + 1, by omega, by go_num, below_drewN' HB10.out _, HS10.out, HO10.out, HM10.out.drewN _⟩
                case measure => simp [intOf]; omega
            · obtain rfl : M = k := by omega
              clear HM HKIND hlt3
              by_cases hM0 : 0 < M
              · have hn0 : ¬ M = 0 := by omega
                have hn0' : ¬ (M : Int) = 0 := by omega
                obtain ⟨k0, hk0⟩ : ∃ k0, at8 % M = k0 := ⟨_, rfl⟩
                have hk0M : k0 < M := by rw [← hk0]; exact Nat.mod_lt _ hM0
                have ht8 : (at8 : Int) % (M : Int) = (k0 : Int) := by rw [← hk0, Int.natCast_emod]
                have hwa := HWA.out
                have hMd : decide (0 < (M : Int)) = true := decide_eq_true (by omega)
                have O9 := orow_on HO4.out HB.out
                have X9 := Hx.one O9 (show x0 ≤ w9.heap.size by have := HS.out; omega) (Below.refl _ _)
                obtain ⟨gX, hgX⟩ := X9.held.radr (i := 0) rfl hM0
                subst hgX
                have hgl4 := HO4.out.lt gX rfl
                obtain ⟨xk, hxk⟩ : ∃ xk, X[k0]? = some xk := ⟨_, List.getElem?_eq_getElem (by omega)⟩
                obtain ⟨cg, fg, hgl, hgb⟩ := X9.cell (i := 0) rfl hk0M (u := .int .i64 xk) (by rw [List.getElem?_map, hxk]; rfl)
                have X10 := X9.puti k0 0
                have C10 := HC9.out.far (p := ⟨gX, k0, none⟩) (fun e => own_ne O9 HC9.out (by decide) gX rfl e.symm) (.int .i64 0)
                have K9 := HKH.out.below HB.out HKH.out.lt
                have K10 := K9.far (p := ⟨gX, k0, none⟩) (fun e => own_ne O9 K9 (by decide) gX rfl e.symm) (.int .i64 0)
                have G10 := ((HGX4.out.below (HB.out.mono (show x0 ≤ w4.heap.size by omega))).below X10.bel).more X10.bas
                have P10 := own_far (p := ⟨gX, k0, none⟩) HO.out (fun g e => by have := (HO.out.lt g (by rw [e]; rfl)).1; simp only; omega) (.int .i64 0)
                have Y10 := X10.held.ints (i := 0) rfl (show (X.set k0 0).length = M by simp [hXl])
                have Bw10 := (below_step HB4.out HB.out).trans (X10.bel.mono hx3)
                have HS10 := Lib.hid (show w4.heap.size + 1 ≤ (w9.setCell ⟨gX, k0, none⟩ (.int .i64 0)).heap.size by have := HS.out; simpa using this)
                have HC10 := Lib.hid C10; have HG10 := Lib.hid G10; have HY10 := Lib.hid Y10; have HP10 := Lib.hid P10; have HB10 := Lib.hid Bw10
                have HH10 := Lib.hid (K10.ints HI.out.len)
                have hkX : k0 < X.length := by omega
                have HKX := Lib.hid hkX
                clear O9 X9 X10 C10 K9 K10 G10 P10 Y10 Bw10 HC9 HG9 HX9 HH9 HO HB HS hk0 hgl4 hxk hkX
                go_upto_region 33 with fail
                try simp only [ht8]
                clear a0 a1 a2 a3 a4 a5 a6 a7 a8 hz9 cg fg hgl hgb ht8 hwa hn0 hn0' hMd
                generalize w9.setCell ⟨gX, k0, none⟩ (.int .i64 0) = w10 at *
                obtain ⟨i0, hi, hz0, hz1, hz2⟩ := info_parts int_info
                have HJ := Lib.hid hi; have HZ0 := Lib.hid hz0; have HZ1 := Lib.hid hz1; have HZ2 := Lib.hid hz2
                clear hi hz0 hz1 hz2
                have cs := fun W h1 h2 h3 => lsteep_is N1 M s t ⟨some ⟨bF, oF, none⟩, cF, AH', cH, AR, cR, AC, cC, AA, cA, AB, cB⟩ fst hd rv (some ⟨gX, 0, none⟩) M cX (X.set k0 0) (some ⟨gH, 0, none⟩) N1 N1 H W HG.out h1 h2 h3 hsN htN hN8 hM8
                have cf := fun W h1 h2 h3 => lflat_is N1 M s t ⟨some ⟨bF, oF, none⟩, cF, AH', cH, AR, cR, AC, cC, AA, cA, AB, cB⟩ fst hd rv (some ⟨gX, 0, none⟩) M cX (X.set k0 0) (some ⟨gH, 0, none⟩) N1 N1 H W HG.out h1 h2 h3 hsN htN hN8 hM8
                have hout1 := fun a => closed_out (M := M) (hd := hd) (rv := rv) (q := qSteep) (a := a) HI.out HKX.out
                have hout2 := fun a => closed_out (M := M) (hd := hd) (rv := rv) (q := qFlat) (a := a) HI.out HKX.out
                have hlen3 := slps_len (N := N1) (M := M) (s := s) (t := t) (nX := M) (hd := hd) (rv := rv) (X := X.set k0 0) (H := H) (q := qSteep)
                have hlen4 := slps_len (N := N1) (M := M) (s := s) (t := t) (nX := M) (hd := hd) (rv := rv) (X := X.set k0 0) (H := H) (q := qFlat)
                dsimp only [csrW] at cs cf
                generalize slps N1 M s t M hd rv (X.set k0 0) H qSteep = L3 at *
                generalize slps N1 M s t M hd rv (X.set k0 0) H qFlat = L4 at *
                have HOUT := Lib.hid (show ∀ a, a ∈ L3 ++ L4 → a ≠ k0 from fun a h => (List.mem_append.1 h).elim (hout1 a) (hout2 a))
                have CS := Lib.hid cs; have CF := Lib.hid cf
                have hfl : ((L4.map fun v : Nat => (v : Int)).flatMap intCells).length = L4.length * 1 := by rw [flat_len (int_len _)]; simp
                have HFL := Lib.hid hfl
                clear cs cf hout1 hout2 hfl
                go_region_held3 (fun W => Below w10.heap.size w10 W ∧ W.cell? ⟨w2.heap.size, 0, none⟩ = some (.int .i64 (N1 : Int)) ∧ W.cell? ⟨w2.heap.size, 1, none⟩ = some (.int .i64 (s : Int)) ∧ W.cell? ⟨w2.heap.size, 2, none⟩ = some (.int .i64 (t : Int)) ∧ W.cell? ⟨w2.heap.size, 3, none⟩ = some (.slice (some ⟨bF, oF, none⟩) (N1 + 1) cF) ∧ W.cell? ⟨w2.heap.size, 4, none⟩ = some (.slice AH' M cH) ∧ W.cell? ⟨w2.heap.size, 5, none⟩ = some (.slice AR M cR) ∧ W.cell? ⟨w2.heap.size, 6, none⟩ = some (.slice AC M cC) ∧ W.cell? ⟨w2.heap.size, 7, none⟩ = some (.slice AA M cA) ∧ W.cell? ⟨w2.heap.size, 8, none⟩ = some (.slice AB M cB))
                  (first
                    | exact csr_keep HC10.out (Below.refl _ _).drew
                    | (go_split_ands
                       exact csr_keep HC10.out (by refine below_step ?_ (by assumption); assumption))
                    | (go_split_ands
                       exact csr_keep HC10.out (below_grown (by assumption) hg13 J3b.out (Nat.le_refl _) (Below.size (B := w10.heap.size) (by assumption)))))
                  (first
                    | (go_at_call 16; go_split_ands; ((with_reducible refine (CS.out _ (HG10.out.on (by assumption)) (HY10.out.on (by assumption)) (HH10.out.on (by assumption))).mono ?_); rintro e W11 ⟨AQ3, cQ3, rfl, hO3, B11⟩; have J3 := Lib.hid (own_less hO3 (show w10.heap.size ≤ _ from Below.size (B := w10.heap.size) (by assumption))); clear hO3))
                    | (go_at_call 18; go_split_ands; ((with_reducible refine (CF.out _ (HG10.out.on (by assumption)) (HY10.out.on (by assumption)) (HH10.out.on (by assumption))).mono ?_); rintro e W12 ⟨AQ4, cQ4, rfl, hO4, B12⟩; have J4 := Lib.hid (own_nums hO4); have J3b := Lib.hid (orow_on J3.out B12); clear hO4))
                    | (go_split_ands; refine step_append_row _ rfl (.tmp 128) (.tmp 132) _ rfl w10.heap.size 3 i0 _ 1 8 Try.underlying26 HJ.out HZ0.out HZ1.out HZ2.out rfl (by omega) AQ3 L3.length cQ3 (nvs L3) rfl J3b.out AQ4 L4.length cQ4 ((L4.map fun v : Nat => (v : Int)).flatMap intCells) rfl HFL.out (RdBy.src (int_len _) J4.out) int_one (by unfold maxLen; omega) (by omega) (Below.size (B := w10.heap.size) (by assumption)) ?_; intro A6 c6 w13 ho13 hg13 hx13))
                go_split_ands
                have hBz : Below w10.heap.size w10 w13 := by assumption
                have ho13' : w13.ownsRow w10.heap.size 3 1 (.slice A6 (L3.length + L4.length) c6) (L3.length + L4.length) (nvs (L3 ++ L4)) := by
                  have h := ho13.out
                  rw [← ivs_flat, List.map_map] at h
                  unfold nvs at h ⊢
                  rw [List.map_append]
                  exact h
                have HO13 := Lib.hid ho13'; have HB13 := Lib.hid hBz
                have HP13 := Lib.hid (orow_on HP10.out hBz)
                clear ho13' hBz ho13 hg13 hx13 J3 J3b J4
                have HC13 := Lib.hid (HC10.out.below HB13.out HC10.out.lt); have HG13 := Lib.hid (HG10.out.on HB13.out); have HY13 := Lib.hid (HY10.out.on HB13.out); have HH13 := Lib.hid (HH10.out.on HB13.out)
                have HBw13 := Lib.hid (below_step HB10.out HB13.out)
                clear HC10 HG10 HY10 HH10 HB10 HP10 HB13
                go_wp2_with fail
                go_loopw [24, 135] (fun _ i wr => ∃ j : Nat, j ≤ L3.length + L4.length ∧ i = .int .i64 j ∧ wr = w13) (fun _ i _ => L3.length + L4.length - (intOf i).toNat)
                case atStart => exact ⟨0, Nat.zero_le _, by go_num, rfl⟩
                case round =>
                  obtain ⟨j, hj, rfl, hwr⟩ := hrel
                  subst hwr
                  by_cases hjl : j < L3.length + L4.length
                  · obtain ⟨a, hak⟩ : ∃ a, (L3 ++ L4)[j]? = some a := ⟨_, List.getElem?_eq_getElem (by rw [List.length_append]; exact hjl)⟩
                    obtain ⟨g, hAg, hgl, cg⟩ := own_nat HO13.out (by rw [List.length_append]) hak
                    subst hAg
                    have hne := HOUT.out a (List.mem_of_getElem? hak)
                    have g1 : ¬ (a : Int) = (k0 : Int) := by omega
                    have g2 : ((a : Int) == (k0 : Int)) = false := beq_false_of_ne g1
                    have g3 : decide ((a : Int) = (k0 : Int)) = false := decide_eq_false g1
                    have hjl' : (j : Int) < (L3.length : Int) + (L4.length : Int) := by omega
                    clear hak
                    go_wp2_with fail
                    go_roundw
                    case rel => exact ⟨j + 1, by omega, by go_num, trivial⟩
                    case measure => simp [intOf]; omega
                  · obtain ⟨a0, a1, a2, a3, a4, a5, a6, a7, a8⟩ := HC13.out.at9
                    have hz13 := HC13.out.lt
                    have hjl' : ¬ (j : Int) < (L3.length : Int) + (L4.length : Int) := by omega
                    have hjd : decide ((j : Int) < (L3.length : Int) + (L4.length : Int)) = false := decide_eq_false hjl'
                    go_wp2_with fail
                    clear a0 a1 a2 a3 a4 a5 a6 a7 a8 hz13 hjl' hjd
                    have hcv := closed_valid (N := N1) (M := M) (s := s) (t := t) (hd := hd) (rv := rv) HI.out HKX.out
                    rw [HL1.out] at hcv
                    refine (lvalid_is N1 M s t ⟨some ⟨bF, oF, none⟩, cF, AH', cH, AR, cR, AC, cC, AA, cA, AB, cB⟩ fst hd rv (some ⟨gX, 0, none⟩) M cX (X.set k0 0) (some ⟨gH, 0, none⟩) N1 N1 H _ HG.out HG13.out HY13.out HH13.out hsN htN hN8 hM8).mono ?_
                    generalize validB N1 M s t M hd rv (X.set k0 0) H = vb at *
                    have HCV := Lib.hid hcv
                    have HNDL := Lib.hid (show L1.Nodup by rw [← HL1.out]; exact slps_nodup)
                    clear hcv
                    rintro e w14 ⟨rfl, B14⟩
                    have HP14 := Lib.hid (orow_on HP13.out B14)
                    have HB14 := Lib.hid (below_step HBw13.out B14)
                    clear B14 HP13 HC13 HG13 HY13 HH13 HBw13 HO13
                    rcases L1 with _ | ⟨x, _ | ⟨y, r⟩⟩
                    · obtain rfl : vb = true := HCV.out.2 (fun a h => by simp at h)
                      go_wp2_with fail
                      refine (awake6_any _).mono ?_
                      rintro e w15 ⟨rfl, B15⟩
                      have HB15 := Lib.hid (below_step HB14.out B15)
                      clear B15
                      go_wp2_with fail
                      go_ret
                      exact ⟨rfl, HB15.out⟩
                    · obtain ⟨g, hAg, hgl, cg⟩ := own_nat HP14.out rfl (i := 0) (a := x) rfl
                      subst hAg
                      by_cases hxk : x = k0
                      · obtain rfl : vb = true := HCV.out.2 (fun a h => by simp at h; omega)
                        subst hxk
                        go_wp2_with fail
                        refine (awake6_any _).mono ?_
                        rintro e w15 ⟨rfl, B15⟩
                        have HB15 := Lib.hid (below_step HB14.out B15)
                        clear B15
                        go_wp2_with fail
                        go_ret
                        exact ⟨rfl, HB15.out⟩
                      · obtain rfl : vb = false := by
                          cases hv : vb with
                          | false => rfl
                          | true => exact absurd (HCV.out.1 hv x (by simp)) hxk
                        have g1 : ¬ (x : Int) = (k0 : Int) := by omega
                        have g2 : ((x : Int) == (k0 : Int)) = false := beq_false_of_ne g1
                        have g3 : decide ((x : Int) = (k0 : Int)) = false := decide_eq_false g1
                        go_wp2_with fail
                        refine (awake6_any _).mono ?_
                        rintro e w15 ⟨rfl, B15⟩
                        have HB15 := Lib.hid (below_step HB14.out B15)
                        clear B15
                        go_wp2_with fail
                        go_ret
                        exact ⟨rfl, HB15.out⟩
                    · obtain rfl : vb = false := by
                        cases hv : vb with
                        | false => rfl
                        | true =>
                          have h1 := HCV.out.1 hv x (by simp)
                          have h2 := HCV.out.1 hv y (by simp)
                          have h3 := HNDL.out
                          rw [h1, h2] at h3
                          simp at h3
                      have g1 : ¬ ((x :: y :: r).length : Int) = 0 := by simp only [List.length_cons]; omega
                      have g2 : (((x :: y :: r).length : Int) == 0) = false := beq_false_of_ne g1
                      have g3 : decide (((x :: y :: r).length : Int) = 0) = false := decide_eq_false g1
                      have g4 : ¬ ((x :: y :: r).length : Int) = 1 := by simp only [List.length_cons]; omega
                      have g5 : (((x :: y :: r).length : Int) == 1) = false := beq_false_of_ne g4
                      have g6 : decide (((x :: y :: r).length : Int) = 1) = false := decide_eq_false g4
                      generalize (x :: y :: r).length = nn at *
                      go_wp2_with fail
                      refine (awake6_any _).mono ?_
                      rintro e w15 ⟨rfl, B15⟩
                      have HB15 := Lib.hid (below_step HB14.out B15)
                      clear B15
                      go_wp2_with fail
                      go_ret
                      exact ⟨rfl, HB15.out⟩
              · have hMd : decide (0 < (M : Int)) = false := decide_eq_false (by omega)
                have hMn : ¬ 0 < (M : Int) := by omega
                have hvt : validB N1 M s t M hd rv X H = true := valid_iff.2 ⟨HI.out, fun a ha => absurd ha (by omega)⟩
                have HVT := Lib.hid hvt
                clear hvt
                go_wp2_with fail
                clear a0 a1 a2 a3 a4 a5 a6 a7 a8 hz9
                refine (lvalid_is N1 M s t ⟨some ⟨bF, oF, none⟩, cF, AH', cH, AR, cR, AC, cC, AA, cA, AB, cB⟩ fst hd rv AX M cX X (some ⟨gH, 0, none⟩) N1 N1 H _ HG.out HG9.out HX9.out HH9.out hsN htN hN8 hM8).mono ?_
                rw [HVT.out]
                rintro e w14 ⟨rfl, B14⟩
                have HB14 := Lib.hid (below_step (below_step HB4.out HB.out) B14)
                clear B14
                go_wp2_with fail
                refine (awake6_any _).mono ?_
                rintro e w15 ⟨rfl, B15⟩
                have HB15 := Lib.hid (below_step HB14.out B15)
                clear B15
                go_wp2_with fail
                go_ret
                exact ⟨rfl, HB15.out⟩

end Go.Proofs.Ytnhfdmfciddmaaa
