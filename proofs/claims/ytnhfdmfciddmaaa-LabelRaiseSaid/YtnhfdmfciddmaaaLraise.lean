/- LabelRaise: the walk. -/
import Derived.Test.YtnhfdmfciddmaaaLabn
namespace Go.Proofs.Ytnhfdmfciddmaaa
open Go.RowKit Go.Maps
set_option maxRecDepth 100000

theorem hBM_on {w4 w5 w7 : World} (h1 : Below w4.heap.size w4 w5) (h2 : Below w5.heap.size w5 w7) : Below w4.heap.size w4 w7 := below_step h1 h2

set_option maxHeartbeats 16000000 in
theorem lraise_walk (N S T : Int) (A : Option Addr) (n c : Nat) (l : List ArcN) (AL : Option Addr) (nl cl : Nat) (L : List Int) (AH : Option Addr) (nh ch : Nat) (LH : List Int) (at8 : Nat) (w : World) (hA : Arcs w w.heap.size A n l) (hf : FitsAll l) (hnc : n ≤ c) (hL : Ints w w.heap.size AL nl L) (hLR : ∀ x ∈ L, InR x) (hH : Ints w w.heap.size AH nh LH) (ha : at8 ≤ 255) :
    Calls Try.prog 5 #[.agg #[.int .i64 N, .int .i64 S, .int .i64 T, .slice A n c], .slice AL nl cl, .slice AH nh ch, .int .u8 (at8 : Int)] w fun e w' => e = .returned (.bool true) ∧ Below w.heap.size w w' := by
  have hso := fun W hW => some_any N S T A n c 16 40 l W hW hf hnc (by omega) (by omega) (by omega)
  obtain ⟨N1, hN1, hN2, hN3, hck, hln, hmem⟩ := some_net N S T 16 40 l (by omega) (by omega) (by omega)
  rw [hN1] at hso hck hln hmem
  generalize S % (N1 : Int) = S1 at *
  generalize someT (N1 : Int) S T = T1 at *
  generalize someL (N1 : Int) 40 l = l1 at *
  obtain ⟨-, -, -, -, hs0, hs1, ht0, ht1, hst, -, -⟩ := ends_in hck
  obtain ⟨s, rfl⟩ := Int.eq_ofNat_of_zero_le hs0
  obtain ⟨t, rfl⟩ := Int.eq_ofNat_of_zero_le ht0
  have hsN : s < N1 := by omega
  have htN : t < N1 := by omega
  have hst' : s ≠ t := fun e => hst (by rw [e])
  have HST := Lib.hid hst'
  have HSO := Lib.hid hso; have HCK := Lib.hid hck; have HLR := Lib.hid hLR
  have HCAP := Lib.hid fun (x : ArcN) (hx : x ∈ l1) => (show 0 ≤ x.cap ∧ x.cap < 1125899906842624 by have := hmem x hx; omega)
  clear hso hck hN1 hmem hLR hs0 hs1 ht0 ht1 hst hst'
  have HH := Lib.hid hH
  clear hH
  go_enter Try.func5, Try.ntmps5
  go_wp2_with fail
  refine (HSO.out _ (hA.onAlloc _)).mono ?_
  rintro e w1 ⟨A1, n1, c1, rfl, o1, hl1, B1⟩
  have a1 := arcs_own o1 hl1
  have Bw1 := below_step (below_alloc _) B1
  have L1 := (hL.below Bw1).more Bw1.size
  clear B1 o1 hA hL HSO
  go_wp2_with fail
  refine (left_grid_n N1 s t A1 n1 c1 l1 AL nl cl L _ a1 HCK.out L1 HLR.out HCAP.out (by omega) (by omega)).mono ?_
  rintro e w2 ⟨x0, M, K, fst, hd, rv, AX, cX, X, rfl, hG, G2, X2, ⟨⟨hM, hXb⟩, hno⟩, B2, O2, hx1, hx2⟩
  obtain ⟨AF, cF, AH', cH, AR, cR, AC, cC, AA, cA, AB, cB⟩ := K
  obtain ⟨bF, oF, hF⟩ := G2.iF.adr (by omega)
  dsimp only at hF
  subst hF
  have Bw2 := below_step Bw1 B2
  have HG := Lib.hid hG; have HNO := Lib.hid hno
  have hXl : X.length = M := X2.len
  have hcx : M ≤ cX := own_cap O2
  have hx3 : w.heap.size ≤ x0 := Nat.le_trans Bw1.size hx1
  clear B2 Bw1 a1 L1 hG hno hXb HCK HLR HCAP hl1 hln hx1
  dsimp only [csrW]
  have C3 : Blk (w2.alloc (.cells #[.int .i64 (N1 : Int), .int .i64 (s : Int), .int .i64 (t : Int), .slice (some ⟨bF, oF, none⟩) (N1 + 1) cF, .slice AH' M cH, .slice AR M cR, .slice AC M cC, .slice AA M cA, .slice AB M cB] 29)) w2.heap.size 29 #[.int .i64 (N1 : Int), .int .i64 (s : Int), .int .i64 (t : Int), .slice (some ⟨bF, oF, none⟩) (N1 + 1) cF, .slice AH' M cH, .slice AR M cR, .slice AC M cC, .slice AA M cA, .slice AB M cB] := Blk.new rfl
  have G3 := G2.below ((below_alloc (w := w2) (.cells #[.int .i64 (N1 : Int), .int .i64 (s : Int), .int .i64 (t : Int), .slice (some ⟨bF, oF, none⟩) (N1 + 1) cF, .slice AH' M cH, .slice AR M cR, .slice AC M cC, .slice AA M cA, .slice AB M cB] 29)).mono hx2)
  have X3 := X2.onAlloc (.cells #[.int .i64 (N1 : Int), .int .i64 (s : Int), .int .i64 (t : Int), .slice (some ⟨bF, oF, none⟩) (N1 + 1) cF, .slice AH' M cH, .slice AR M cR, .slice AC M cC, .slice AA M cA, .slice AB M cB] 29)
  have O3 := O2.alloc (.cells #[.int .i64 (N1 : Int), .int .i64 (s : Int), .int .i64 (t : Int), .slice (some ⟨bF, oF, none⟩) (N1 + 1) cF, .slice AH' M cH, .slice AR M cR, .slice AC M cC, .slice AA M cA, .slice AB M cB] 29)
  have Bw3 := Bw2.alloc Bw2.size (.cells #[.int .i64 (N1 : Int), .int .i64 (s : Int), .int .i64 (t : Int), .slice (some ⟨bF, oF, none⟩) (N1 + 1) cF, .slice AH' M cH, .slice AR M cR, .slice AC M cC, .slice AA M cA, .slice AB M cB] 29)
  have hx4 : x0 ≤ w2.heap.size := hx2
  have hM8 : M ≤ 100000000 := by omega
  have hN8 : N1 ≤ 4096 := by omega
  go_upto_region 2 with fail
  have hz3 := C3.lt
  generalize hw3 : w2.alloc (.cells #[.int .i64 (N1 : Int), .int .i64 (s : Int), .int .i64 (t : Int), .slice (some ⟨bF, oF, none⟩) (N1 + 1) cF, .slice AH' M cH, .slice AR M cR, .slice AC M cC, .slice AA M cA, .slice AB M cB] 29) = w3 at *
  have hx5 : w3.heap.size = w2.heap.size + 1 := by rw [← hw3]; simp
  clear G2 X2 O2 Bw2 hw3 hx2
  obtain ⟨a0, a1, a2, a3, a4, a5, a6, a7, a8⟩ := C3.at9
  have HC3 := Lib.hid C3; have HG3 := Lib.hid G3; have HX3 := Lib.hid X3; have HB3 := Lib.hid Bw3; have HO3 := Lib.hid O3; have HS5 := Lib.hid hx5
  clear C3 G3 X3 Bw3 O3 hx5
  go_wp2_with fail
  refine (heights_is N1 M s t ⟨some ⟨bF, oF, none⟩, cF, AH', cH, AR, cR, AC, cC, AA, cA, AB, cB⟩ AH nh ch LH _ ((HH.out.below HB3.out).more HB3.out.size) hsN htN HST.out hN8).mono ?_
  rintro e w4 ⟨gH, rfl, hgH, KH, B4⟩
  have HC4 := Lib.hid (HC3.out.below B4 HC3.out.lt)
  have HGX4 := Lib.hid (HG3.out.below (B4.mono (by have := HS5.out; omega)))
  have HG4 := Lib.hid (HGX4.out.more (show x0 ≤ w4.heap.size by have := HS5.out; have := B4.size; omega))
  have HX4 := Lib.hid (HX3.out.on B4)
  have HB4 := Lib.hid (below_step HB3.out B4)
  have HO4 := Lib.hid (orow_on HO3.out B4)
  have HZ4 := Lib.hid B4.size
  obtain ⟨H, hHdef⟩ : ∃ H, htAll N1 s t LH = H := ⟨_, rfl⟩
  have HI := Lib.hid (show HtIs N1 s t H by rw [← hHdef]; exact ht_is hsN htN HST.out)
  rw [hHdef] at KH
  have HKH := Lib.hid KH
  clear a0 a1 a2 a3 a4 a5 a6 a7 a8 B4 KH hHdef HC3 HG3 HX3 HB3 HO3 hz3
  have hn0 : ¬ N1 = 0 := by omega
  have hn0' : ¬ (N1 : Int) = 0 := by omega
  obtain ⟨u, hu8⟩ : ∃ u, at8 % N1 = u := ⟨_, rfl⟩
  have huN : u < N1 := by rw [← hu8]; exact Nat.mod_lt _ (by omega)
  have ht8 : (at8 : Int) % (N1 : Int) = (u : Int) := by rw [← hu8, Int.natCast_emod]
  have hwa : IntKind.i64.wrap (at8 : Int) = (at8 : Int) := by rw [IntKind.wrap_i64]; omega
  have HH4 := Lib.hid (HKH.out.ints HI.out.len)
  obtain ⟨a0, a1, a2, a3, a4, a5, a6, a7, a8⟩ := HC4.out.at9
  have hz4 := HC4.out.lt
  clear hu8
  go_wp2_with fail
  try simp only [ht8]
  clear a0 a1 a2 a3 a4 a5 a6 a7 a8 hz4 ht8 hwa hn0 hn0'
  refine (lleast_is N1 M s t ⟨some ⟨bF, oF, none⟩, cF, AH', cH, AR, cR, AC, cC, AA, cA, AB, cB⟩ fst hd rv AX M cX X (some ⟨gH, 0, none⟩) N1 N1 H (u : Int) _ HG.out HG4.out HX4.out HH4.out hsN htN hN8 hM8).mono ?_
  rintro e w5 ⟨ra, low, ok, rfl, hlow, B5⟩
  have HB5 := Lib.hid (below_step HB4.out B5)
  have HBM5 := Lib.hid B5
  have HC5 := Lib.hid (HC4.out.below B5 HC4.out.lt)
  obtain ⟨a0, a1, a2, a3, a4, a5, a6, a7, a8⟩ := HC5.out.at9
  have hz5 := HC5.out.lt
  clear B5
  rcases hlow with ⟨rfl, -, -, v, b, huv, hvN, rfl, hlw, rfl⟩ | ⟨rfl, rfl, rfl, -⟩
  · obtain rfl : u = v := by omega
    by_cases hus : u = s
    · subst hus
      have HBZ := HB5
      go_wp2_with fail
      refine (awake6_any _).mono ?_
      rintro e w15 ⟨rfl, B15⟩
      have HB15 := Lib.hid (below_step HBZ.out B15)
      clear B15
      go_wp2_with fail
      go_ret
      exact ⟨rfl, HB15.out⟩

    · have e1 : ¬ (u : Int) = (s : Int) := by omega
      have e2 : ((u : Int) == (s : Int)) = false := beq_false_of_ne e1
      have e3 : decide ((u : Int) = (s : Int)) = false := decide_eq_false e1
      by_cases hut : u = t
      · subst hut
        have HBZ := HB5
        go_wp2_with fail
        refine (awake6_any _).mono ?_
        rintro e w15 ⟨rfl, B15⟩
        have HB15 := Lib.hid (below_step HBZ.out B15)
        clear B15
        go_wp2_with fail
        go_ret
        exact ⟨rfl, HB15.out⟩

      · have e4 : ¬ (u : Int) = (t : Int) := by omega
        have e5 : ((u : Int) == (t : Int)) = false := beq_false_of_ne e4
        have e6 : decide ((u : Int) = (t : Int)) = false := decide_eq_false e4
        have HLW := Lib.hid hlw
        have hfz := HG.out.fle (v := u + 1) (by omega)
        have hbM : b < M := Nat.lt_of_lt_of_le hlw.r2 hfz
        have hG5 := HG4.out.on HBM5.out
        obtain ⟨-, cf⟩ := tab_cell hG5.iF (k := u) (by omega)
        obtain ⟨hbF, cz⟩ := tab_cell hG5.iF (k := u + 1) (by omega)
        have hr1 := hlw.r1
        have hr2 := hlw.r2
        obtain ⟨fa, hfa⟩ : ∃ fa, fst u = fa := ⟨_, rfl⟩
        obtain ⟨z, hz⟩ : ∃ z, fst (u + 1) = z := ⟨_, rfl⟩
        rw [hfa] at cf hr1
        rw [hz] at cz hr2 hfz
        have HFA := Lib.hid hfa; have HZZ := Lib.hid hz
        obtain ⟨bH, oH, hHa⟩ := hG5.iH.adr (by omega)
        dsimp only at hHa
        subst hHa
        obtain ⟨hbH, chd⟩ := tab_cell hG5.iH hbM
        have hdb := HG.out.hdl b hbM
        obtain ⟨hbA, clw⟩ := (HH4.out.on HBM5.out).cel (hOf_get HI.out.len hdb)
        rw [Nat.zero_add] at clw
        have hlb := HI.out.bnd _ hdb
        obtain ⟨bX, oX, x, hAX, hbX, hx, cx⟩ := intl_at (HX4.out.on HBM5.out) hbM
        subst hAX
        have hxp : 0 < x := by
          have := hlw.op
          rw [opn_at hx] at this
          simpa using this
        have hxn : ¬ x ≤ 0 := by omega
        have hxd : decide (x ≤ 0) = false := decide_eq_false hxn
        have hb1 : ¬ (b : Int) < (fa : Int) := by omega
        have hb2 : decide ((b : Int) < (fa : Int)) = false := decide_eq_false hb1
        have hb3 : ¬ (z : Int) ≤ (b : Int) := by omega
        have hb4 : decide ((z : Int) ≤ (b : Int)) = false := decide_eq_false hb3
        have hb5 : decide (b < fa) = false := decide_eq_false (by omega)
        have hb6 : decide (z ≤ b) = false := decide_eq_false (by omega)
        obtain ⟨lo, hlo⟩ : ∃ lo, hOf H (hd b) = lo := ⟨_, rfl⟩
        have HLO := Lib.hid hlo
        rw [hlo] at clw hlb ⊢
        obtain ⟨vb, hvb⟩ : ∃ vb, hd b = vb := ⟨_, rfl⟩
        rw [hvb] at chd clw hdb
        have hmm := @run_makeMap Try.prog
        have KI := int_keyed (P := Try.prog) Try.underlying3
        have hub : u ≤ 4096 := by omega
        clear hG5 hfa hz hlo hvb hx hlw
        go_wp2_with fail
        clear a0 a1 a2 a3 a4 a5 a6 a7 a8 hz5 hmm cf cz chd clw cx e1 e2 e3 e4 e5 e6 hbF hbH hbA hbX hxn hxd hb1 hb2 hb3 hb4 hb5 hb6
        have HBm := Lib.hid (below_alloc (w := w5) (.map #[] 0))
        have HB5m := Lib.hid (HBM5.out.trans (HBm.out.mono HBM5.out.size))
        refine (lsteep_is N1 M s t ⟨some ⟨bF, oF, none⟩, cF, some ⟨bH, oH, none⟩, cH, AR, cR, AC, cC, AA, cA, AB, cB⟩ fst hd rv (some ⟨bX, oX, none⟩) M cX X (some ⟨gH, 0, none⟩) N1 N1 H _ HG.out (HG4.out.on HB5m.out) (HX4.out.on HB5m.out) (HH4.out.on HB5m.out) hsN htN hN8 hM8).mono ?_
        have hle1 := slps_len (N := N1) (M := M) (s := s) (t := t) (nX := M) (hd := hd) (rv := rv) (X := X) (H := H) (q := qSteep)
        have hlt1 := fun a (h : a ∈ slps N1 M s t M hd rv X H qSteep) => slps_lt h
        obtain ⟨L1, hL1⟩ : ∃ L1, slps N1 M s t M hd rv X H qSteep = L1 := ⟨_, rfl⟩
        rw [hL1] at hle1 hlt1 ⊢
        have HL1 := Lib.hid hL1; have HLT1 := Lib.hid hlt1
        clear hL1 hlt1
        rintro e w6 ⟨AQ1, cQ1, rfl, O6, B6⟩
        simp only [World.size_alloc] at O6
        have HO6 := Lib.hid O6
        have M6 : MapsTo intV Try.prog 3 3 w6 w5.heap.size 0 (mkTo L1 1 (fun _ => none) 0) := ((MapsTo.made w5).kept (row := none) ⟨B6.os, B6.tape, B6.output, B6.size, fun k hk _ => B6.block k hk⟩ (by simp)).as fun x => mk_zero x
        have HM6 := Lib.hid M6
        have HB6 := Lib.hid (below_step HBm.out B6)
        have HS6 := Lib.hid (show w5.heap.size + 1 ≤ w6.heap.size by have := B6.size; simpa using this)
        clear O6 M6 B6 HBm HB5m
        go_wp2_with fail
        go_loopw [17, 108] (fun _ i wr => ∃ k cnt : Nat, k ≤ L1.length ∧ cnt ≤ k ∧ i = .int .i64 k ∧ Below w5.heap.size w5 wr ∧ w5.heap.size + 1 ≤ wr.heap.size ∧ wr.ownsRow (w5.heap.size + 1) 3 1 (.slice AQ1 L1.length cQ1) L1.length (nvs L1) ∧ MapsTo intV Try.prog 3 3 wr w5.heap.size cnt (mkTo L1 1 (fun _ => none) k)) (fun _ i _ => L1.length - (intOf i).toNat)
        case atStart => exact ⟨0, 0, Nat.zero_le _, Nat.zero_le _, rfl, HB6.out, HS6.out, HO6.out, HM6.out⟩
        case round =>
          clear HO6 HM6 HB6 HS6
          obtain ⟨k, cnt, hk, hcnt, rfl, hB, hS, hO, hM1⟩ := hrel
          obtain ⟨w7, hw7⟩ := world_of hB
          subst hw7
          have HO := Lib.hid hO; have HM := Lib.hid hM1; have HB := Lib.hid hB; have HS := Lib.hid hS
          by_cases hlt : k < L1.length
          · obtain ⟨a, hak⟩ : ∃ a, L1[k]? = some a := ⟨_, List.getElem?_eq_getElem hlt⟩
            obtain ⟨g, hAg, hgl, cg⟩ := own_nat hO rfl hak
            subst hAg
            have haM := HLT1.out a (List.mem_of_getElem? hak)
            have HPUT := Lib.hid (mk_put (v := 1) (m := fun _ => none) hak)
            clear hak hB hS hO hM1
            go_wp2_with (first
              | (at_mapUpdate
                 refine wpList_mapUpdate_to _ rfl _ _ _ 45 rfl HM.out KI intV_inj Try.underlying45 Try.underlying3 (by unfold maxLen; omega) (a : Int) _ (keyInt (by unfold InR; omega)) 1 (wf_i64 (by unfold InR; omega)) rfl rfl rfl ?_)
              | fail)
            intro w8 hM8' hg8
            clear cg hgl
            go_wp2_with fail
            go_roundw
            case rel =>
              have hsz := hg8.size
              have hss := HS.out
              exact ⟨k + 1, cnt + 1, by omega, by omega, by go_num, HB.out.grown hg8 HB.out.size (fun j hj => by injection hj with hj; omega), by omega, own_map HO.out hg8 (by omega), hM8'.out.as HPUT.out⟩
            case measure => simp [intOf]; omega
          · obtain rfl : k = L1.length := by omega
            have HM1 := Lib.hid (hM1.as fun x => (mk_all (L := L1) (v := 1) (m := fun _ => none) x).symm)
            have HB7 := Lib.hid (hBM_on HBM5.out hB)
            clear hB hS hO hM1 HM HO
            obtain ⟨i0, hi, hz0, hz1, hz2⟩ := info_parts int_info
            have HJ := Lib.hid hi; have HZ0 := Lib.hid hz0; have HZ1 := Lib.hid hz1; have HZ2 := Lib.hid hz2
            clear hi hz0 hz1 hz2
            go_wp2_with (at_builtin; refine wpList_append_row _ rfl (.tmp 115) (.tmp 116) _ rfl w7.heap.size 3 i0 _ 1 8 Try.underlying26 HJ.out HZ0.out HZ1.out HZ2.out rfl (by omega) (some ⟨w7.heap.size, 0, none⟩) 0 0 [] rfl (own_none3 w7) (some ⟨gH, 0, none⟩) N1 N1 (H.flatMap intCells) rfl ?_ ?_ int_one ?_ ?_ ?_ ?_)
            · rw [flat_len (int_len H), HI.out.len]
            · exact RdBy.src (int_len H) ((HH4.out.on HB7.out).onAlloc _)
            · unfold maxLen; omega
            · omega
            · simp
            intro A8 c8 w8 HO8 hg8 hx8
            have B8 : Below w7.heap.size w7 w8 := below_grown (below_alloc (w := w7) (.cells #[] 3)) hg8 (own_none3 w7) (Nat.le_refl _) (by simp)
            have ho8 : w8.ownsRow w7.heap.size 3 1 (.slice A8 N1 c8) N1 (H.map (Value.int .i64)) := by
              have h := HO8.out
              try rw [List.nil_append, Nat.zero_add] at h
              rw [← ivs_flat] at h
              exact h
            have X8 := Hx.one ho8 B8.size B8
            have HX8 := Lib.hid X8
            try rw [Nat.zero_add]
            clear hg8 hx8 HO8 ho8 HJ HZ0 HZ1 HZ2
            obtain ⟨gU, hgU⟩ := X8.held.radr (i := 0) rfl (by omega)
            subst hgU
            obtain ⟨cu, fu, hul, hub2⟩ := X8.cell (i := 0) rfl huN (u := .int .i64 (hOf H u)) (by rw [List.getElem?_map, hOf_get HI.out.len huN]; rfl)
            have C8 := HC4.out.below (HB7.out.trans (B8.mono HB7.out.size)) HC4.out.lt
            obtain ⟨a0, a1, a2, a3, a4, a5, a6, a7, a8⟩ := C8.at9
            have hz8 := C8.lt
            have hwl : IntKind.i64.wrap (lo + 1) = lo + 1 := wrap_any (by omega) (by omega)
            obtain ⟨nv, hnv⟩ : ∃ nv, (if (N1 : Int) < lo + 1 then (N1 : Int) else lo + 1) = nv := ⟨_, rfl⟩
            have hnv2 : 0 ≤ nv ∧ nv ≤ N1 ∧ nv ≤ lo + 1 ∧ (lo < N1 → nv = lo + 1) := by rw [← hnv]; split <;> omega
            have HNV := Lib.hid hnv2
            clear C8 X8 hnv2
            obtain ⟨hu0, hhu⟩ : ∃ h, hOf H u = h := ⟨_, rfl⟩
            have HHU := Lib.hid hhu
            rw [hhu] at cu
            clear hhu
            have hmm := @run_makeMap Try.prog
            have hbase : w2.heap.size < w7.heap.size := by have := HC5.out.lt; have := HS.out; omega
            have h57 : w5.heap.size < w7.heap.size := by have := HS.out; omega
            have hI2 := raise_is HI.out huN hus hut HNV.out.1 HNV.out.2.1
            have HI2 := Lib.hid hI2
            have hX9 := HX8.out.puti u nv
            have HX9 := Lib.hid hX9
            have hB9 := hX9.bel
            have HB9 := Lib.hid hB9
            have HM9 := Lib.hid (HM1.out.kept (row := none) ⟨hB9.os, hB9.tape, hB9.output, hB9.size, fun k hk _ => hB9.block k hk⟩ (by simp))
            have HBT9 := Lib.hid (HB7.out.trans (hB9.mono HB7.out.size))
            have HS9 := Lib.hid (Nat.le_trans HS.out hB9.size)
            clear hX9 hB9 hI2
            go_upto_region 18 with fail
            clear a0 a1 a2 a3 a4 a5 a6 a7 a8 hz8 hwl hmm cu fu hnv
            have hsz9 : (w8.setCell ⟨gU, u, none⟩ (.int .i64 nv)).heap.size = w8.heap.size := by simp
            generalize w8.setCell ⟨gU, u, none⟩ (.int .i64 nv) = w9 at *
            rw [← hsz9]
            clear hsz9
            have HBm9 := Lib.hid (below_alloc (w := w9) (.map #[] 0))
            have HU9 := Lib.hid (HX9.out.held.ints (i := 0) rfl (HI2.out.len))
            have HC9m := Lib.hid (HC4.out.below (HBT9.out.trans (HBm9.out.mono HBT9.out.size)) HC4.out.lt)
            have HB4m := Lib.hid (HBT9.out.trans (HBm9.out.mono HBT9.out.size))
            obtain ⟨a0, a1, a2, a3, a4, a5, a6, a7, a8⟩ := HC9m.out.at9
            have hz9 := HC9m.out.lt
            go_wp2_with fail
            clear a0 a1 a2 a3 a4 a5 a6 a7 a8 hz9
            refine (lsteep_is N1 M s t ⟨some ⟨bF, oF, none⟩, cF, some ⟨bH, oH, none⟩, cH, AR, cR, AC, cC, AA, cA, AB, cB⟩ fst hd rv (some ⟨bX, oX, none⟩) M cX X (some ⟨gU, 0, none⟩) N1 c8 (H.set u nv) _ HG.out (HG4.out.on HB4m.out) (HX4.out.on HB4m.out) (HU9.out.on HBm9.out) hsN htN hN8 hM8).mono ?_
            have hle2 := slps_len (N := N1) (M := M) (s := s) (t := t) (nX := M) (hd := hd) (rv := rv) (X := X) (H := H.set u nv) (q := qSteep)
            have hlt2 := fun a (h : a ∈ slps N1 M s t M hd rv X (H.set u nv) qSteep) => slps_lt h
            obtain ⟨L2, hL2⟩ : ∃ L2, slps N1 M s t M hd rv X (H.set u nv) qSteep = L2 := ⟨_, rfl⟩
            rw [hL2] at hle2 hlt2 ⊢
            have HL2 := Lib.hid hL2; have HLT2 := Lib.hid hlt2
            clear hL2 hlt2
            rintro e w10 ⟨AQ2, cQ2, rfl, O10, B10⟩
            simp only [World.size_alloc] at O10
            have HO10 := Lib.hid O10
            have M10 : MapsTo intV Try.prog 3 3 w10 w9.heap.size 0 (mkTo L2 1 (fun _ => none) 0) := ((MapsTo.made w9).kept (row := none) ⟨B10.os, B10.tape, B10.output, B10.size, fun k hk _ => B10.block k hk⟩ (by simp)).as fun x => mk_zero x
            have HM10 := Lib.hid M10
            have HB10 := Lib.hid (below_step HBm9.out B10)
            have HS10 := Lib.hid (show w9.heap.size + 1 ≤ w10.heap.size by have := B10.size; simpa using this)
            clear O10 M10 B10 HBm9 HB4m HC9m
            go_wp2_with fail
            go_loopw [21, 132] (fun _ i wr => ∃ k2 cnt2 : Nat, k2 ≤ L2.length ∧ cnt2 ≤ k2 ∧ i = .int .i64 k2 ∧ Below w9.heap.size w9 wr ∧ w9.heap.size + 1 ≤ wr.heap.size ∧ wr.ownsRow (w9.heap.size + 1) 3 1 (.slice AQ2 L2.length cQ2) L2.length (nvs L2) ∧ MapsTo intV Try.prog 3 3 wr w9.heap.size cnt2 (mkTo L2 1 (fun _ => none) k2)) (fun _ i _ => L2.length - (intOf i).toNat)
            case atStart => exact ⟨0, 0, Nat.zero_le _, Nat.zero_le _, rfl, HB10.out, HS10.out, HO10.out, HM10.out⟩
            case round =>
              clear HO10 HM10 HB10 HS10
              obtain ⟨k2, cnt2, hk2, hcnt2, rfl, hB, hS, hO, hM2⟩ := hrel
              obtain ⟨w11, hw11⟩ := world_of hB
              subst hw11
              have HO := Lib.hid hO; have HM := Lib.hid hM2; have HB := Lib.hid hB; have HSb := Lib.hid hS
              by_cases hlt2 : k2 < L2.length
              · obtain ⟨a, hak⟩ : ∃ a, L2[k2]? = some a := ⟨_, List.getElem?_eq_getElem hlt2⟩
                obtain ⟨g, hAg, hgl, cg⟩ := own_nat hO rfl hak
                subst hAg
                have haM := HLT2.out a (List.mem_of_getElem? hak)
                have HPUT := Lib.hid (mk_put (v := 1) (m := fun _ => none) hak)
                clear hak hB hS hO hM2
                go_wp2_with (first
                  | (at_mapUpdate
                     refine wpList_mapUpdate_to _ rfl _ _ _ 45 rfl HM.out KI intV_inj Try.underlying45 Try.underlying3 (by unfold maxLen; omega) (a : Int) _ (keyInt (by unfold InR; omega)) 1 (wf_i64 (by unfold InR; omega)) rfl rfl rfl ?_)
                  | fail)
                intro w12 hM12 hg12
                clear cg hgl
                go_wp2_with fail
                go_roundw
                case rel =>
                  have hsz := hg12.size
                  have hss := HSb.out
                  exact ⟨k2 + 1, cnt2 + 1, by omega, by omega, by go_num, HB.out.grown hg12 HB.out.size (fun j hj => by injection hj with hj; omega), by omega, own_map HO.out hg12 (by omega), hM12.out.as HPUT.out⟩
                case measure => simp [intOf]; omega
              · obtain rfl : k2 = L2.length := by omega
                have HM2 := Lib.hid (hM2.as fun x => (mk_all (L := L2) (v := 1) (m := fun _ => none) x).symm)
                have HB11 := Lib.hid (hBM_on HBT9.out hB)
                have HU11 := Lib.hid (HU9.out.on hB)
                have HW11 := Lib.hid (HM9.out.kept (row := none) ⟨hB.os, hB.tape, hB.output, hB.size, fun k hk _ => hB.block k hk⟩ (by simp))
                have HC11 := Lib.hid (HC4.out.below HB11.out HC4.out.lt)
                obtain ⟨a0, a1, a2, a3, a4, a5, a6, a7, a8⟩ := HC11.out.at9
                have hz11 := HC11.out.lt
                clear hB hS hO hM2 HM HO HB
                go_wp2_with fail
                clear a0 a1 a2 a3 a4 a5 a6 a7 a8 hz11
                refine (lflat_is N1 M s t ⟨some ⟨bF, oF, none⟩, cF, some ⟨bH, oH, none⟩, cH, AR, cR, AC, cC, AA, cA, AB, cB⟩ fst hd rv (some ⟨bX, oX, none⟩) M cX X (some ⟨gU, 0, none⟩) N1 c8 (H.set u nv) _ HG.out (HG4.out.on HB11.out) (HX4.out.on HB11.out) HU11.out hsN htN hN8 hM8).mono ?_
                have hle3 := slps_len (N := N1) (M := M) (s := s) (t := t) (nX := M) (hd := hd) (rv := rv) (X := X) (H := H.set u nv) (q := qFlat)
                obtain ⟨L3, hL3⟩ : ∃ L3, slps N1 M s t M hd rv X (H.set u nv) qFlat = L3 := ⟨_, rfl⟩
                rw [hL3] at hle3 ⊢
                have HL3 := Lib.hid hL3
                clear hL3
                rintro e w12 ⟨AQ3, cQ3, rfl, O12, B12⟩
                have HO12 := Lib.hid O12
                have HM12 := Lib.hid (HM2.out.kept (row := none) ⟨B12.os, B12.tape, B12.output, B12.size, fun k hk _ => B12.block k hk⟩ (by simp))
                have HW12 := Lib.hid (HW11.out.kept (row := none) ⟨B12.os, B12.tape, B12.output, B12.size, fun k hk _ => B12.block k hk⟩ (by simp))
                have HU12 := Lib.hid (HU11.out.on B12)
                have HB12 := Lib.hid (below_step HB11.out B12)
                clear O12 B12 HM2 HW11 HU11 HB11 HC11
                have HC12 := Lib.hid (HC4.out.below HB12.out HC4.out.lt)
                have HG12 := Lib.hid (HG4.out.on HB12.out)
                have hgt := HG12.out
                obtain ⟨-, cf⟩ := tab_cell hgt.iF (k := u) (by omega)
                obtain ⟨hbF, cz⟩ := tab_cell hgt.iF (k := u + 1) (by omega)
                rw [HFA.out] at cf
                rw [HZZ.out] at cz
                obtain ⟨a0, a1, a2, a3, a4, a5, a6, a7, a8⟩ := HC12.out.at9
                have hz12 := HC12.out.lt
                clear hgt
                go_wp2_with fail
                go_loopw [22, 24, 144] (fun fl _ ii wr => ∃ j : Nat, j ≤ L3.length ∧ ii = .int .i64 j ∧ fl = .bool (anyTo L3 fa z j) ∧ wr = w12) (fun _ _ ii _ => L3.length - (intOf ii).toNat)
                case atStart => exact ⟨0, Nat.zero_le _, rfl, rfl, rfl⟩
                case round =>
                  obtain ⟨j, hj, rfl, rfl, hwr⟩ := hrel
                  subst hwr
                  by_cases hjl : j < L3.length
                  · obtain ⟨a, hak⟩ : ∃ a, L3[j]? = some a := ⟨_, List.getElem?_eq_getElem hjl⟩
                    obtain ⟨g, hAg, hgl, cg⟩ := own_nat HO12.out rfl hak
                    subst hAg
                    have HAP := Lib.hid (any_put (f := fa) (z := z) hak)
                    clear hak
                    cases hfl : anyTo L3 fa z j with
                    | true =>
                      have HFL := Lib.hid hfl
                      clear hfl
                      go_wp2_with fail
                      go_roundw
                      case rel => exact ⟨j + 1, by omega, by go_num, by rw [HAP.out, HFL.out]; rfl, trivial⟩
                      case measure => simp [intOf]; omega
                    | false =>
                      have HFL := Lib.hid hfl
                      clear hfl
                      by_cases h1 : fa ≤ a
                      · by_cases h2 : a < z
                        · have g1 : (fa : Int) ≤ (a : Int) := by omega
                          have g2 : (a : Int) < (z : Int) := by omega
                          go_wp2_with fail
                          go_roundw
                          case rel => exact ⟨j + 1, by omega, by go_num, by rw [HAP.out, HFL.out]; simp [h1, h2], trivial⟩
                          case measure => simp [intOf]; omega
                        · have g1 : (fa : Int) ≤ (a : Int) := by omega
                          have g2 : decide ((a : Int) < (z : Int)) = false := decide_eq_false (by omega)
                          have g3 : decide (a < z) = false := decide_eq_false h2
                          go_wp2_with fail
                          go_roundw
                          case rel => exact ⟨j + 1, by omega, by go_num, by rw [HAP.out, HFL.out]; simp [h2], trivial⟩
                          case measure => simp [intOf]; omega
                      · have g1 : decide ((fa : Int) ≤ (a : Int)) = false := decide_eq_false (by omega)
                        have g3 : decide (fa ≤ a) = false := decide_eq_false h1
                        go_wp2_with fail
                        go_roundw
                        case rel => exact ⟨j + 1, by omega, by go_num, by rw [HAP.out, HFL.out]; simp [h1], trivial⟩
                        case measure => simp [intOf]; omega
                  · obtain rfl : j = L3.length := by omega
                    have hfin : anyTo L3 fa z L3.length = true ∨ lo = N1 := by
                      by_cases hlN : lo < N1
                      · refine .inl (any_all (a := b) ?_ hr1 hr2)
                        rw [← HL3.out]
                        exact raise_flat HG.out HNO.out HI.out huN hus HLW.out HI2.out (by rw [HLO.out]; exact HNV.out.2.2.2 hlN)
                      · exact .inr (by omega)
                    have HFIN := Lib.hid hfin
                    obtain ⟨fl, hfl⟩ : ∃ fl, anyTo L3 fa z L3.length = fl := ⟨_, rfl⟩
                    rw [hfl] at HFIN ⊢
                    have HBT := Lib.hid HB12.out
                    clear hfl hfin HO12
                    go_wp2_with fail
                    clear a0 a1 a2 a3 a4 a5 a6 a7 a8 hz12 cf cz hbF
                    obtain ⟨w13, hw13⟩ := world_of HBT.out
                    subst hw13
                    go_loopw [25, 26, 171, 191] (fun _ _ ii _ wr => ∃ k : Nat, k ≤ M ∧ ii = .int .i64 k ∧ Below w13.heap.size w13 wr ∧ MapsTo intV Try.prog 3 3 wr w5.heap.size cnt (fun x => if x ∈ L1.map (fun a : Nat => (a : Int)) then some 1 else none) ∧ MapsTo intV Try.prog 3 3 wr w9.heap.size cnt2 (fun x => if x ∈ L2.map (fun a : Nat => (a : Int)) then some 1 else none)) (fun _ _ ii _ _ => M - (intOf ii).toNat)
                    case atStart => exact ⟨0, Nat.zero_le _, rfl, Below.refl _ _, HW12.out, HM12.out⟩
                    case round =>
                      obtain ⟨k, hk, rfl, hB, hW, hM2⟩ := hrel
                      obtain ⟨w14, hw14⟩ := world_of hB
                      subst hw14
                      have HBB := Lib.hid hB; have HWM := Lib.hid hW; have HNM := Lib.hid hM2
                      have HC14 := Lib.hid (HC12.out.below hB HC12.out.lt)
                      have hg14 := HG12.out.on hB
                      obtain ⟨-, cf⟩ := tab_cell hg14.iF (k := u) (by omega)
                      obtain ⟨hbF, cz⟩ := tab_cell hg14.iF (k := u + 1) (by omega)
                      rw [HFA.out] at cf
                      rw [HZZ.out] at cz
                      obtain ⟨a0, a1, a2, a3, a4, a5, a6, a7, a8⟩ := HC14.out.at9
                      have hz14 := HC14.out.lt
                      clear hB hW hM2
                      by_cases hlt4 : k < M
                      · obtain ⟨hbH, chd⟩ := tab_cell hg14.iH hlt4
                        have hup : hOf (H.set u nv) u = nv := by rw [hOf_set (by rw [HI.out.len]; exact huN), if_pos rfl]
                        obtain ⟨hbU, cup⟩ := (HU12.out.on HBB.out).cel (hOf_get HI2.out.len huN)
                        rw [hup, Nat.zero_add] at cup
                        obtain ⟨hbA, chu⟩ := (HH4.out.on (below_step HBT.out HBB.out)).cel (hOf_get HI.out.len huN)
                        rw [HHU.out, Nat.zero_add] at chu
                        have hlw := fun q => (HWM.out.drewN q).look (t := 45) KI Try.underlying45 Try.underlying3 (zero_int _) (keyInt (x := (k : Int)) (by unfold InR; omega))
                        have hln := fun q => (HNM.out.drewN q).look (t := 45) KI Try.underlying45 Try.underlying3 (zero_int _) (keyInt (x := (k : Int)) (by unfold InR; omega))
                        obtain ⟨wv, hwv⟩ : ∃ wv, (if (k : Int) ∈ L1.map (fun a : Nat => (a : Int)) then some (1 : Int) else none).getD 0 = wv := ⟨_, rfl⟩
                        obtain ⟨nw, hnw⟩ : ∃ nw, (if (k : Int) ∈ L2.map (fun a : Nat => (a : Int)) then some (1 : Int) else none).getD 0 = nw := ⟨_, rfl⟩
                        have hlw' : ∀ q, (Instr.lookup 45 (.map (some w5.heap.size)) (.int .i64 (k : Int)) false).run Try.prog (w14.drewN q) = .ok (.int .i64 wv) (w14.drewN q) := fun q => by rw [← hwv]; exact hlw q
                        have hln' : ∀ q, (Instr.lookup 45 (.map (some w9.heap.size)) (.int .i64 (k : Int)) false).run Try.prog (w14.drewN q) = .ok (.int .i64 nw) (w14.drewN q) := fun q => by rw [← hnw]; exact hln q
                        have hlw2 : (Instr.lookup 45 (.map (some w5.heap.size)) (.int .i64 (k : Int)) false).run Try.prog w14 = .ok (.int .i64 wv) w14 := hlw' 0
                        have hln2 : (Instr.lookup 45 (.map (some w9.heap.size)) (.int .i64 (k : Int)) false).run Try.prog w14 = .ok (.int .i64 nw) w14 := hln' 0
                        have w1 : k ∈ L1 → wv = 1 := fun h => by rw [← hwv, if_pos (nat_mem.2 h)]; rfl
                        have w0 : ¬ k ∈ L1 → wv = 0 := fun h => by rw [← hwv, if_neg (fun g => h (nat_mem.1 g))]; rfl
                        have v1 : k ∈ L2 → nw = 1 := fun h => by rw [← hnw, if_pos (nat_mem.2 h)]; rfl
                        have v0 : ¬ k ∈ L2 → nw = 0 := fun h => by rw [← hnw, if_neg (fun g => h (nat_mem.1 g))]; rfl
                        clear hlw hln hwv hnw hg14 hup
                        by_cases hm : fa ≤ k ∧ k < z
                        · obtain ⟨m1, m2⟩ := hm
                          have hn := raise_mine (a := k) (nv := nv) HG.out HNO.out HI.out huN HLW.out HI2.out (by rw [HLO.out]; exact HNV.out.2.2.1) (by rw [HFA.out]; exact m1) (by rw [HZZ.out]; exact m2)
                          rw [HL2.out] at hn
                          obtain rfl := v0 hn
                          have g1 : (fa : Int) ≤ (k : Int) := by omega
                          have g2 : (k : Int) < (z : Int) := by omega
                          clear hn w1 w0 v1 v0
                          go_wp2_with fail
                          go_quiet (fail)
                          go_wp2_with fail
                          go_roundw
                          case rel => exact ⟨k + 1, by omega, by go_num, below_drewN' HBB.out _, HWM.out.drewN _, HNM.out.drewN _⟩
                          case measure => simp [intOf]; omega
                        · have htl : hd (rv k) ≠ u := fun e => by
                            have hr := HG.out.row hlt4
                            rw [e, HFA.out, HZZ.out] at hr
                            exact hm ⟨hr.1, hr.2.1⟩
                          have hoth : hd k ≠ u → wv = nw := fun hq => by
                            have h := raise_other (a := k) (nv := nv) HI.out huN HI2.out htl hq (X := X) (M := M) (rv := rv)
                            rw [HL1.out, HL2.out] at h
                            by_cases c : k ∈ L1
                            · rw [w1 c, v1 (h.1 c)]
                            · rw [w0 c, v0 (fun g => c (h.2 g))]
                          have hin : hd k = u → hu0 ≤ nv → nw = 1 → wv = 1 := fun hq hge h1 => by
                            by_cases c : k ∈ L2
                            · have h := raise_in (a := k) (nv := nv) HI.out huN HI2.out htl hq (by rw [HHU.out]; exact hge) (X := X) (M := M) (rv := rv)
                              rw [HL1.out, HL2.out] at h
                              exact w1 (h c)
                            · rw [v0 c] at h1
                              omega
                          generalize hd k = q0 at *
                          clear w1 w0 v1 v0 htl
                          rcases (show (¬ fa ≤ k) ∨ (fa ≤ k ∧ ¬ k < z) by omega) with m1 | ⟨m1, m2⟩
                          · have g1 : decide ((fa : Int) ≤ (k : Int)) = false := decide_eq_false (by omega)
                            have g3 : decide (fa ≤ k) = false := decide_eq_false m1
                            by_cases hq : q0 = u
                            · subst hq
                              by_cases hge : hu0 ≤ nv
                              · by_cases hn1 : nw = 1
                                · obtain rfl := hin rfl hge hn1
                                  subst hn1
                                  clear hin hoth
                                  go_wp2_with fail
                                  go_quiet (fail)
                                  go_wp2_with fail
                                  go_roundw
                                  case rel => exact ⟨k + 1, by omega, by go_num, below_drewN' HBB.out _, HWM.out.drewN _, HNM.out.drewN _⟩
                                  case measure => simp [intOf]; omega
                                · have g4 : (nw == 1) = false := beq_false_of_ne hn1
                                  have g5 : decide (nw = 1) = false := decide_eq_false hn1
                                  clear hin hoth
                                  go_wp2_with fail
                                  go_quiet (fail)
                                  go_wp2_with fail
                                  go_roundw
                                  case rel => exact ⟨k + 1, by omega, by go_num, below_drewN' HBB.out _, HWM.out.drewN _, HNM.out.drewN _⟩
                                  case measure => simp [intOf]; omega
                              · have g4 : decide (hu0 ≤ nv) = false := decide_eq_false hge
                                clear hin hoth
                                go_wp2_with fail
                                go_quiet (fail)
                                go_wp2_with fail
                                go_roundw
                                case rel => exact ⟨k + 1, by omega, by go_num, below_drewN' HBB.out _, HWM.out.drewN _, HNM.out.drewN _⟩
                                case measure => simp [intOf]; omega
                            · obtain rfl := hoth hq
                              have g4 : ¬ (q0 : Int) = (u : Int) := by omega
                              have g5 : ((q0 : Int) == (u : Int)) = false := beq_false_of_ne g4
                              have g6 : decide ((q0 : Int) = (u : Int)) = false := decide_eq_false g4
                              clear hin hoth
                              go_wp2_with fail
                              go_quiet (fail)
                              go_wp2_with fail
                              go_roundw
                              case rel => exact ⟨k + 1, by omega, by go_num, below_drewN' HBB.out _, HWM.out.drewN _, HNM.out.drewN _⟩
                              case measure => simp [intOf]; omega
                          · have g1 : (fa : Int) ≤ (k : Int) := by omega
                            have g2 : decide ((k : Int) < (z : Int)) = false := decide_eq_false (by omega)
                            have g3 : decide (k < z) = false := decide_eq_false m2
                            by_cases hq : q0 = u
                            · subst hq
                              by_cases hge : hu0 ≤ nv
                              · by_cases hn1 : nw = 1
                                · obtain rfl := hin rfl hge hn1
                                  subst hn1
                                  clear hin hoth
                                  go_wp2_with fail
                                  go_quiet (fail)
                                  go_wp2_with fail
                                  go_roundw
                                  case rel => exact ⟨k + 1, by omega, by go_num, below_drewN' HBB.out _, HWM.out.drewN _, HNM.out.drewN _⟩
                                  case measure => simp [intOf]; omega
                                · have g4 : (nw == 1) = false := beq_false_of_ne hn1
                                  have g5 : decide (nw = 1) = false := decide_eq_false hn1
                                  clear hin hoth
                                  go_wp2_with fail
                                  go_quiet (fail)
                                  go_wp2_with fail
                                  go_roundw
                                  case rel => exact ⟨k + 1, by omega, by go_num, below_drewN' HBB.out _, HWM.out.drewN _, HNM.out.drewN _⟩
                                  case measure => simp [intOf]; omega
                              · have g4 : decide (hu0 ≤ nv) = false := decide_eq_false hge
                                clear hin hoth
                                go_wp2_with fail
                                go_quiet (fail)
                                go_wp2_with fail
                                go_roundw
                                case rel => exact ⟨k + 1, by omega, by go_num, below_drewN' HBB.out _, HWM.out.drewN _, HNM.out.drewN _⟩
                                case measure => simp [intOf]; omega
                            · obtain rfl := hoth hq
                              have g4 : ¬ (q0 : Int) = (u : Int) := by omega
                              have g5 : ((q0 : Int) == (u : Int)) = false := beq_false_of_ne g4
                              have g6 : decide ((q0 : Int) = (u : Int)) = false := decide_eq_false g4
                              clear hin hoth
                              go_wp2_with fail
                              go_quiet (fail)
                              go_wp2_with fail
                              go_roundw
                              case rel => exact ⟨k + 1, by omega, by go_num, below_drewN' HBB.out _, HWM.out.drewN _, HNM.out.drewN _⟩
                              case measure => simp [intOf]; omega
                      · have HBZ := Lib.hid (below_step (below_step HB4.out HBT.out) HBB.out)
                        have hkM : ¬ (k : Int) < (M : Int) := by omega
                        have hkd : decide ((k : Int) < (M : Int)) = false := decide_eq_false hkM
                        clear hg14 cf cz hbF
                        cases fl with
                        | true =>
                          go_wp2_with fail
                          refine (awake6_any _).mono ?_
                          rintro e w15 ⟨rfl, B15⟩
                          have HB15 := Lib.hid (below_step HBZ.out B15)
                          clear B15
                          go_wp2_with fail
                          go_ret
                          exact ⟨rfl, HB15.out⟩
                        | false =>
                          have hlN : lo = (N1 : Int) := by
                            rcases HFIN.out with h | h
                            · cases h
                            · exact h
                          subst hlN
                          go_wp2_with fail
                          refine (awake6_any _).mono ?_
                          rintro e w15 ⟨rfl, B15⟩
                          have HB15 := Lib.hid (below_step HBZ.out B15)
                          clear B15
                          go_wp2_with fail
                          go_ret
                          exact ⟨rfl, HB15.out⟩
  · have HBZ := HB5
    go_wp2_with fail
    refine (awake6_any _).mono ?_
    rintro e w15 ⟨rfl, B15⟩
    have HB15 := Lib.hid (below_step HBZ.out B15)
    clear B15
    go_wp2_with fail
    go_ret
    exact ⟨rfl, HB15.out⟩


end Go.Proofs.Ytnhfdmfciddmaaa
