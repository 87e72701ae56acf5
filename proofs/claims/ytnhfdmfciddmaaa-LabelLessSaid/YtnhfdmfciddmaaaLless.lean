/- LabelLess: the walk. -/
import Derived.Test.YtnhfdmfciddmaaaLabm
import Derived.Test.YtnhfdmfciddmaaaLabl
namespace Go.Proofs.Ytnhfdmfciddmaaa
open Go.RowKit
set_option maxRecDepth 100000

theorem csr_keepc {w W : World} {b : Nat} {t : TypeId} {v0 v1 v2 v3 v4 v5 v6 v7 v8 u : Value} {p : Addr} (C : Blk w b t #[v0, v1, v2, v3, v4, v5, v6, v7, v8]) (hp : w.cell? p = some u) (hl : p.block < w.heap.size) (B : Below w.heap.size w W) :
    Below w.heap.size w W ∧ W.cell? ⟨b, 0, none⟩ = some v0 ∧ W.cell? ⟨b, 1, none⟩ = some v1 ∧ W.cell? ⟨b, 2, none⟩ = some v2 ∧ W.cell? ⟨b, 3, none⟩ = some v3 ∧ W.cell? ⟨b, 4, none⟩ = some v4 ∧ W.cell? ⟨b, 5, none⟩ = some v5 ∧ W.cell? ⟨b, 6, none⟩ = some v6 ∧ W.cell? ⟨b, 7, none⟩ = some v7 ∧ W.cell? ⟨b, 8, none⟩ = some v8 ∧ W.cell? p = some u := by
  obtain ⟨a0, a1, a2, a3, a4, a5, a6, a7, a8⟩ := (C.below B C.lt).at9
  exact ⟨B, a0, a1, a2, a3, a4, a5, a6, a7, a8, (B.cell hl).trans hp⟩

set_option maxHeartbeats 16000000 in
theorem lless_walk (N S T : Int) (A : Option Addr) (n c : Nat) (l : List ArcN) (AL : Option Addr) (nl cl : Nat) (L : List Int) (AH : Option Addr) (nh ch : Nat) (LH : List Int) (AG : Option Addr) (ng cg : Nat) (LG : List Int) (w : World) (hA : Arcs w w.heap.size A n l) (hf : FitsAll l) (hnc : n ≤ c) (hL : Ints w w.heap.size AL nl L) (hLR : ∀ x ∈ L, InR x) (hH : Ints w w.heap.size AH nh LH) (hGa : Ints w w.heap.size AG ng LG) :
    Calls Try.prog 7 #[.agg #[.int .i64 N, .int .i64 S, .int .i64 T, .slice A n c], .slice AL nl cl, .slice AG ng cg, .slice AH nh ch] w fun e w' => e = .returned (.bool true) ∧ Below w.heap.size w w' := by
  have hso := fun W hW => some_any N S T A n c 16 40 l W hW hf hnc (by omega) (by omega) (by omega)
  obtain ⟨N1, hN1, hN2, hN3, hck, hln, hmem⟩ := some_net N S T 16 40 l (by omega) (by omega) (by omega)
  rw [hN1] at hso hck hln hmem
  generalize S % (N1 : Int) = S1 at *
  generalize someT (N1 : Int) S T = T1 at *
  generalize someL (N1 : Int) 40 l = l1 at *
  obtain ⟨-, -, -, -, hs0, hs1, ht0, ht1, hst, -, -⟩ := ends_in hck
  obtain ⟨s, rfl⟩ := Int.eq_ofNat_of_zero_le hs0
  obtain ⟨t, rfl⟩ := Int.eq_ofNat_of_zero_le ht0
  have hsN : s < N1 := by omega
  have htN : t < N1 := by omega
  have hst' : s ≠ t := fun e => hst (by rw [e])
  have HST := Lib.hid hst'
  have HSO := Lib.hid hso; have HCK := Lib.hid hck; have HLR := Lib.hid hLR
  have HCAP := Lib.hid fun (x : ArcN) (hx : x ∈ l1) => (show 0 ≤ x.cap ∧ x.cap < 1125899906842624 by have := hmem x hx; omega)
  clear hso hck hN1 hmem hLR hs0 hs1 ht0 ht1 hst hst'
  have HH := Lib.hid hH; have HHG := Lib.hid hGa
  clear hH hGa
  go_enter Try.func7, Try.ntmps7
  go_wp2_with fail
  refine (HSO.out _ (hA.onAlloc _)).mono ?_
  rintro e w1 ⟨A1, n1, c1, rfl, o1, hl1, B1⟩
  have a1 := arcs_own o1 hl1
  have Bw1 := below_step (below_alloc _) B1
  have L1 := (hL.below Bw1).more Bw1.size
  clear B1 o1 hA hL HSO
  go_wp2_with fail
  refine (left_grid_own N1 s t A1 n1 c1 l1 AL nl cl L _ a1 HCK.out L1 HLR.out HCAP.out (by omega) (by omega)).mono ?_
  rintro e w2 ⟨x0, M, K, fst, hd, rv, AX, cX, X, rfl, hG, G2, X2, ⟨hM, hXb⟩, B2, O2, hx1, hx2⟩
  obtain ⟨AF, cF, AH', cH, AR, cR, AC, cC, AA, cA, AB, cB⟩ := K
  obtain ⟨bF, oF, hF⟩ := G2.iF.adr (by omega)
  dsimp only at hF
  subst hF
  have Bw2 := below_step Bw1 B2
  have HG := Lib.hid hG
  have hXl : X.length = M := X2.len
  have hcx : M ≤ cX := own_cap O2
  have hx3 : w.heap.size ≤ x0 := Nat.le_trans Bw1.size hx1
  clear B2 Bw1 a1 L1 hG HCK HLR HCAP hl1 hln hx1
  dsimp only [csrW]
  have C3 : Blk (w2.alloc (.cells #[.int .i64 (N1 : Int), .int .i64 (s : Int), .int .i64 (t : Int), .slice (some ⟨bF, oF, none⟩) (N1 + 1) cF, .slice AH' M cH, .slice AR M cR, .slice AC M cC, .slice AA M cA, .slice AB M cB] 29)) w2.heap.size 29 #[.int .i64 (N1 : Int), .int .i64 (s : Int), .int .i64 (t : Int), .slice (some ⟨bF, oF, none⟩) (N1 + 1) cF, .slice AH' M cH, .slice AR M cR, .slice AC M cC, .slice AA M cA, .slice AB M cB] := Blk.new rfl
  have G3 := G2.below ((below_alloc (w := w2) (.cells #[.int .i64 (N1 : Int), .int .i64 (s : Int), .int .i64 (t : Int), .slice (some ⟨bF, oF, none⟩) (N1 + 1) cF, .slice AH' M cH, .slice AR M cR, .slice AC M cC, .slice AA M cA, .slice AB M cB] 29)).mono hx2)
  have X3 := X2.onAlloc (.cells #[.int .i64 (N1 : Int), .int .i64 (s : Int), .int .i64 (t : Int), .slice (some ⟨bF, oF, none⟩) (N1 + 1) cF, .slice AH' M cH, .slice AR M cR, .slice AC M cC, .slice AA M cA, .slice AB M cB] 29)
  have O3 := O2.alloc (.cells #[.int .i64 (N1 : Int), .int .i64 (s : Int), .int .i64 (t : Int), .slice (some ⟨bF, oF, none⟩) (N1 + 1) cF, .slice AH' M cH, .slice AR M cR, .slice AC M cC, .slice AA M cA, .slice AB M cB] 29)
  have Bw3 := Bw2.alloc Bw2.size (.cells #[.int .i64 (N1 : Int), .int .i64 (s : Int), .int .i64 (t : Int), .slice (some ⟨bF, oF, none⟩) (N1 + 1) cF, .slice AH' M cH, .slice AR M cR, .slice AC M cC, .slice AA M cA, .slice AB M cB] 29)
  have hx4 : x0 ≤ w2.heap.size := hx2
  have hM8 : M ≤ 100000000 := by omega
  have hN8 : N1 ≤ 4096 := by omega
  go_upto_region 2 with fail
  have hz3 := C3.lt
  generalize hw3 : w2.alloc (.cells #[.int .i64 (N1 : Int), .int .i64 (s : Int), .int .i64 (t : Int), .slice (some ⟨bF, oF, none⟩) (N1 + 1) cF, .slice AH' M cH, .slice AR M cR, .slice AC M cC, .slice AA M cA, .slice AB M cB] 29) = w3 at *
  have hx5 : w3.heap.size = w2.heap.size + 1 := by rw [← hw3]; simp
  clear G2 X2 O2 Bw2 hw3 hx2
  obtain ⟨a0, a1, a2, a3, a4, a5, a6, a7, a8⟩ := C3.at9
  have HC3 := Lib.hid C3; have HG3 := Lib.hid G3; have HX3 := Lib.hid X3; have HB3 := Lib.hid Bw3; have HO3 := Lib.hid O3; have HS5 := Lib.hid hx5
  clear C3 G3 X3 Bw3 O3 hx5
  clear a0 a1 a2 a3 a4 a5 a6 a7 a8
  have cg1 := fun W h => heights_is N1 M s t ⟨some ⟨bF, oF, none⟩, cF, AH', cH, AR, cR, AC, cC, AA, cA, AB, cB⟩ AG ng cg LG W h hsN htN HST.out hN8
  have ch1 := fun W h => heights_is N1 M s t ⟨some ⟨bF, oF, none⟩, cF, AH', cH, AR, cR, AC, cC, AA, cA, AB, cB⟩ AH nh ch LH W h hsN htN HST.out hN8
  dsimp only [csrW] at cg1 ch1
  have CG := Lib.hid cg1; have CH := Lib.hid ch1
  have HG1 := Lib.hid ((HHG.out.below HB3.out).more HB3.out.size)
  have HH1 := Lib.hid ((HH.out.below HB3.out).more HB3.out.size)
  clear cg1 ch1
  go_region_held3 (fun W => Below w3.heap.size w3 W ∧ W.cell? ⟨w2.heap.size, 0, none⟩ = some (.int .i64 (N1 : Int)) ∧ W.cell? ⟨w2.heap.size, 1, none⟩ = some (.int .i64 (s : Int)) ∧ W.cell? ⟨w2.heap.size, 2, none⟩ = some (.int .i64 (t : Int)) ∧ W.cell? ⟨w2.heap.size, 3, none⟩ = some (.slice (some ⟨bF, oF, none⟩) (N1 + 1) cF) ∧ W.cell? ⟨w2.heap.size, 4, none⟩ = some (.slice AH' M cH) ∧ W.cell? ⟨w2.heap.size, 5, none⟩ = some (.slice AR M cR) ∧ W.cell? ⟨w2.heap.size, 6, none⟩ = some (.slice AC M cC) ∧ W.cell? ⟨w2.heap.size, 7, none⟩ = some (.slice AA M cA) ∧ W.cell? ⟨w2.heap.size, 8, none⟩ = some (.slice AB M cB))
    (first
      | exact csr_keep HC3.out (Below.refl _ _).drew
      | (go_split_ands
         exact csr_keep HC3.out (by refine below_step ?_ (by assumption); assumption)))
    (first
      | (go_at_call 10; go_split_ands; ((with_reducible refine (CG.out _ (HG1.out.on (by assumption))).mono ?_); rintro e W4 ⟨gG, rfl, hgG, KG, B4⟩; have K4 := Lib.hid (And.intro KG hgG); clear KG hgG))
      | (go_at_call 10; go_split_ands; ((with_reducible refine (CH.out _ (HH1.out.on (by assumption))).mono ?_); rintro e W5 ⟨gH, rfl, hgH, KH, B5⟩; have K5 := Lib.hid (And.intro KH hgH); have K4b := Lib.hid (K4.out.1.below B5 K4.out.1.lt); have H4b := Lib.hid (Nat.lt_of_lt_of_le K4.out.1.lt (show _ ≤ gH from hgH)); clear KH hgH)))
  go_split_ands
  have hB : Below w3.heap.size w3 W5 := by assumption
  have hg3 : w3.heap.size ≤ gG := Nat.le_trans (Below.size (B := w3.heap.size) (w := w3) (by assumption)) K4.out.2
  have hgl : gG < gH := H4b.out
  have hP6 : Blk (W5.alloc (.cells #[.slice (some ⟨gG, 0, none⟩) N1 N1, .slice (some ⟨gH, 0, none⟩) N1 N1] 26)) W5.heap.size 26 #[.slice (some ⟨gG, 0, none⟩) N1 N1, .slice (some ⟨gH, 0, none⟩) N1 N1] := Blk.new rfl
  have HP6 := Lib.hid hP6
  have HG6 := Lib.hid (K4b.out.alloc (.cells #[.slice (some ⟨gG, 0, none⟩) N1 N1, .slice (some ⟨gH, 0, none⟩) N1 N1] 26)); have HH6 := Lib.hid (K5.out.1.alloc (.cells #[.slice (some ⟨gG, 0, none⟩) N1 N1, .slice (some ⟨gH, 0, none⟩) N1 N1] 26))
  have HB6 := Lib.hid (hB.alloc hB.size (.cells #[.slice (some ⟨gG, 0, none⟩) N1 N1, .slice (some ⟨gH, 0, none⟩) N1 N1] 26))
  have hgP : gH < W5.heap.size := K5.out.1.lt
  have hz5 := hB.size
  have HIG := Lib.hid (ht_is (L := LG) hsN htN HST.out); have HIH := Lib.hid (ht_is (L := LH) hsN htN HST.out)
  clear hP6 hB K4 K5 K4b H4b CG CH HG1 HH1
  generalize htAll N1 s t LG = G0 at *
  generalize htAll N1 s t LH = H0 at *
  have hnn : N1 * N1 ≤ 1002001 := Nat.mul_le_mul hN3 hN3
  have hnn0 : 0 < N1 * N1 := Nat.mul_pos (by omega) (by omega)
  obtain ⟨nn, hnd⟩ : ∃ nn, N1 * N1 = nn := ⟨_, rfl⟩
  have hw1 : IntKind.i64.wrap ((N1 : Int) * (N1 : Int)) = (nn : Int) := by rw [← Int.natCast_mul, hnd]; exact wrap_any (by omega) (by omega)
  have hw2 : IntKind.i64.wrap ((nn : Int) * 2) = ((nn * 2 : Nat) : Int) := by rw [wrap_any (by omega) (by omega)]; omega
  have HW1 := Lib.hid hw1; have HW2 := Lib.hid hw2; have HND := Lib.hid hnd
  rw [hnd] at hnn hnn0
  clear hw1 hw2 hnd
  go_wp2_with fail
  generalize hw6 : W5.alloc (.cells #[.slice (some ⟨gG, 0, none⟩) N1 N1, .slice (some ⟨gH, 0, none⟩) N1 N1] 26) = w6 at *
  generalize W5.heap.size = gP at *
  go_loopw [12, 13, 14, 15, 36] (fun _ _ _ _ ii wr => ∃ (i : Nat) (G H : List Int), i ≤ 2 ∧ ii = .int .i64 i ∧ Below w3.heap.size w3 wr ∧ Blk wr gG 3 (ivs G) ∧ Blk wr gH 3 (ivs H) ∧ Blk wr gP 26 #[.slice (some ⟨gG, 0, none⟩) N1 N1, .slice (some ⟨gH, 0, none⟩) N1 N1] ∧ HtIs N1 s t G ∧ HtIs N1 s t H ∧ (1 ≤ i → validB N1 M s t M hd rv X G = true) ∧ (2 ≤ i → validB N1 M s t M hd rv X H = true)) (fun _ _ _ _ ii _ => 2 - (intOf ii).toNat)
  case atStart => exact ⟨0, G0, H0, Nat.zero_le _, rfl, HB6.out, HG6.out, HH6.out, HP6.out, HIG.out, HIH.out, fun h => absurd h (by omega), fun h => absurd h (by omega)⟩
  case round =>
    clear HB6 HG6 HH6 HP6 HIG HIH hw6
    obtain ⟨i, G, H, hi, rfl, hB, hKG, hKH, hKP, hIG, hIH, hVG, hVH⟩ := hrel
    obtain ⟨w7, hw7⟩ := world_of hB
    subst hw7
    by_cases hlt : i < 2
    · -- the row that is lowered, and the other one
      have hpick : ∃ (gx gy : Nat) (Z Y : List Int), w7.cell? ⟨gP, i, none⟩ = some (.slice (some ⟨gx, 0, none⟩) N1 N1) ∧ Blk w7 gx 3 (ivs Z) ∧ Blk w7 gy 3 (ivs Y) ∧ gx ≠ gy ∧ w3.heap.size ≤ gx ∧ gx < gP ∧ HtIs N1 s t Z ∧
          (∀ (W : World) (Z' : List Int), Blk W gx 3 (ivs Z') → Blk W gy 3 (ivs Y) → HtIs N1 s t Z' → validB N1 M s t M hd rv X Z' = true →
            ∃ G H : List Int, Blk W gG 3 (ivs G) ∧ Blk W gH 3 (ivs H) ∧ HtIs N1 s t G ∧ HtIs N1 s t H ∧ (1 ≤ i + 1 → validB N1 M s t M hd rv X G = true) ∧ (2 ≤ i + 1 → validB N1 M s t M hd rv X H = true)) := by
        match i, hlt with
        | 0, _ => exact ⟨gG, gH, G, H, hKP.cell 0, hKG, hKH, by omega, by omega, by omega, hIG, fun W Z' h1 h2 h3 h4 => ⟨Z', H, h1, h2, h3, hIH, fun _ => h4, fun h => absurd h (by omega)⟩⟩
        | 1, _ => exact ⟨gH, gG, H, G, hKP.cell 1, hKH, hKG, by omega, by omega, by omega, hIH, fun W Z' h1 h2 h3 h4 => ⟨G, Z', h2, h1, hIG, h3, fun _ => hVG (by omega), fun _ => h4⟩⟩
      obtain ⟨gx, gy, Z, Y, cP, hKx, hKy, hxy, hgx, hgxP, hIZ, hback⟩ := hpick
      have HBK := Lib.hid hback
      have HKx := Lib.hid hKx; have HKy := Lib.hid hKy; have HKP := Lib.hid hKP; have HIZ := Lib.hid hIZ; have HB := Lib.hid hB
      have C7 := HC3.out.below hB HC3.out.lt
      obtain ⟨a0, a1, a2, a3, a4, a5, a6, a7, a8⟩ := C7.at9
      have hz7 := C7.lt
      have hzP := hKP.lt
      have hsum := sumH_le hIZ N1 (Nat.le_refl _)
      rw [← Int.natCast_mul, HND.out] at hsum
      have hw1 := HW1.out; have hw2 := HW2.out
      have hi2 : (i : Int) < 2 := by omega
      have hi3 : decide ((i : Int) < 2) = true := decide_eq_true hi2
      clear hback hKx hKy hKP hIZ hB C7 hKG hKH hIG hIH hVG hVH
      go_wp2_with fail
      clear a0 a1 a2 a3 a4 a5 a6 a7 a8 hz7 hzP cP hw1 hw2
      go_loopw [13, 14, 15, 46] (fun _ _ _ ii wr => ∃ (k : Nat) (Z : List Int), k ≤ nn * 2 ∧ ii = .int .i64 k ∧ Below w3.heap.size w3 wr ∧ Blk wr gx 3 (ivs Z) ∧ Blk wr gy 3 (ivs Y) ∧ Blk wr gP 26 #[.slice (some ⟨gG, 0, none⟩) N1 N1, .slice (some ⟨gH, 0, none⟩) N1 N1] ∧ HtIs N1 s t Z ∧ sumH Z N1 + (k : Int) ≤ (nn : Int)) (fun _ _ _ ii _ => nn * 2 - (intOf ii).toNat)
      case atStart => exact ⟨0, Z, Nat.zero_le _, rfl, HB.out, HKx.out, HKy.out, HKP.out, HIZ.out, by omega⟩
      case round =>
        clear HKx HKy HKP HIZ HB hsum
        obtain ⟨k, Z, hk, rfl, hB, hKx, hKy, hKP, hIZ, hsum⟩ := hrel
        obtain ⟨w8, hw8⟩ := world_of hB
        subst hw8
        have hs0 := sumH_le hIZ N1 (Nat.le_refl _)
        have hkn : k < nn * 2 := by omega
        have HKx := Lib.hid hKx; have HKy := Lib.hid hKy; have HKP := Lib.hid hKP; have HIZ := Lib.hid hIZ; have HB := Lib.hid hB; have HSUM := Lib.hid hsum
        have HC8 := Lib.hid (HC3.out.below hB HC3.out.lt)
        obtain ⟨a0, a1, a2, a3, a4, a5, a6, a7, a8⟩ := HC8.out.at9
        have hz8 := HC8.out.lt
        clear hKx hKy hKP hIZ hB hs0 hsum
        go_wp2_with fail
        clear a0 a1 a2 a3 a4 a5 a6 a7 a8 hz8
        have HG8 := Lib.hid ((HG3.out.below (HB.out.mono (by have := HS5.out; omega))).more (show x0 ≤ w8.heap.size by have := HS5.out; have := HB.out.size; omega)); have HX8 := Lib.hid (HX3.out.on HB.out); have HH8 := Lib.hid (HKx.out.ints HIZ.out.len)
        refine (lsteep_is N1 M s t ⟨some ⟨bF, oF, none⟩, cF, AH', cH, AR, cR, AC, cC, AA, cA, AB, cB⟩ fst hd rv AX M cX X (some ⟨gx, 0, none⟩) N1 N1 Z _ HG.out HG8.out HX8.out HH8.out hsN htN hN8 hM8).mono ?_
        obtain ⟨L1, hL1⟩ : ∃ L1, slps N1 M s t M hd rv X Z qSteep = L1 := ⟨_, rfl⟩
        rw [hL1]
        have HL1 := Lib.hid hL1
        clear hL1
        rintro e w9 ⟨AQ, cQ, rfl, O9, B9⟩
        have HB9 := Lib.hid (HB.out.trans (B9.mono HB.out.size))
        have HC9 := Lib.hid (HC8.out.below B9 HC8.out.lt); have HKx9 := Lib.hid (HKx.out.below B9 HKx.out.lt); have HKy9 := Lib.hid (HKy.out.below B9 HKy.out.lt); have HKP9 := Lib.hid (HKP.out.below B9 HKP.out.lt)
        have HG9 := Lib.hid (HG8.out.on B9); have HX9 := Lib.hid (HX8.out.on B9); have HH9 := Lib.hid (HH8.out.on B9)
        have HO9 := Lib.hid O9
        have hgl8 := HKx.out.lt
        clear B9 O9 HB HC8 HKx HKy HKP HG8 HX8 HH8
        rcases L1 with _ | ⟨a, r⟩
        · have HVZ := Lib.hid (steep_valid HIZ.out HL1.out)
          obtain ⟨a0, a1, a2, a3, a4, a5, a6, a7, a8⟩ := HC9.out.at9
          have hz9 := HC9.out.lt
          go_wp2_with fail
          clear a0 a1 a2 a3 a4 a5 a6 a7 a8 hz9
          refine (lvalid_is N1 M s t ⟨some ⟨bF, oF, none⟩, cF, AH', cH, AR, cR, AC, cC, AA, cA, AB, cB⟩ fst hd rv AX M cX X (some ⟨gx, 0, none⟩) N1 N1 Z _ HG.out HG9.out HX9.out HH9.out hsN htN hN8 hM8).mono ?_
          rw [HVZ.out]
          rintro e w10 ⟨rfl, B10⟩
          have HB10 := Lib.hid (HB9.out.trans (B10.mono HB9.out.size))
          have HKx10 := Lib.hid (HKx9.out.below B10 HKx9.out.lt); have HKy10 := Lib.hid (HKy9.out.below B10 HKy9.out.lt); have HKP10 := Lib.hid (HKP9.out.below B10 HKP9.out.lt)
          clear B10
          go_wp2_with fail
          go_roundw
          case rel =>
            obtain ⟨G', H', e1, e2, e3, e4, e5, e6⟩ := HBK.out w10 Z HKx10.out HKy10.out HIZ.out HVZ.out
            exact ⟨i + 1, G', H', by omega, by go_num, HB10.out, e1, e2, HKP10.out, e3, e4, e5, e6⟩
          case measure => simp [intOf]; omega
        · obtain ⟨g, hAg, hgl, cg⟩ := own_nat HO9.out rfl (i := 0) (a := a) rfl
          subst hAg
          have hgb := (HO9.out.lt g rfl).1
          have hmem : a ∈ slps N1 M s t M hd rv X Z qSteep := by rw [HL1.out]; simp
          have haM := slps_lt hmem
          obtain ⟨hus, hut, huv, hIZ', hsz⟩ := lower_is HIZ.out HG.out hmem
          have hru := HG.out.hdl _ (HG.out.rvl a haM)
          have hrv := HG.out.hdl a haM
          obtain ⟨bH, oH, hHa⟩ := HG3.out.iH.adr (by omega)
          dsimp only at hHa
          subst hHa
          obtain ⟨hbH, ch3⟩ := tab_cell HG3.out.iH haM
          have ch := (HB9.out.cell (p := ⟨bH, oH + a, none⟩) (by have := HS5.out; simp only; omega)).trans ch3
          have cv := HKx9.out.iat (hOf_get HIZ.out.len hrv)
          have cu := HKx9.out.iat (hOf_get HIZ.out.len hru)
          have fu := HKx9.out.frozen (hd (rv a))
          have hyb := HIZ.out.bnd _ hrv
          have HIZ' := Lib.hid hIZ'; have HSZ := Lib.hid hsz
          have hnl : ¬ (a :: r).length = 0 := by simp
          obtain ⟨u, hu⟩ : ∃ u, hd (rv a) = u := ⟨_, rfl⟩
          obtain ⟨v, hv⟩ : ∃ v, hd a = v := ⟨_, rfl⟩
          obtain ⟨y, hy⟩ : ∃ y, hOf Z v = y := ⟨_, rfl⟩
          have HU := Lib.hid hu
          rw [hu] at hus hut huv hru cu fu HIZ' HSZ
          rw [hv] at hrv huv cv ch hyb HIZ' HSZ
          rw [hy] at cv hyb HIZ' HSZ
          have HYV := Lib.hid hy
          generalize hOf Z u = yu at *
          have hwy : IntKind.i64.wrap (y + 1) = y + 1 := wrap_any (by omega) (by omega)
          clear hmem hIZ' hsz hu hv hy ch3
          obtain ⟨nl, hnld⟩ : ∃ nl, (a :: r).length = nl := ⟨_, rfl⟩
          rw [hnld] at hnl HO9 ⊢
          have hnl1 : ¬ (nl : Int) = 0 := by omega
          have hnl2 : ((nl : Int) == 0) = false := beq_false_of_ne hnl1
          have hnl3 : (0 : Int) < (nl : Int) := by omega
          have hnl4 : 0 < nl := by omega
          clear hnld
          have HCG := Lib.hid cg
          have ct := fun W h => tail2_at N1 M s t ⟨some ⟨bF, oF, none⟩, cF, some ⟨bH, oH, none⟩, cH, AR, cR, AC, cC, AA, cA, AB, cB⟩ fst hd rv a W HG.out h haM
          rw [HU.out] at ct
          dsimp only [csrW] at ct
          have CT := Lib.hid ct
          clear ct
          go_upto_region 10 with fail
          go_region_held3 (fun W => Below w9.heap.size w9 W ∧ W.cell? ⟨w2.heap.size, 0, none⟩ = some (.int .i64 (N1 : Int)) ∧ W.cell? ⟨w2.heap.size, 1, none⟩ = some (.int .i64 (s : Int)) ∧ W.cell? ⟨w2.heap.size, 2, none⟩ = some (.int .i64 (t : Int)) ∧ W.cell? ⟨w2.heap.size, 3, none⟩ = some (.slice (some ⟨bF, oF, none⟩) (N1 + 1) cF) ∧ W.cell? ⟨w2.heap.size, 4, none⟩ = some (.slice (some ⟨bH, oH, none⟩) M cH) ∧ W.cell? ⟨w2.heap.size, 5, none⟩ = some (.slice AR M cR) ∧ W.cell? ⟨w2.heap.size, 6, none⟩ = some (.slice AC M cC) ∧ W.cell? ⟨w2.heap.size, 7, none⟩ = some (.slice AA M cA) ∧ W.cell? ⟨w2.heap.size, 8, none⟩ = some (.slice AB M cB) ∧ W.cell? ⟨g, 0, none⟩ = some (.int .i64 (a : Int)))
            (first
              | exact csr_keepc HC9.out HCG.out hgl (Below.refl _ _).drew
              | (go_split_ands
                 exact csr_keepc HC9.out HCG.out hgl (by refine below_step ?_ (by assumption); assumption)))
            (first
              | (go_at_call 26; go_split_ands; ((with_reducible refine (CT.out _ (HG9.out.on (by assumption))).mono ?_); rintro e W10 ⟨rfl, B10⟩)))
          go_split_ands
          have hBz : Below w9.heap.size w9 W10 := by assumption
          have HBz := Lib.hid hBz
          have hzz := hBz.size
          have hzc := HC9.out.lt
          have k4 := (HC9.out.below hBz HC9.out.lt).at9
          have kg := (hBz.cell (p := ⟨g, 0, none⟩) hgl).trans HCG.out
          have kh := (hBz.cell (p := ⟨bH, oH + a, none⟩) (by have := HS5.out; have := HB9.out.size; simp only; omega)).trans ch
          have kv := (hBz.cell (p := ⟨gx, v, none⟩) HKx9.out.lt).trans cv
          have ku := (hBz.cell (p := ⟨gx, u, none⟩) HKx9.out.lt).trans cu
          have kf := (HKx9.out.below hBz HKx9.out.lt).frozen u
          obtain ⟨q0, q1, q2, q3, q4, q5, q6, q7, q8⟩ := k4
          have e1 : ¬ (u : Int) = (s : Int) := by omega
          have e2 : ((u : Int) == (s : Int)) = false := beq_false_of_ne e1
          have e3 : decide ((u : Int) = (s : Int)) = false := decide_eq_false e1
          have e4 : ¬ (u : Int) = (t : Int) := by omega
          have e5 : ((u : Int) == (t : Int)) = false := beq_false_of_ne e4
          have e6 : decide ((u : Int) = (t : Int)) = false := decide_eq_false e4
          have n1 : gx ≠ w2.heap.size := by have := HS5.out; omega
          have n2 : gx ≠ g := by omega
          have n3 : gx ≠ bH := by have := HS5.out; omega
          have n4 : v ≠ u := fun e => huv e.symm
          have n5 : u ≠ v := huv
          have hgx10 : gx < W10.heap.size := Nat.lt_of_lt_of_le HKx9.out.lt hzz
          clear cg ch cv cu fu
          go_wp2_with fail
          clear e1 e2 e3 e4 e5 e6
          have hfarc : ∀ (p : Addr) (z : Value), p.block ≠ gx → W10.cell? p = some z → (W10.setCell ⟨gx, u, none⟩ (.int .i64 (y + 1))).drew.cell? p = some z := fun p z hp hc => (World.cell?_of_block (w := W10) (Below.heap_setCell W10 ⟨gx, u, none⟩ _ p.block hp)).trans hc
          have hkeep := And.intro (hfarc ⟨w2.heap.size, 4, none⟩ _ (fun e => n1 e.symm) q4) (And.intro (hfarc ⟨g, 0, none⟩ _ (fun e => n2 e.symm) kg) (And.intro (hfarc ⟨bH, oH + a, none⟩ _ (fun e => n3 e.symm) kh) (((HKx9.out.below HBz.out HKx9.out.lt).iset u (y + 1)).drew.iat (x := y) (i := v) (by
            rw [List.getElem?_set, if_neg n5, hOf_get HIZ.out.len hrv]
            exact congrArg some HYV.out))))
          have HKEEP := Lib.hid hkeep
          clear hfarc hkeep
          go_region_held3 (fun W => W.cell? ⟨w2.heap.size, 4, none⟩ = some (.slice (some ⟨bH, oH, none⟩) M cH) ∧ W.cell? ⟨g, 0, none⟩ = some (.int .i64 (a : Int)) ∧ W.cell? ⟨bH, oH + a, none⟩ = some (.int .i64 (v : Int)) ∧ W.cell? ⟨gx, v, none⟩ = some (.int .i64 y)) (first | exact HKEEP.out | go_keep) (first | fail)
          have hB11 : Below w3.heap.size w3 (W10.setCell ⟨gx, u, none⟩ (.int .i64 (y + 1))).drew := ((HB9.out.trans (HBz.out.mono HB9.out.size)).setCell (by simp only; omega) _).drew
          have hK11 := ((HKx9.out.below HBz.out HKx9.out.lt).iset u (y + 1)).drew
          have hKy11 := ((HKy9.out.below HBz.out HKy9.out.lt).far (p := ⟨gx, u, none⟩) (fun e => hxy e.symm) (.int .i64 (y + 1))).drew
          have hKP11 := ((HKP9.out.below HBz.out HKP9.out.lt).far (p := ⟨gx, u, none⟩) (by simp only; omega) (.int .i64 (y + 1))).drew
          have HB11 := Lib.hid hB11; have HK11 := Lib.hid hK11; have HKy11 := Lib.hid hKy11; have HKP11 := Lib.hid hKP11
          clear hB11 hK11 hKy11 hKP11 q0 q1 q2 q3 q4 q5 q6 q7 q8 kg kh kv ku kf
          go_wp2_with fail
          go_roundw
          case rel => exact ⟨k + 1, Z.set u (y + 1), by omega, by go_num, HB11.out, HK11.out, HKy11.out, HKP11.out, HIZ'.out, by have := HSZ.out; have := HSUM.out; omega⟩
          case measure => simp [intOf]; omega
    · have hG2 := hVG (by omega)
      have hH2 := hVH (by omega)
      have HVG := Lib.hid hG2; have HVH := Lib.hid hH2
      have HKG := Lib.hid hKG; have HKH := Lib.hid hKH; have HB := Lib.hid hB; have HIG := Lib.hid hIG; have HIH := Lib.hid hIH
      have HC7 := Lib.hid (HC3.out.below hB HC3.out.lt)
      have HG7 := Lib.hid ((HG3.out.below (hB.mono (by have := HS5.out; omega))).more (show x0 ≤ w7.heap.size by have := HS5.out; have := hB.size; omega)); have HX7 := Lib.hid (HX3.out.on hB)
      obtain ⟨i1, hi1, hz0, hz1, hz2⟩ := info_parts int_info
      have hml := fun W => run_make_lit (P := Try.prog) 26 3 i1 _ Try.underlying26 hi1 hz0 N1 (by rw [hz2]; omega) (by omega) W
      rw [hz1, ivs_made] at hml
      have HML := Lib.hid hml
      obtain ⟨a0, a1, a2, a3, a4, a5, a6, a7, a8⟩ := HC7.out.at9
      have hz7 := HC7.out.lt
      clear hml hi1 hz0 hz1 hz2 hVG hVH hG2 hH2 hKG hKH hKP hB hIG hIH
      go_upto_region 18 with fail
      go_cut [16, 17] (fun s16 s17 wx => ∃ gl gh : Nat, s16 = .slice (some ⟨gl, 0, none⟩) N1 N1 ∧ s17 = .slice (some ⟨gh, 0, none⟩) N1 N1 ∧ w7.heap.size ≤ gl ∧ w7.heap.size ≤ gh ∧ gl ≠ gh ∧ Blk wx gl 3 (ivs (List.replicate N1 0)) ∧ Blk wx gh 3 (ivs (List.replicate N1 0)) ∧ Below w7.heap.size w7 wx)
      case first =>
        have hml := HML.out
        refine wp_region_held (S := fun W => W.cell? ⟨w2.heap.size, 0, none⟩ = some (.int .i64 (N1 : Int))) (by kernel_rfl) ?_
        have hS0 : (fun W : World => W.cell? ⟨w2.heap.size, 0, none⟩ = some (.int .i64 (N1 : Int))) w7.drew := a0
        refine takeD (i := 0) (v := ?v0) (some 98) rfl rfl (by kernel_rfl) (by kernel_rfl) (by kernel_rfl) (fun _ _ _ h => h) (Or.inl ⟨by rfl, ?y0⟩) (by assumption) ?_
        case y0 =>
          intro W hSw
          go_split_ands
          go_simp
          try with_reducible rfl
        simp only [Act.put, List.setIfInBounds_toArray, List.set_cons_zero, List.set_cons_succ]
        refine takeD (i := 1) (v := ?v1) (some 99) rfl rfl (by kernel_rfl) (by kernel_rfl) (by kernel_rfl) (fun _ _ _ h => h) (Or.inl ⟨by rfl, ?y1⟩) (by assumption) ?_
        case y1 =>
          intro W hSw
          go_split_ands
          go_simp
          try with_reducible rfl
        simp only [Act.put, List.setIfInBounds_toArray, List.set_cons_zero, List.set_cons_succ]
        refine takeD (i := 3) (v := ?v3) (some 101) rfl rfl (by kernel_rfl) (by kernel_rfl) (by kernel_rfl) (fun _ _ _ h => h) (Or.inl ⟨by rfl, ?y3⟩) (by assumption) ?_
        case y3 =>
          intro W hSw
          go_split_ands
          go_simp
          try with_reducible rfl
        simp only [Act.put, List.setIfInBounds_toArray, List.set_cons_zero, List.set_cons_succ]
        refine takeD (i := 4) (v := ?v4) (some 102) rfl rfl (by kernel_rfl) (by kernel_rfl) (by kernel_rfl) (fun _ _ _ h => h) (Or.inl ⟨by rfl, ?y4⟩) (by assumption) ?_
        case y4 =>
          intro W hSw
          go_split_ands
          go_simp
          try with_reducible rfl
        simp only [Act.put, List.setIfInBounds_toArray, List.set_cons_zero, List.set_cons_succ]
        refine wpAnyH_ready (rs := [2, 5]) (by kernel_rfl) (by simp) ?_
        refine AllReadyH.cons rfl (fun K hK => ?_) (AllReadyH.cons rfl (fun K hK => ?_) AllReadyH.nil)
        · go_simp
          refine hK.out _ _ (by exact (HC7.out.alloc _).cell 0) (fun hS1 => ?_)
          clear hK K
          try simp only [Act.put, List.setIfInBounds_toArray, List.set_cons_zero, List.set_cons_succ]
          refine takeD (i := 6) (v := ?v6a) (some 16) rfl rfl (by kernel_rfl) (by kernel_rfl) (by kernel_rfl) (fun _ _ _ h => h) (Or.inl ⟨by rfl, ?y6a⟩) (by assumption) ?_
          case y6a =>
            intro W hSw
            go_split_ands
            go_simp
            try with_reducible rfl
          simp only [Act.put, List.setIfInBounds_toArray, List.set_cons_zero, List.set_cons_succ]
          refine wpAnyH_ready (rs := [5]) (by kernel_rfl) (by simp) ?_
          refine AllReadyH.cons rfl (fun K hK => ?_) AllReadyH.nil
          go_simp
          refine hK.out _ _ (by exact ((HC7.out.alloc _).alloc _).cell 0) (fun hS2 => ?_)
          clear hK K
          try simp only [Act.put, List.setIfInBounds_toArray, List.set_cons_zero, List.set_cons_succ]
          refine takeD (i := 7) (v := ?v7a) (some 17) rfl rfl (by kernel_rfl) (by kernel_rfl) (by kernel_rfl) (fun _ _ _ h => h) (Or.inl ⟨by rfl, ?y7a⟩) (by assumption) ?_
          case y7a =>
            intro W hSw
            go_split_ands
            go_simp
            try with_reducible rfl
          simp only [Act.put, List.setIfInBounds_toArray, List.set_cons_zero, List.set_cons_succ]
          refine wpAnyH_done (by kernel_rfl) ?_ _
          show Exit.then _ _ _ _ _
          go_wp2_with fail
          go_meet
          exact ⟨w7.heap.size, w7.heap.size + 1, rfl, rfl, by omega, by omega, by omega, (Blk.new rfl).alloc _, Blk.new (by simp), ((below_alloc _).alloc (by simp) _).drew⟩
        · go_simp
          refine hK.out _ _ (by exact (HC7.out.alloc _).cell 0) (fun hS1 => ?_)
          clear hK K
          refine wpAnyH_ready (rs := [2]) (by kernel_rfl) (by simp) ?_
          refine AllReadyH.cons rfl (fun K hK => ?_) AllReadyH.nil
          go_simp
          refine hK.out _ _ (by exact ((HC7.out.alloc _).alloc _).cell 0) (fun hS2 => ?_)
          clear hK K
          try simp only [Act.put, List.setIfInBounds_toArray, List.set_cons_zero, List.set_cons_succ]
          refine takeD (i := 6) (v := ?v6b) (some 16) rfl rfl (by kernel_rfl) (by kernel_rfl) (by kernel_rfl) (fun _ _ _ h => h) (Or.inl ⟨by rfl, ?y6b⟩) (by assumption) ?_
          case y6b =>
            intro W hSw
            go_split_ands
            go_simp
            try with_reducible rfl
          simp only [Act.put, List.setIfInBounds_toArray, List.set_cons_zero, List.set_cons_succ]
          refine takeD (i := 7) (v := ?v7b) (some 17) rfl rfl (by kernel_rfl) (by kernel_rfl) (by kernel_rfl) (fun _ _ _ h => h) (Or.inl ⟨by rfl, ?y7b⟩) (by assumption) ?_
          case y7b =>
            intro W hSw
            go_split_ands
            go_simp
            try with_reducible rfl
          simp only [Act.put, List.setIfInBounds_toArray, List.set_cons_zero, List.set_cons_succ]
          refine wpAnyH_done (by kernel_rfl) ?_ _
          show Exit.then _ _ _ _ _
          go_wp2_with fail
          go_meet
          exact ⟨w7.heap.size + 1, w7.heap.size, rfl, rfl, by omega, by omega, by omega, Blk.new (by simp), (Blk.new rfl).alloc _, ((below_alloc _).alloc (by simp) _).drew⟩
      case rest =>
        obtain ⟨gl, gh, rfl, rfl, hgl7, hgh7, hglh, hLo, hHi, hB8⟩ := hcut
        obtain ⟨w8, hw8⟩ := world_of hB8
        subst hw8
        rw [← low_zero (N := N1) (G := G) (H := H)] at hLo
        rw [← high_zero (N := N1) (G := G) (H := H)] at hHi
        have HLo := Lib.hid hLo; have HHi := Lib.hid hHi; have HB8 := Lib.hid hB8
        clear hLo hHi hB8 a0 a1 a2 a3 a4 a5 a6 a7 a8 hz7 HML
        go_wp2_with fail
        go_loopw [18, 106] (fun _ ii wr => ∃ k : Nat, k ≤ N1 ∧ ii = .int .i64 k ∧ Below w7.heap.size w7 wr ∧ Blk wr gl 3 (ivs (lowTo N1 G H k)) ∧ Blk wr gh 3 (ivs (highTo N1 G H k))) (fun _ ii _ => N1 - (intOf ii).toNat)
        case atStart => exact ⟨0, Nat.zero_le _, rfl, HB8.out, HLo.out, HHi.out⟩
        case round =>
          clear HLo HHi HB8
          obtain ⟨k, hk, rfl, hB8, hLo, hHi⟩ := hrel
          obtain ⟨w9, hw9⟩ := world_of hB8
          subst hw9
          have HLo := Lib.hid hLo; have HHi := Lib.hid hHi; have HB8 := Lib.hid hB8
          by_cases hlt2 : k < N1
          · have hg7 := HKG.out.lt
            have hh7 := HKH.out.lt
            have cg := (HKG.out.below hB8 hg7).iat (hOf_get HIG.out.len hlt2)
            have ch := (HKH.out.below hB8 hh7).iat (hOf_get HIH.out.len hlt2)
            obtain ⟨y0, hy0⟩ : ∃ y0, (lowTo N1 G H k)[k]? = some y0 := ⟨_, tab_at hlt2⟩
            obtain ⟨z0, hz0⟩ : ∃ z0, (highTo N1 G H k)[k]? = some z0 := ⟨_, tab_at hlt2⟩
            have cl := hLo.iat hy0
            have cH2 := hHi.iat hz0
            have fl := hLo.frozen k
            have fh := hHi.frozen k
            have LP := Lib.hid (low_put (N := N1) (G := G) (H := H) (k := k)); have HP := Lib.hid (high_put (N := N1) (G := G) (H := H) (k := k))
            have n1 : gl ≠ gG := by omega
            have n2 : gl ≠ gH := by omega
            have n3 : gh ≠ gG := by omega
            have n4 : gh ≠ gH := by omega
            have n5 : gh ≠ gl := fun e => hglh e.symm
            have hzl := hLo.lt
            have hzh := hHi.lt
            generalize hOf G k = y at *
            generalize hOf H k = z at *
            clear hy0 hz0 hB8 hLo hHi
            obtain ⟨mn, hmn⟩ : ∃ mn, (if z < y then z else y) = mn := ⟨_, rfl⟩
            obtain ⟨mx, hmx⟩ : ∃ mx, (if y < z then z else y) = mx := ⟨_, rfl⟩
            rw [show min y z = mn by rw [← hmn]; split <;> omega] at LP
            rw [show max y z = mx by rw [← hmx]; split <;> omega] at HP
            have hB9 : Below w7.heap.size w7 ((w9.setCell ⟨gl, k, none⟩ (.int .i64 mn)).setCell ⟨gh, k, none⟩ (.int .i64 mx)).drew := ((HB8.out.setCell (by simp only; omega) _).setCell (by simp only; omega) _).drew
            have hL9 := ((HLo.out.iset k mn).far (p := ⟨gh, k, none⟩) (fun e => hglh e) (.int .i64 mx)).drew
            have hM9 := ((HHi.out.far (p := ⟨gl, k, none⟩) (fun e => hglh e.symm) (.int .i64 mn)).iset k mx).drew
            rw [LP.out] at hL9
            rw [HP.out] at hM9
            have HB9 := Lib.hid hB9; have HL9 := Lib.hid hL9; have HM9 := Lib.hid hM9
            clear hB9 hL9 hM9
            go_wp2_with fail
            go_region_held3 (fun W => W.cell? ⟨gG, k, none⟩ = some (.int .i64 y) ∧ W.cell? ⟨gH, k, none⟩ = some (.int .i64 z)) (go_keep) (first | fail)
            all_goals clear cg ch cl cH2 fl fh hmn hmx
            all_goals go_wp2_with fail
            all_goals (refine ⟨⟨k + 1, by omega, by go_num, HB9.out, HL9.out, HM9.out⟩, ?_⟩; simp [intOf]; omega)
          · obtain rfl : N1 = k := by omega
            have HVL := Lib.hid (low_valid HG.out hsN htN HVG.out HVH.out); have HVHi := Lib.hid (high_valid HG.out hsN htN HVG.out HVH.out)
            have e1 := htSum_of HVL.out; have e2 := htSum_of HVHi.out; have e3 := htSum_of HVG.out; have e4 := htSum_of HVH.out
            have e5 := both_sum (G := G) (H := H) (N := N1) N1 (Nat.le_refl _)
            have b1 := sumH_bound (valid_iff.1 HVL.out).1 hN8 N1 (Nat.le_refl _); have b2 := sumH_bound (valid_iff.1 HVHi.out).1 hN8 N1 (Nat.le_refl _)
            rw [← e1, ← e2, ← e3, ← e4] at e5
            rw [← e1] at b1
            rw [← e2] at b2
            have C9 := HC7.out.below HB8.out HC7.out.lt
            have G9 := HG7.out.on HB8.out
            have X9 := HX7.out.on HB8.out
            have HC9 := Lib.hid C9; have HG9 := Lib.hid G9; have HX9 := Lib.hid X9
            have HGG := Lib.hid ((HKG.out.below HB8.out HKG.out.lt).ints HIG.out.len); have HHH := Lib.hid ((HKH.out.below HB8.out HKH.out.lt).ints HIH.out.len)
            have HLL := Lib.hid (HLo.out.ints (show (lowTo N1 G H N1).length = N1 from tab_len _ _)); have HIL := Lib.hid (HHi.out.ints (show (highTo N1 G H N1).length = N1 from tab_len _ _))
            have HBT := Lib.hid (show Below w.heap.size w w9 from (HB3.out.trans (HB.out.mono HB3.out.size)).trans (HB8.out.mono (Nat.le_trans HB3.out.size HB.out.size)))
            have v1 := fun W h1 h2 h3 => lvalid_is N1 M s t ⟨some ⟨bF, oF, none⟩, cF, AH', cH, AR, cR, AC, cC, AA, cA, AB, cB⟩ fst hd rv AX M cX X (some ⟨gl, 0, none⟩) N1 N1 (lowTo N1 G H N1) W HG.out h1 h2 h3 hsN htN hN8 hM8
            have v2 := fun W h1 h2 h3 => lvalid_is N1 M s t ⟨some ⟨bF, oF, none⟩, cF, AH', cH, AR, cR, AC, cC, AA, cA, AB, cB⟩ fst hd rv AX M cX X (some ⟨gh, 0, none⟩) N1 N1 (highTo N1 G H N1) W HG.out h1 h2 h3 hsN htN hN8 hM8
            have m1 := fun W h => lsum_is N1 M s t ⟨some ⟨bF, oF, none⟩, cF, AH', cH, AR, cR, AC, cC, AA, cA, AB, cB⟩ (some ⟨gl, 0, none⟩) N1 N1 (lowTo N1 G H N1) W h hsN htN hN8
            have m2 := fun W h => lsum_is N1 M s t ⟨some ⟨bF, oF, none⟩, cF, AH', cH, AR, cR, AC, cC, AA, cA, AB, cB⟩ (some ⟨gh, 0, none⟩) N1 N1 (highTo N1 G H N1) W h hsN htN hN8
            have m3 := fun W h => lsum_is N1 M s t ⟨some ⟨bF, oF, none⟩, cF, AH', cH, AR, cR, AC, cC, AA, cA, AB, cB⟩ (some ⟨gG, 0, none⟩) N1 N1 G W h hsN htN hN8
            have m4 := fun W h => lsum_is N1 M s t ⟨some ⟨bF, oF, none⟩, cF, AH', cH, AR, cR, AC, cC, AA, cA, AB, cB⟩ (some ⟨gH, 0, none⟩) N1 N1 H W h hsN htN hN8
            dsimp only [csrW] at v1 v2 m1 m2 m3 m4
            rw [HVL.out] at v1
            rw [HVHi.out] at v2
            generalize htSum N1 s t (lowTo N1 G H N1) = q1 at *
            generalize htSum N1 s t (highTo N1 G H N1) = q2 at *
            generalize htSum N1 s t G = q3 at *
            generalize htSum N1 s t H = q4 at *
            have V1 := Lib.hid v1; have V2 := Lib.hid v2; have M1 := Lib.hid m1; have M2 := Lib.hid m2; have M3 := Lib.hid m3; have M4 := Lib.hid m4
            obtain ⟨qq, hqq⟩ : ∃ qq, q1 + q2 = qq := ⟨_, rfl⟩
            have hw1 : IntKind.i64.wrap (q1 + q2) = qq := by rw [wrap_any (by omega) (by omega), hqq]
            have hw2 : IntKind.i64.wrap (q3 + q4) = qq := by rw [← e5]; exact hw1
            clear hqq e1 e2 e3 e4 e5 b1 b2 C9 G9 X9 v1 v2 m1 m2 m3 m4 HVL HVHi HLo HHi HB8
            obtain ⟨a0, a1, a2, a3, a4, a5, a6, a7, a8⟩ := HC9.out.at9
            have hz9 := HC9.out.lt
            go_upto_region 24 with fail
            clear a0 a1 a2 a3 a4 a5 a6 a7 a8 hz9
            go_region_held3 (fun W => Below w9.heap.size w9 W ∧ W.cell? ⟨w2.heap.size, 0, none⟩ = some (.int .i64 (N1 : Int)) ∧ W.cell? ⟨w2.heap.size, 1, none⟩ = some (.int .i64 (s : Int)) ∧ W.cell? ⟨w2.heap.size, 2, none⟩ = some (.int .i64 (t : Int)) ∧ W.cell? ⟨w2.heap.size, 3, none⟩ = some (.slice (some ⟨bF, oF, none⟩) (N1 + 1) cF) ∧ W.cell? ⟨w2.heap.size, 4, none⟩ = some (.slice AH' M cH) ∧ W.cell? ⟨w2.heap.size, 5, none⟩ = some (.slice AR M cR) ∧ W.cell? ⟨w2.heap.size, 6, none⟩ = some (.slice AC M cC) ∧ W.cell? ⟨w2.heap.size, 7, none⟩ = some (.slice AA M cA) ∧ W.cell? ⟨w2.heap.size, 8, none⟩ = some (.slice AB M cB))
              (first
                | exact csr_keep HC9.out (Below.refl _ _).drew
                | (go_split_ands
                   exact csr_keep HC9.out (by refine below_step ?_ (by assumption); assumption)))
              (first
                | (go_at_call 20; go_split_ands; ((with_reducible refine (V1.out _ (HG9.out.on (by assumption)) (HX9.out.on (by assumption)) (HLL.out.on (by assumption))).mono ?_); rintro e W11 ⟨rfl, B11⟩))
                | (go_at_call 20; go_split_ands; ((with_reducible refine (V2.out _ (HG9.out.on (by assumption)) (HX9.out.on (by assumption)) (HIL.out.on (by assumption))).mono ?_); rintro e W12 ⟨rfl, B12⟩))
                | (go_at_call 22; go_split_ands; ((with_reducible refine (M1.out _ (HLL.out.on (by assumption))).mono ?_); rintro e W13 ⟨rfl, B13⟩))
                | (go_at_call 22; go_split_ands; ((with_reducible refine (M2.out _ (HIL.out.on (by assumption))).mono ?_); rintro e W14 ⟨rfl, B14⟩))
                | (go_at_call 22; go_split_ands; ((with_reducible refine (M3.out _ (HGG.out.on (by assumption))).mono ?_); rintro e W15 ⟨rfl, B15⟩))
                | (go_at_call 22; go_split_ands; ((with_reducible refine (M4.out _ (HHH.out.on (by assumption))).mono ?_); rintro e W16 ⟨rfl, B16⟩))
                | (go_at_call 24; go_split_ands; ((with_reducible refine (awake6_any _).mono ?_); rintro e W17 ⟨rfl, B17⟩)))
            go_split_ands
            have hBz : Below w9.heap.size w9 W17 := by assumption
            have HBz := Lib.hid (below_step HBT.out hBz)
            clear hBz
            go_wp2_with fail
            go_ret
            exact ⟨rfl, HBz.out⟩

end Go.Proofs.Ytnhfdmfciddmaaa
