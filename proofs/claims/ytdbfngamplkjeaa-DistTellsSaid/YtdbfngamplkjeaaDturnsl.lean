/- DistTurns: the walk. -/
import Derived.Test.YtdbfngamplkjeaaDawake
import Derived.Test.YtdbfngamplkjeaaLex
import Derived.Deep.RegionHeld3
namespace Go.Proofs.Ytdbfngamplkjeaa
open Go.RowKit
set_option maxRecDepth 100000

/-- What is left, told of the other ones. -/
def backTo (X : List Int) (rv : Nat → Nat) (M k : Nat) : List Int := tab M fun i => if i < k then (X[rv i]?).getD 0 else 0
theorem backTo_zero (X : List Int) (rv : Nat → Nat) (M : Nat) : List.replicate M 0 = backTo X rv M 0 := by
  refine tab_ext (by simp) fun i hi => ?_
  rw [List.getElem?_replicate, if_pos hi, if_neg (by omega)]
theorem backTo_step {X : List Int} {rv : Nat → Nat} {M k : Nat} {x : Int} (hx : X[rv k]? = some x) : (backTo X rv M k).set k x = backTo X rv M (k + 1) := by
  unfold backTo
  rw [tab_set]
  refine tab_congr fun i hi => ?_
  by_cases e : i = k
  · subst e; rw [if_pos rfl, if_pos (by omega), hx]; rfl
  · rw [if_neg e]
    by_cases h : i < k
    · rw [if_pos h, if_pos (by omega)]
    · rw [if_neg h, if_neg (by omega)]
theorem back_opn {X : List Int} {rv : Nat → Nat} {M a : Nat} (ha : a < M) : opn (backTo X rv M M) a = opn X (rv a) := by
  unfold opn backTo
  rw [tab_at ha, if_pos ha]
  rfl

/-- What the walk reads of a residual network laid in a cell stays. -/
theorem csr_keep {w W : World} {b : Nat} {t : TypeId} {v0 v1 v2 v3 v4 v5 v6 v7 v8 : Value} (C : Blk w b t #[v0, v1, v2, v3, v4, v5, v6, v7, v8]) (B : Below w.heap.size w W) :
    Below w.heap.size w W ∧ W.cell? ⟨b, 0, none⟩ = some v0 ∧ W.cell? ⟨b, 1, none⟩ = some v1 ∧ W.cell? ⟨b, 2, none⟩ = some v2 ∧ W.cell? ⟨b, 3, none⟩ = some v3 ∧ W.cell? ⟨b, 4, none⟩ = some v4 ∧ W.cell? ⟨b, 5, none⟩ = some v5 ∧ W.cell? ⟨b, 6, none⟩ = some v6 ∧ W.cell? ⟨b, 7, none⟩ = some v7 ∧ W.cell? ⟨b, 8, none⟩ = some v8 :=
  ⟨B, (C.below B C.lt).at9⟩
theorem lk_same {M : Nat} {hd rv : Nat → Nat} {p q : Nat → Bool} (h : ∀ a, a < M → p a = q a) {v u : Nat} : Lk M hd rv p v u ↔ Lk M hd rv q v u :=
  ⟨lk_mono fun a ha hp => by rw [← h a ha]; exact hp, lk_mono fun a ha hp => by rw [h a ha]; exact hp⟩
theorem IsDist.congr {R R' : Nat → Nat → Prop} {N t : Nat} {d : Nat → Nat} (h : IsDist R N t d) (hR : ∀ u v, R u v ↔ R' u v) : IsDist R' N t d :=
  ⟨h.le, h.zero, fun u v hu hv k => h.step u v hu hv ((hR u v).2 k), fun v hv h1 h2 => by obtain ⟨u, k1, k2, k3⟩ := h.near v hv h1 h2; exact ⟨u, k1, (hR u v).1 k2, k3⟩⟩
theorem dist_flip {N M t : Nat} {fst hd rv : Nat → Nat} {p : Nat → Bool} {d : Nat → Nat} (hG : Grid N M fst hd rv) (h : IsDist (Lk M hd rv fun a => p (rv a)) N t d) : IsDist (fun u v => Lk M hd rv p v u) N t d :=
  h.congr fun _ _ => lk_flip hG fun _ _ => rfl

set_option maxHeartbeats 16000000 in
theorem dturns_walk (N S T : Int) (A : Option Addr) (n c : Nat) (l : List ArcN) (AL : Option Addr) (nl cl : Nat) (L : List Int) (a b m : Nat) (w : World) (hA : Arcs w w.heap.size A n l) (hf : FitsAll l) (hnc : n ≤ c) (hL : Ints w w.heap.size AL nl L) (hLR : ∀ x ∈ L, InR x) (ha : a ≤ 255) (hb : b ≤ 255) (hm : m ≤ 255) :
    Calls Try.prog 7 #[.agg #[.int .i64 N, .int .i64 S, .int .i64 T, .slice A n c], .slice AL nl cl, .int .u8 (a : Int), .int .u8 (b : Int), .int .u8 (m : Int)] w fun e w' => e = .returned (.bool true) ∧ Below w.heap.size w w' := by
  have hso := fun W hW => some_any N S T A n c 16 40 l W hW hf hnc (by omega) (by omega) (by omega)
  obtain ⟨N1, hN1, hN2, hN3, hck, hln, hmem⟩ := some_net N S T 16 40 l (by omega) (by omega) (by omega)
  rw [hN1] at hso hck hln hmem
  generalize S % (N1 : Int) = S1 at *
  generalize someT (N1 : Int) S T = T1 at *
  generalize someL (N1 : Int) 40 l = l1 at *
  have HSO := Lib.hid hso; have HCK := Lib.hid hck; have HLR := Lib.hid hLR
  have HCAP := Lib.hid fun (x : ArcN) (hx : x ∈ l1) => (show 0 ≤ x.cap ∧ x.cap < 1125899906842624 by have := hmem x hx; omega)
  obtain ⟨s, hs⟩ : ∃ s, a % N1 = s := ⟨_, rfl⟩
  obtain ⟨t, ht⟩ : ∃ t, b % N1 = t := ⟨_, rfl⟩
  obtain ⟨r, hr⟩ : ∃ r, m % N1 = r := ⟨_, rfl⟩
  have hsN : s < N1 := by rw [← hs]; exact Nat.mod_lt _ (by omega)
  have htN : t < N1 := by rw [← ht]; exact Nat.mod_lt _ (by omega)
  have hrN : r < N1 := by rw [← hr]; exact Nat.mod_lt _ (by omega)
  have HS := Lib.hid hs; have HT := Lib.hid ht; have HR := Lib.hid hr
  clear hso hck hN1 hmem hLR hs ht hr
  go_enter Try.func7, Try.ntmps7
  go_wp2_with fail
  refine (HSO.out _ (hA.onAlloc _)).mono ?_
  rintro e w1 ⟨A1, n1, c1, rfl, o1, hl1, B1⟩
  have K1 : Blk w1 w.heap.size 24 #[.int .i64 N, .int .i64 S, .int .i64 T, .slice A n c] := (Blk.new rfl).below B1 (by simp)
  have hz1 := K1.lt
  obtain ⟨r0, r1, r2, r3⟩ := K1.at4
  obtain ⟨f0, f1, f2, f3⟩ := K1.free4
  have ST := some_stored K1 o1 hl1 (below_step (below_alloc _) B1) (.int .i64 (N1 : Int)) (.int .i64 S1) (.int .i64 T1)
  have hn1 : n1 ≤ 40 := by omega
  go_wp2_with fail
  generalize (((w1.setCell ⟨w.heap.size, 0, none⟩ (.int .i64 (N1 : Int))).setCell ⟨w.heap.size, 1, none⟩ (.int .i64 S1)).setCell ⟨w.heap.size, 2, none⟩ (.int .i64 T1)).setCell ⟨w.heap.size, 3, none⟩ (.slice A1 n1 c1) = w2 at *
  obtain ⟨K2, a2, Bw2⟩ := ST
  clear r0 r1 r2 r3 f0 f1 f2 f3 K1 o1 B1 hz1 HSO
  have L2 := (hL.below Bw2).more Bw2.size
  clear hA hL
  refine (left_grid N1 S1 T1 A1 n1 c1 l1 AL nl cl L _ a2 HCK.out L2 HLR.out HCAP.out (by omega) (by omega)).mono ?_
  rintro e w3 ⟨M, K, fst, hd, rv, AX, cX, X, rfl, hG, G3, X3, ⟨hM, hXb⟩, B3⟩
  have Bw3 := below_step Bw2 B3
  have HG := Lib.hid hG
  have hXl := Lib.hid X3.len
  clear B3 Bw2 a2 L2 hG hXb HCK HLR HCAP hl1 hln K2
  dsimp only [csrW]
  go_wp2_with fail
  have C4 : Blk (w3.alloc (.cells #[.int .i64 (N1 : Int), .int .i64 S1, .int .i64 T1, .slice K.AF (N1 + 1) K.cF, .slice K.AH M K.cH, .slice K.AR M K.cR, .slice K.AC M K.cC, .slice K.AA M K.cA, .slice K.AB M K.cB] 29)) w3.heap.size 29 #[.int .i64 (N1 : Int), .int .i64 S1, .int .i64 T1, .slice K.AF (N1 + 1) K.cF, .slice K.AH M K.cH, .slice K.AR M K.cR, .slice K.AC M K.cC, .slice K.AA M K.cA, .slice K.AB M K.cB] := Blk.new rfl
  have G4 := G3.onAlloc (.cells #[.int .i64 (N1 : Int), .int .i64 S1, .int .i64 T1, .slice K.AF (N1 + 1) K.cF, .slice K.AH M K.cH, .slice K.AR M K.cR, .slice K.AC M K.cC, .slice K.AA M K.cA, .slice K.AB M K.cB] 29)
  have X4 := X3.onAlloc (.cells #[.int .i64 (N1 : Int), .int .i64 S1, .int .i64 T1, .slice K.AF (N1 + 1) K.cF, .slice K.AH M K.cH, .slice K.AR M K.cR, .slice K.AC M K.cC, .slice K.AA M K.cA, .slice K.AB M K.cB] 29)
  have Bw4 := Bw3.alloc Bw3.size (.cells #[.int .i64 (N1 : Int), .int .i64 S1, .int .i64 T1, .slice K.AF (N1 + 1) K.cF, .slice K.AH M K.cH, .slice K.AR M K.cR, .slice K.AC M K.cC, .slice K.AA M K.cA, .slice K.AB M K.cB] 29)
  generalize w3.alloc (.cells #[.int .i64 (N1 : Int), .int .i64 S1, .int .i64 T1, .slice K.AF (N1 + 1) K.cF, .slice K.AH M K.cH, .slice K.AR M K.cR, .slice K.AC M K.cC, .slice K.AA M K.cA, .slice K.AB M K.cB] 29) = w4 at *
  clear G3 X3 Bw3
  have k0 := C4.cell 0
  simp only [List.getElem?_toArray, List.getElem?_cons_zero] at k0
  have hz4 := C4.lt
  have hwa : IntKind.i64.wrap (a : Int) = (a : Int) := by rw [IntKind.wrap_i64]; omega
  have hwb : IntKind.i64.wrap (b : Int) = (b : Int) := by rw [IntKind.wrap_i64]; omega
  have hwm : IntKind.i64.wrap (m : Int) = (m : Int) := by rw [IntKind.wrap_i64]; omega
  have hn0 : ¬ N1 = 0 := by omega
  have hn0' : ¬ (N1 : Int) = 0 := by omega
  have hs : (a : Int) % (N1 : Int) = (s : Int) := by rw [← HS.out, Int.natCast_emod]
  have ht : (b : Int) % (N1 : Int) = (t : Int) := by rw [← HT.out, Int.natCast_emod]
  have hr : (m : Int) % (N1 : Int) = (r : Int) := by rw [← HR.out, Int.natCast_emod]
  go_quiet (fail)
  simp only [hs, ht, hr]
  clear hs ht hr hwa hwb hwm k0 hz4
  have B5 : Below w4.heap.size w4 (w4.drewN nq) := below_drewN' (Below.refl _ _) _
  have C5 := C4.below B5 C4.lt
  have G5 := G4.on B5
  have X5 := X4.on B5
  have Bw5 := below_step Bw4 B5
  generalize w4.drewN nq = w5 at *
  clear C4 G4 X4 Bw4 B5
  obtain ⟨i1, hi, hz0, hz1, hz2⟩ := info_parts long_info
  have hml := fun W => run_make_lit (P := Try.prog) 25 2 i1 _ Try.underlying25 hi hz0 M (by rw [hz2]; omega) (by omega) W
  rw [hz1, ivs_made] at hml
  clear hi hz0 hz1 hz2
  go_wp2_with fail
  have Q6 : Blk (w5.alloc (.cells (ivs (List.replicate M 0)) 2)) w5.heap.size 2 (ivs (backTo X rv M 0)) := by rw [← backTo_zero]; exact Blk.new rfl
  have B6 : Below w5.heap.size w5 (w5.alloc (.cells (ivs (List.replicate M 0)) 2)) := below_alloc _
  have HC5 := Lib.hid C5; have HG5 := Lib.hid G5; have HX5 := Lib.hid X5; have HB5 := Lib.hid Bw5; have HQ6 := Lib.hid Q6; have HB6 := Lib.hid B6
  clear C5 G5 X5 Bw5 Q6 B6 hml
  go_loopw [48] (fun i wr => ∃ k : Nat, k ≤ M ∧ i = .int .i64 k ∧ Below w5.heap.size w5 wr ∧ Blk wr w5.heap.size 2 (ivs (backTo X rv M k))) (fun i _ => M - (intOf i).toNat)
  case atStart => exact ⟨0, Nat.zero_le _, rfl, HB6.out, HQ6.out⟩
  case round =>
    clear HQ6 HB6
    obtain ⟨k, hk, rfl, hBr, Q⟩ := hrel
    by_cases hlt : k < M
    · have C7 := HC5.out.below hBr HC5.out.lt
      have G7 := HG5.out.below hBr
      have X7 := HX5.out.below hBr
      obtain ⟨bR, oR, hAR⟩ := G7.iR.adr (by omega)
      obtain ⟨bX, oX, hAX⟩ := X7.adr (by omega)
      subst hAX
      have hq := HG.out.rvl k hlt
      obtain ⟨x, hx⟩ : ∃ x, X[rv k]? = some x := ⟨_, List.getElem?_eq_getElem (by rw [hXl.out]; exact hq)⟩
      obtain ⟨hbX, cx⟩ := X7.cel hx
      obtain ⟨hbR, cr⟩ : bR < w5.heap.size ∧ wr.cell? ⟨bR, oR + k, none⟩ = some (.int .i64 (rv k : Int)) := by
        have h := G7.iR
        rw [hAR] at h
        exact tab_cell h hlt
      have a5 := C7.cell 5
      simp only [List.getElem?_toArray, List.getElem?_cons_zero, List.getElem?_cons_succ] at a5
      rw [hAR] at a5
      have hz7 := C7.lt
      have hzr := hBr.size
      have hq0 := Q.lt
      have hqf := Q.frozen k
      obtain ⟨y, hy⟩ : ∃ y, (backTo X rv M k)[k]? = some y := ⟨_, List.getElem?_eq_getElem (by rw [show (backTo X rv M k).length = M from tab_len _ _]; exact hlt)⟩
      have hqc := Q.iat hy
      have HSTEP : Hid (Blk (wr.setCell ⟨w5.heap.size, k, none⟩ (.int .i64 x)) w5.heap.size 2 (ivs (backTo X rv M (k + 1)))) := by
        have h := Q.iset k x
        rw [backTo_step hx] at h
        exact Lib.hid h
      have HBr := Lib.hid hBr
      clear C7 G7 X7 hAR hx hy Q hBr
      go_wp2_with fail
      go_roundw
      case rel => exact ⟨k + 1, by omega, by go_num, HBr.out.setCell (Nat.le_refl _) _, HSTEP.out⟩
      case measure => simp [intOf]; omega
    · obtain rfl : k = M := by omega
      have C7 := HC5.out.below hBr HC5.out.lt
      have G7 := HG5.out.on hBr
      have X7 := HX5.out.on hBr
      have Bw7 := below_step HB5.out hBr
      clear HC5 HG5 HX5 HB5 hBr
      obtain ⟨W7, hW7⟩ : ∃ W7, W7 = wr := ⟨_, rfl⟩
      subst hW7
      have HC7 := Lib.hid C7; have HG7 := Lib.hid G7; have HX7 := Lib.hid X7; have HB7 := Lib.hid Bw7; have HQ7 := Lib.hid Q
      clear C7 G7 X7 Bw7 Q
      go_upto_region 10 with fail
      go_cut [18, 19] (fun s18 s19 wx => ∃ (g1 g2 : Nat) (d1 d2 : Nat → Nat), s18 = .slice (some ⟨g1, 0, none⟩) N1 N1 ∧ s19 = .slice (some ⟨g2, 0, none⟩) N1 N1 ∧ Ints wx wx.heap.size (some ⟨g1, 0, none⟩) N1 (tab N1 fun v => (d1 v : Int)) ∧ Ints wx wx.heap.size (some ⟨g2, 0, none⟩) N1 (tab N1 fun v => (d2 v : Int)) ∧ IsDist (Lk k hd rv fun a => opn X (rv a)) N1 t d1 ∧ IsDist (Lk k hd rv (opn X)) N1 s d2 ∧ Below W7.heap.size W7 wx)
      case first =>
        as_aux_lemma =>
          go_region_held3 (fun W => Below W7.heap.size W7 W ∧ W.cell? ⟨w3.heap.size, 0, none⟩ = some (.int .i64 (N1 : Int)) ∧ W.cell? ⟨w3.heap.size, 1, none⟩ = some (.int .i64 S1) ∧ W.cell? ⟨w3.heap.size, 2, none⟩ = some (.int .i64 T1) ∧ W.cell? ⟨w3.heap.size, 3, none⟩ = some (.slice K.AF (N1 + 1) K.cF) ∧ W.cell? ⟨w3.heap.size, 4, none⟩ = some (.slice K.AH k K.cH) ∧ W.cell? ⟨w3.heap.size, 5, none⟩ = some (.slice K.AR k K.cR) ∧ W.cell? ⟨w3.heap.size, 6, none⟩ = some (.slice K.AC k K.cC) ∧ W.cell? ⟨w3.heap.size, 7, none⟩ = some (.slice K.AA k K.cA) ∧ W.cell? ⟨w3.heap.size, 8, none⟩ = some (.slice K.AB k K.cB))
            (first
              | exact csr_keep HC7.out (Below.refl _ _).drew
              | (go_split_ands
                 exact csr_keep HC7.out (by refine below_step ?_ (by assumption); assumption)))
            (first
              | (go_at_call 14; go_split_ands; ((with_reducible refine (to_dist N1 k S1 T1 K fst hd rv AX cX X t _ HG.out (HG7.out.on (by assumption)) (HX7.out.on (by assumption)) (by omega) (by omega) htN).mono ?_); rintro e W8 ⟨g1, d1, rfl, D1, hD1, -, B8⟩))
              | (go_at_call 16; go_split_ands; ((with_reducible refine (from_dist N1 k S1 T1 K fst hd rv AX cX X s _ HG.out (HG7.out.on (by assumption)) (HX7.out.on (by assumption)) (by omega) (by omega) hsN).mono ?_); rintro e W9 ⟨g2, d2, rfl, D2, hD2, -, B9⟩)))
          go_split_ands
          go_wp2_with fail
          go_meet
          first
            | exact ⟨g1, g2, d1, d2, rfl, rfl, D1, D2.on B8, hD1, hD2, by assumption⟩
            | exact ⟨g1, g2, d1, d2, rfl, rfl, D1.on B9, D2, hD1, hD2, by assumption⟩
      case rest =>
        obtain ⟨g1, g2, d1, d2, rfl, rfl, D1, D2, hD1, hD2, B8⟩ := hcut
        have C8 := HC7.out.below B8 HC7.out.lt
        have G8 := HG7.out.on B8
        have X8 := HX7.out.on B8
        have Z8 := (HQ7.out.below B8 HQ7.out.lt).ints (n := k) (tab_len _ _)
        have Bw8 := below_step HB7.out B8
        clear HC7 HG7 HX7 HQ7 HB7 B8
        obtain ⟨a0, a1, a2, a3, a4, a5, a6, a7, a8⟩ := C8.at9
        have hz8 := C8.lt
        have HD1 := Lib.hid hD1; have HD2 := Lib.hid hD2
        clear hD1 hD2
        go_wp2_with fail
        clear a0 a1 a2 a3 a4 a5 a6 a7 a8 hz8
        refine (from_dist N1 k S1 T1 K fst hd rv (some ⟨w5.heap.size, 0, none⟩) k (backTo X rv k k) t _ HG.out G8 Z8 (by omega) (by omega) htN).mono ?_
        rintro e w9 ⟨g3, d3, rfl, D3, hD3, -, B9⟩
        go_wp2_with fail
        refine (ints_is (n := N1) (m := N1) _ _ (D1.on B9) D3 (by omega) (by omega) (v := true) (decide_eq_true (tab_same fun v hv => HD1.out.same hD3 (fun u v _ _ => lk_same fun a ha => (back_opn ha).symm) v hv))).mono ?_
        rintro e w10 ⟨rfl, B10⟩
        have Bs := below_step B9 B10
        have C10 := C8.below Bs C8.lt
        have G10 := G8.on Bs
        have Z10 := Z8.on Bs
        have D1' := D1.on Bs
        have D2' := D2.on Bs
        have Bw10 := below_step Bw8 Bs
        clear C8 G8 X8 Z8 D1 D2 Bw8 B9 B10 Bs D3 hD3
        obtain ⟨a0, a1, a2, a3, a4, a5, a6, a7, a8⟩ := C10.at9
        have hz10 := C10.lt
        go_wp2_with fail
        clear a0 a1 a2 a3 a4 a5 a6 a7 a8 hz10
        refine (to_dist N1 k S1 T1 K fst hd rv (some ⟨w5.heap.size, 0, none⟩) k (backTo X rv k k) s _ HG.out G10 Z10 (by omega) (by omega) hsN).mono ?_
        rintro e w11 ⟨g4, d4, rfl, D4, hD4, -, B11⟩
        go_wp2_with fail
        refine (ints_is (n := N1) (m := N1) _ _ (D2'.on B11) D4 (by omega) (by omega) (v := true) (decide_eq_true (tab_same fun v hv => HD2.out.same hD4 (fun u v _ _ => lk_same fun a ha => by rw [back_opn (HG.out.rvl a ha), HG.out.rvv a ha]) v hv))).mono ?_
        rintro e w12 ⟨rfl, B12⟩
        have Bs := below_step B11 B12
        have C12 := C10.below Bs C10.lt
        have D1 := D1'.on Bs
        have D2 := D2'.on Bs
        have Bw12 := below_step Bw10 Bs
        clear C10 G10 Z10 D1' D2' Bw10 B11 B12 Bs D4 hD4
        obtain ⟨hbx, c1s⟩ := tab_cell D1 hsN
        obtain ⟨hby, c2t⟩ := tab_cell D2 htN
        obtain ⟨_, c1r⟩ := tab_cell D1 hrN
        obtain ⟨_, c2r⟩ := tab_cell D2 hrN
        rw [Nat.zero_add] at c1s c2t c1r c2r
        have hflip := dist_flip HG.out HD1.out
        have h1 := HD2.out.both hflip hsN htN
        have h2 := HD2.out.over hflip r hrN
        have h3 := HD2.out.le r hrN
        have h4 := HD1.out.le r hrN
        have h5 := HD2.out.le t htN
        rw [h1] at c1s h2
        clear h1 hflip HD1 HD2 D1 D2
        generalize d2 t = x at *
        generalize d2 r = y at *
        generalize d1 r = z at *
        have HOV := Lib.hid h2
        clear h2
        have a0 := C12.cell 0
        simp only [List.getElem?_toArray, List.getElem?_cons_zero] at a0
        have hz12 := C12.lt
        have hBw := Lib.hid Bw12
        clear C12 Bw12
        go_upto_region 13 with fail
        go_cut [143] (fun s143 wx => s143 = .bool false ∧ Below w.heap.size w wx)
        case first =>
          have hB := fun q => below_drewN' hBw.out q
          by_cases hy : y < N1
          · by_cases hz : z < N1
            · have hxyz := HOV.out hy
              have e1 : decide ((y : Int) < (N1 : Int)) = true := decide_eq_true (by omega)
              have e2 : decide ((z : Int) < (N1 : Int)) = true := decide_eq_true (by omega)
              have e4 : IntKind.i64.wrap ((y : Int) + (z : Int)) = (y : Int) + (z : Int) := by rw [IntKind.wrap_i64]; omega
              have e3 : decide ((y : Int) + (z : Int) < (x : Int)) = false := decide_eq_false (by omega)
              go_quiet (fail)
              go_wp2_with fail
              go_meet
              exact ⟨rfl, hB _⟩
            · have e1 : decide ((y : Int) < (N1 : Int)) = true := decide_eq_true (by omega)
              have e2 : decide ((z : Int) < (N1 : Int)) = false := decide_eq_false (by omega)
              go_quiet (fail)
              go_wp2_with fail
              go_meet
              exact ⟨rfl, hB _⟩
          · have e1 : decide ((y : Int) < (N1 : Int)) = false := decide_eq_false (by omega)
            go_quiet (fail)
            go_wp2_with fail
            go_meet
            exact ⟨rfl, hB _⟩
        case rest =>
          obtain ⟨rfl, hBt⟩ := hcut
          have hBT := Lib.hid hBt
          clear hBt
          go_wp2_with fail
          refine (awake5_any _).mono ?_
          rintro e w14 ⟨rfl, B14⟩
          go_wp2_with fail
          go_ret
          exact ⟨rfl, below_step hBT.out B14⟩

end Go.Proofs.Ytdbfngamplkjeaa
