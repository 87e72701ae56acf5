/- DistWay: the walk. -/
import Derived.Test.YtdbfngamplkjeaaDawake
import Derived.Test.YtdbfngamplkjeaaDway
namespace Go.Proofs.Ytdbfngamplkjeaa
open Go.RowKit
set_option maxRecDepth 100000

set_option maxHeartbeats 1000000 in
theorem tail2_at (N M : Nat) (S T : Int) (K : CsrS) (fst hd rv : Nat → Nat) (a : Nat) (w : World) (hG : Grid N M fst hd rv) (hI : GridIn w w.heap.size N M K fst hd rv) (ha : a < M) :
    Calls Try.prog 22 #[csrW N M S T K, .int .i64 (a : Int)] w fun e w' => e = .returned (.tuple #[.int .i64 (hd (rv a) : Int), .bool true]) ∧ Below w.heap.size w w' := by
  obtain ⟨AF, cF, AH, cH, AR, cR, AC, cC, AA, cA, AB, cB⟩ := K
  dsimp only [csrW]
  obtain ⟨bH, oH, hH⟩ := hI.iH.adr (by omega)
  obtain ⟨bR, oR, hR⟩ := hI.iR.adr (by omega)
  dsimp only at hH hR
  subst hH; subst hR
  have hq := hG.rvl a ha
  obtain ⟨hb1, c1⟩ := tab_cell hI.iR ha
  obtain ⟨hb2, c2⟩ := tab_cell hI.iH hq
  generalize hd (rv a) = u at *
  generalize rv a = q at *
  have x1 := fun W => isIndex_any (a : Int) (M : Int) W
  have x2 := fun W => isIndex_any (q : Int) (M : Int) W
  rw [decide_eq_true (show 0 ≤ (a : Int) ∧ (a : Int) < (M : Int) by omega)] at x1
  rw [decide_eq_true (show 0 ≤ (q : Int) ∧ (q : Int) < (M : Int) by omega)] at x2
  have HX1 := Lib.hid x1; have HX2 := Lib.hid x2
  clear x1 x2 hI hG
  go_enter Try.func22, Try.ntmps22
  go_wp2_with fail
  go_quiet (first | (go_at_call 34; with_reducible exact Calls.quiet_of_same (HX1.out _)) | (go_at_call 34; with_reducible exact Calls.quiet_of_same (HX2.out _)))
  go_wp2_with fail
  go_quiet (fail)
  go_wp2_with fail
  go_ret2
  exact ⟨rfl, below_drewN' (below_drewN' (below_alloc _) _) _⟩

theorem opn_pos {X : List Int} {a : Nat} (h : opn X a = true) : ∃ y, X[a]? = some y ∧ 0 < y := by
  unfold opn at h
  cases hx : X[a]? with
  | none => rw [hx] at h; simp at h
  | some y => rw [hx] at h; exact ⟨y, rfl, by simpa using h⟩

set_option maxHeartbeats 16000000 in
theorem dway_walk (N S T : Int) (A : Option Addr) (n c : Nat) (l : List ArcN) (AL : Option Addr) (nl cl : Nat) (L : List Int) (a b : Nat) (w : World) (hA : Arcs w w.heap.size A n l) (hf : FitsAll l) (hnc : n ≤ c) (hL : Ints w w.heap.size AL nl L) (hLR : ∀ x ∈ L, InR x) (ha : a ≤ 255) (hb : b ≤ 255) :
    Calls Try.prog 5 #[.agg #[.int .i64 N, .int .i64 S, .int .i64 T, .slice A n c], .slice AL nl cl, .int .u8 (a : Int), .int .u8 (b : Int)] w fun e w' => e = .returned (.bool true) ∧ Below w.heap.size w w' := by
  have hso := fun W hW => some_any N S T A n c 16 40 l W hW hf hnc (by omega) (by omega) (by omega)
  obtain ⟨N1, hN1, hN2, hN3, hck, hln, hmem⟩ := some_net N S T 16 40 l (by omega) (by omega) (by omega)
  rw [hN1] at hso hck hln hmem
  generalize S % (N1 : Int) = S1 at *
  generalize someT (N1 : Int) S T = T1 at *
  generalize someL (N1 : Int) 40 l = l1 at *
  have HSO := Lib.hid hso; have HCK := Lib.hid hck; have HLR := Lib.hid hLR
  have HCAP := Lib.hid fun (x : ArcN) (hx : x ∈ l1) => (show 0 ≤ x.cap ∧ x.cap < 1125899906842624 by have := hmem x hx; omega)
  obtain ⟨s, hs⟩ : ∃ s, a % N1 = s := ⟨_, rfl⟩
  obtain ⟨t, ht⟩ : ∃ t, b % N1 = t := ⟨_, rfl⟩
  have hsN : s < N1 := by rw [← hs]; exact Nat.mod_lt _ (by omega)
  have htN : t < N1 := by rw [← ht]; exact Nat.mod_lt _ (by omega)
  have HS := Lib.hid hs; have HT := Lib.hid ht
  clear hso hck hN1 hmem hLR hs ht
  go_enter Try.func5, Try.ntmps5
  go_wp2_with fail
  refine (HSO.out _ (hA.onAlloc _)).mono ?_
  rintro e w1 ⟨A1, n1, c1, rfl, o1, hl1, B1⟩
  have a1 := arcs_own o1 hl1
  have Bw1 := below_step (below_alloc _) B1
  have L1 := (hL.below Bw1).more Bw1.size
  clear B1 o1 hA hL HSO
  go_wp2_with fail
  refine (left_grid N1 S1 T1 A1 n1 c1 l1 AL nl cl L _ a1 HCK.out L1 HLR.out HCAP.out (by omega) (by omega)).mono ?_
  rintro e w2 ⟨M, K, fst, hd, rv, AX, cX, X, rfl, hG, G2, X2, ⟨hM, hXb⟩, B2⟩
  have Bw2 := below_step Bw1 B2
  have HG := Lib.hid hG; have HXB := Lib.hid hXb
  have hXl : X.length = M := X2.len
  clear B2 Bw1 a1 L1 hG hXb HCK HLR HCAP hl1 hln
  dsimp only [csrW]
  go_wp2_with fail
  have C3 : Blk (w2.alloc (.cells #[.int .i64 (N1 : Int), .int .i64 S1, .int .i64 T1, .slice K.AF (N1 + 1) K.cF, .slice K.AH M K.cH, .slice K.AR M K.cR, .slice K.AC M K.cC, .slice K.AA M K.cA, .slice K.AB M K.cB] 29)) w2.heap.size 29 #[.int .i64 (N1 : Int), .int .i64 S1, .int .i64 T1, .slice K.AF (N1 + 1) K.cF, .slice K.AH M K.cH, .slice K.AR M K.cR, .slice K.AC M K.cC, .slice K.AA M K.cA, .slice K.AB M K.cB] := Blk.new rfl
  have G3 := G2.onAlloc (.cells #[.int .i64 (N1 : Int), .int .i64 S1, .int .i64 T1, .slice K.AF (N1 + 1) K.cF, .slice K.AH M K.cH, .slice K.AR M K.cR, .slice K.AC M K.cC, .slice K.AA M K.cA, .slice K.AB M K.cB] 29)
  have X3 := X2.onAlloc (.cells #[.int .i64 (N1 : Int), .int .i64 S1, .int .i64 T1, .slice K.AF (N1 + 1) K.cF, .slice K.AH M K.cH, .slice K.AR M K.cR, .slice K.AC M K.cC, .slice K.AA M K.cA, .slice K.AB M K.cB] 29)
  have Bw3 := Bw2.alloc Bw2.size (.cells #[.int .i64 (N1 : Int), .int .i64 S1, .int .i64 T1, .slice K.AF (N1 + 1) K.cF, .slice K.AH M K.cH, .slice K.AR M K.cR, .slice K.AC M K.cC, .slice K.AA M K.cA, .slice K.AB M K.cB] 29)
  generalize w2.alloc (.cells #[.int .i64 (N1 : Int), .int .i64 S1, .int .i64 T1, .slice K.AF (N1 + 1) K.cF, .slice K.AH M K.cH, .slice K.AR M K.cR, .slice K.AC M K.cC, .slice K.AA M K.cA, .slice K.AB M K.cB] 29) = w3 at *
  clear G2 X2 Bw2
  have k0 := C3.cell 0
  simp only [List.getElem?_toArray, List.getElem?_cons_zero] at k0
  have hz3 := C3.lt
  have hwa : IntKind.i64.wrap (a : Int) = (a : Int) := by rw [IntKind.wrap_i64]; omega
  have hwb : IntKind.i64.wrap (b : Int) = (b : Int) := by rw [IntKind.wrap_i64]; omega
  have hn0 : ¬ N1 = 0 := by omega
  have hn0' : ¬ (N1 : Int) = 0 := by omega
  have hs : (a : Int) % (N1 : Int) = (s : Int) := by rw [← HS.out, Int.natCast_emod]
  have ht : (b : Int) % (N1 : Int) = (t : Int) := by rw [← HT.out, Int.natCast_emod]
  go_quiet (fail)
  simp only [hs, ht]
  clear hs ht hwa hwb k0 hz3
  rename_i nq
  have B4 : Below w3.heap.size w3 (w3.drewN nq) := below_drewN' (Below.refl _ _) _
  have C4 := C3.below B4 C3.lt
  have G4 := G3.on B4
  have X4 := X3.on B4
  have Bw4 := below_step Bw3 B4
  generalize w3.drewN nq = w4 at *
  clear C3 G3 X3 Bw3 B4
  obtain ⟨a0, a1, a2, a3, a4, a5, a6, a7, a8⟩ := C4.at9
  have hz4 := C4.lt
  go_wp2_with fail
  refine (way_good N1 M S1 T1 K fst hd rv AX cX X s t _ HG.out G4 X4 (by omega) (by omega) hsN htN).mono ?_
  rintro e w5 ⟨AW, nW, cW, W, d, ok, rfl, hD, hok, IW, hno, hyes, B5⟩
  have C5 := C4.below B5 C4.lt
  have G5 := G4.on B5
  have X5 := X4.on B5
  have Bw5 := below_step Bw4 B5
  clear a0 a1 a2 a3 a4 a5 a6 a7 a8 hz4 C4 G4 X4 Bw4 B5
  obtain ⟨a0, a1, a2, a3, a4, a5, a6, a7, a8⟩ := C5.at9
  have hz5 := C5.lt
  have hlW : W.length = nW := by have := IW.len; simpa using this
  have HD := Lib.hid hD; have HOK := Lib.hid hok; have HNO := Lib.hid hno; have HYES := Lib.hid hyes; have HLW := Lib.hid hlW
  clear hD hok hno hyes hlW
  go_wp2_with fail
  refine (to_dist N1 M S1 T1 K fst hd rv AX cX X t _ HG.out G5 X5 (by omega) (by omega) htN).mono ?_
  rintro e w6 ⟨gD, d', rfl, D6, hD', -, B6⟩
  have hds : d' s = d s := hD'.same HD.out (fun _ _ _ _ => Iff.rfl) s hsN
  have C6 := C5.below B6 C5.lt
  have G6 := G5.on B6
  have X6 := X5.on B6
  have IW6 := IW.on B6
  have Bw6 := below_step Bw5 B6
  clear a0 a1 a2 a3 a4 a5 a6 a7 a8 hz5 C5 G5 X5 IW Bw5 B6 hD'
  obtain ⟨hbD, cs⟩ := tab_cell D6 hsN
  rw [Nat.zero_add, hds] at cs
  obtain ⟨ds, hdse⟩ : ∃ ds, d s = ds := ⟨_, rfl⟩
  have hdle := HD.out.le s hsN
  rw [hdse] at cs hdle
  have HDS := Lib.hid hdse
  clear hds hdse D6
  obtain ⟨a0, a1, a2, a3, a4, a5, a6, a7, a8⟩ := C6.at9
  have hz6 := C6.lt
  have hrest : Hid (∀ k, k < W.length → ok = true) := Lib.hid fun k hk => by
    rw [HOK.out]
    refine decide_eq_true ?_
    by_cases hc : d s = N1
    · rw [HNO.out hc] at hk; simp at hk
    · have := HD.out.le s hsN; omega
  have HC6 := Lib.hid C6; have HG6 := Lib.hid G6; have HX6 := Lib.hid X6; have HIW := Lib.hid IW6; have HB6 := Lib.hid Bw6
  clear C6 G6 X6 IW6 Bw6
  have hww : Hid (ok = true → WayOf fst hd X d s W t ∧ ds < N1 ∧ nW = ds) := Lib.hid fun h => by
    rw [HOK.out] at h
    have h1 : d s < N1 := by simpa using h
    have h2 := HYES.out h1
    have h3 := h2.len
    rw [HD.out.zero] at h3
    have := HLW.out; have := HDS.out
    exact ⟨h2, by omega, by omega⟩
  have hnn : Hid (ok = false → ds = N1 ∧ nW = 0) := Lib.hid fun h => by
    rw [HOK.out] at h
    have h1 : ¬ d s < N1 := by simpa using h
    have h2 := HNO.out (by have := HD.out.le s hsN; omega)
    have h3 := HLW.out; have h4 := HDS.out; have h5 := HD.out.le s hsN
    rw [h2] at h3
    exact ⟨by omega, by simpa using h3.symm⟩
  clear HOK HYES HNO
  cases ok
  case false =>
    obtain ⟨h1, h2⟩ := hnn.out rfl
    subst h1; subst h2
    go_wp2_with fail
    go_quiet (fail)
    have hB7 := Lib.hid (below_drewN' HB6.out nq)
    clear a0 a1 a2 a3 a4 a5 a6 a7 a8 cs hz6
    go_wp2_with fail
    go_loopw [90] (fun i wr => i = .int .i64 0 ∧ Below w.heap.size w wr) (fun _ _ => 0)
    case atStart => exact ⟨rfl, hB7.out⟩
    case round =>
      obtain ⟨rfl, hBr⟩ := hrel
      go_wp2_with fail
      refine (awake5_any _).mono ?_
      rintro e w8 ⟨rfl, B8⟩
      go_wp2_with fail
      go_ret
      exact ⟨rfl, below_step hBr B8⟩
  case true =>
    obtain ⟨h1, h2, h3⟩ := hww.out rfl
    have HW := Lib.hid h1
    subst h3
    clear h1
    go_wp2_with fail
    go_quiet (fail)
    have hB7 := Lib.hid (below_drewN' (Below.refl w6.heap.size w6) nq)
    clear a0 a1 a2 a3 a4 a5 a6 a7 a8 cs hz6 hww hnn hrest
    go_wp2_with fail
    go_loopw [16, 90] (fun v i wr => ∃ k u : Nat, k ≤ nW ∧ i = .int .i64 k ∧ v = .int .i64 u ∧ u < N1 ∧ WayOf fst hd X d u (W.drop k) t ∧ Below w6.heap.size w6 wr) (fun _ i _ => nW - (intOf i).toNat)
    case atStart => exact ⟨0, s, Nat.zero_le _, rfl, rfl, hsN, by simpa using HW.out, hB7.out⟩
    case round =>
      obtain ⟨k, u, hk, rfl, rfl, hu, hway, hBr⟩ := hrel
      by_cases hlt : k < nW
      · have I := HIW.out.below hBr
        obtain ⟨bW, oW, hAW⟩ := I.adr (by omega)
        subst hAW
        obtain ⟨x, hx⟩ : ∃ x, W[k]? = some x := ⟨_, List.getElem?_eq_getElem (by rw [HLW.out]; exact hlt)⟩
        rw [drop_at hx] at hway
        obtain ⟨hnear, hrest2⟩ := hway
        obtain ⟨hbW, cx⟩ := I.cel (k := k) (x := (x : Int)) (by simp [hx])
        have hhi := HG.out.fle (v := u + 1) (by omega)
        have hxM : x < M := by have := hnear.hi; omega
        have htl := HG.out.tail u x hu hnear.lo hnear.hi
        obtain ⟨y, hy, hy0⟩ := opn_pos hnear.op
        have hhd := HG.out.hdl x hxM
        have C7 := HC6.out.below hBr HC6.out.lt
        have G7 := HG6.out.on hBr
        have hzr := hBr.size
        obtain ⟨a0, a1, a2, a3, a4, a5, a6, a7, a8⟩ := C7.at9
        have hz7 := C7.lt
        have HR2 := Lib.hid hrest2; have HTL := Lib.hid htl; have HY := Lib.hid hy; have hBR := Lib.hid hBr; have HC7 := Lib.hid C7; have HG7 := Lib.hid G7
        clear hrest2 htl hnear hx I hy hBr C7 G7
        go_wp2_with fail
        refine (tail2_at N1 M S1 T1 K fst hd rv x _ HG.out HG7.out hxM).mono ?_
        rintro e w8 ⟨rfl, B8⟩
        rw [HTL.out]
        have C8 := HC7.out.below B8 HC7.out.lt
        have G8 := HG7.out.on B8
        have X8 := (HX6.out.on hBR.out).on B8
        have hB8 := Lib.hid (below_step hBR.out B8)
        obtain ⟨bX, oX, hAX⟩ := X8.adr (by omega)
        subst hAX
        obtain ⟨hbX, cy⟩ := X8.cel HY.out
        obtain ⟨bH, oH, hAH⟩ := G8.iH.adr (by omega)
        obtain ⟨hbH, ch⟩ : bH < w8.heap.size ∧ w8.cell? ⟨bH, oH + x, none⟩ = some (.int .i64 (hd x : Int)) := by
          have h := G8.iH
          rw [hAH] at h
          exact tab_cell h hxM
        clear a0 a1 a2 a3 a4 a5 a6 a7 a8 hz7
        have a4 := C8.cell 4
        simp only [List.getElem?_toArray, List.getElem?_cons_zero, List.getElem?_cons_succ] at a4
        rw [hAH] at a4
        have hz8 := C8.lt
        have hyd : decide (y ≤ 0) = false := decide_eq_false (by omega)
        have hyd2 : ¬ y ≤ 0 := by omega
        clear C8 G8 X8 B8 hAH
        go_wp2_with fail
        go_roundw
        case rel => exact ⟨k + 1, hd x, by omega, by go_num, rfl, hhd, HR2.out, hB8.out⟩
        case measure => simp [intOf]; omega
      · obtain rfl : nW = k := by omega
        have hut : u = t := by
          have h0 : W.drop nW = [] := List.drop_eq_nil_of_le (by rw [HLW.out]; exact Nat.le_refl _)
          rw [h0] at hway
          exact hway
        subst hut
        have hBt := Lib.hid (below_step HB6.out hBr)
        clear hway hBr
        go_wp2_with fail
        refine (awake5_any _).mono ?_
        rintro e w8 ⟨rfl, B8⟩
        go_wp2_with fail
        go_ret
        exact ⟨rfl, below_step hBt.out B8⟩

end Go.Proofs.Ytdbfngamplkjeaa
