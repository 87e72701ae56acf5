/- DistTells: the walk. -/
import Derived.Test.YtdbfngamplkjeaaLefto
import Derived.Test.YtdbfngamplkjeaaTellc
import Derived.Test.YtdbfngamplkjeaaTelld
namespace Go.Proofs.Ytdbfngamplkjeaa
open Go.RowKit
set_option maxRecDepth 100000

theorem own_cap {w : World} {base n c : Nat} {e : TypeId} {size : Nat} {A : Option Addr} {xs : List Value} (h : w.ownsRow base e size (.slice A n c) n xs) : n ≤ c := by
  rcases h.2 with ⟨h0, h1⟩ | ⟨g, cap, cur, hv, _, _, hnc, _⟩
  · injection h0 with _ h2 h3
    omega
  · injection hv with _ _ h3
    omega
theorem addr_same (a : Addr) : a.add 0 = a := by
  obtain ⟨b, o, i⟩ := a
  simp [Addr.add]
theorem long_part (A : Option Addr) (n c q : Nat) (hq : q ≤ c) (W : World) : (Instr.sliceAt 25 (.slice A n c) none (some (.int .i64 (q : Int))) none).run Try.prog W = .ok (.slice A q c) W := by
  have ht : Try.prog.underlying 25 = some (.slice (Try.prog.elem 25)) := by kernel_rfl
  have hs : ∃ s, ∀ W, (sizeOf (Try.prog.elem 25)).run Try.prog W = .ok s W := ⟨1, fun W => by kernel_rfl⟩
  obtain ⟨s, hs⟩ := hs
  rw [run_sliceAt_slice _ _ _ _ _ _ ht, run_slice_h _ _ _ _ _ ht _ _ (by omega) (by omega), hs]
  simp [Result.andThen, sliced, addr_same]
theorem rd_take {α : Type} {f : α → List Value} {size : Nat} {w : World} {B n : Nat} {A : Option Addr} {K : List α} (h : RdBy f size w B A n K) {k : Nat} (hk : k ≤ n) : RdBy f size w B A k (K.take k) := by
  have hl := h.len
  refine ⟨by simp; omega, fun h0 => ?_⟩
  obtain ⟨b, off, e, hb, hc⟩ := h.2 (by omega)
  refine ⟨b, off, e, hb, fun i a hi j u hu => hc i a ?_ j u hu⟩
  have hil := (List.getElem?_eq_some_iff.1 hi).1
  rw [List.length_take] at hil
  rwa [List.getElem?_take_of_lt (by omega)] at hi
theorem rows_yes2 (A B : Option Addr) (n c d N : Nat) (L : List (List Nat)) {w : World} (hA : RowsAt w w.heap.size A n L) (hB : RowsAt w w.heap.size B n L) (hs : L.length ≤ N ∧ ∀ l ∈ L, l.length ≤ N) (hN : N ≤ 4096) :
    Calls Try.prog 18 #[.slice A n c, .slice B n d] w fun e w' => e = .returned (.bool true) ∧ Below w.heap.size w w' := by
  refine (lrows_yes A B n c d L w hA hB (by have := hA.1; omega) (fun l hl => by have := hs.2 l hl; omega)).mono ?_
  rintro e w' ⟨rfl, q, rfl⟩
  exact ⟨rfl, below_drewN' (Below.refl _ _) _⟩

set_option maxHeartbeats 16000000 in
theorem dtells_walk (N S T : Int) (A : Option Addr) (n c : Nat) (l : List ArcN) (AL : Option Addr) (nl cl : Nat) (L : List Int) (s t : Int) (a : Nat) (w : World) (hA : Arcs w w.heap.size A n l) (hf : FitsAll l) (hnc : n ≤ c) (hL : Ints w w.heap.size AL nl L) (hLR : ∀ x ∈ L, InR x) (ha : a ≤ 255) :
    Calls Try.prog 3 #[.agg #[.int .i64 N, .int .i64 S, .int .i64 T, .slice A n c], .slice AL nl cl, .int .i64 s, .int .i64 t, .int .u8 (a : Int)] w fun e w' => e = .returned (.bool true) ∧ Below w.heap.size w w' := by
  have hso := fun W hW => some_any N S T A n c 16 40 l W hW hf hnc (by omega) (by omega) (by omega)
  obtain ⟨N1, hN1, hN2, hN3, hck, hln, hmem⟩ := some_net N S T 16 40 l (by omega) (by omega) (by omega)
  rw [hN1] at hso hck hln hmem
  generalize S % (N1 : Int) = S1 at *
  generalize someT (N1 : Int) S T = T1 at *
  generalize someL (N1 : Int) 40 l = l1 at *
  have HSO := Lib.hid hso; have HCK := Lib.hid hck; have HLR := Lib.hid hLR
  have HCAP := Lib.hid fun (x : ArcN) (hx : x ∈ l1) => (show 0 ≤ x.cap ∧ x.cap < 1125899906842624 by have := hmem x hx; omega)
  clear hso hck hN1 hmem hLR
  go_enter Try.func3, Try.ntmps3
  go_wp2_with fail
  refine (HSO.out _ (hA.onAlloc _)).mono ?_
  rintro e w1 ⟨A1, n1, c1, rfl, o1, hl1, B1⟩
  have a1 := arcs_own o1 hl1
  have Bw1 := below_step (below_alloc _) B1
  have L1 := (hL.below Bw1).more Bw1.size
  clear B1 o1 hA hL HSO
  go_wp2_with fail
  refine (left_grid_own N1 S1 T1 A1 n1 c1 l1 AL nl cl L _ a1 HCK.out L1 HLR.out HCAP.out (by omega) (by omega)).mono ?_
  rintro e w2 ⟨x0, M, K, fst, hd, rv, AX, cX, X, rfl, hG, G2, X2, ⟨hM, hXb⟩, B2, O2, hx1, hx2⟩
  have Bw2 := below_step Bw1 B2
  have hx3 : w.heap.size ≤ x0 := Nat.le_trans Bw1.size hx1
  have HG := Lib.hid hG
  have hXl : X.length = M := X2.len
  have hcx : M ≤ cX := own_cap O2
  clear B2 Bw1 a1 L1 hG hXb HCK HLR HCAP hl1 hln hx1
  dsimp only [csrW]
  have C3 : Blk (w2.alloc (.cells #[.int .i64 (N1 : Int), .int .i64 S1, .int .i64 T1, .slice K.AF (N1 + 1) K.cF, .slice K.AH M K.cH, .slice K.AR M K.cR, .slice K.AC M K.cC, .slice K.AA M K.cA, .slice K.AB M K.cB] 29)) w2.heap.size 29 #[.int .i64 (N1 : Int), .int .i64 S1, .int .i64 T1, .slice K.AF (N1 + 1) K.cF, .slice K.AH M K.cH, .slice K.AR M K.cR, .slice K.AC M K.cC, .slice K.AA M K.cA, .slice K.AB M K.cB] := Blk.new rfl
  have G3 := G2.below ((below_alloc (w := w2) (.cells #[.int .i64 (N1 : Int), .int .i64 S1, .int .i64 T1, .slice K.AF (N1 + 1) K.cF, .slice K.AH M K.cH, .slice K.AR M K.cR, .slice K.AC M K.cC, .slice K.AA M K.cA, .slice K.AB M K.cB] 29)).mono hx2)
  have X3 := X2.onAlloc (.cells #[.int .i64 (N1 : Int), .int .i64 S1, .int .i64 T1, .slice K.AF (N1 + 1) K.cF, .slice K.AH M K.cH, .slice K.AR M K.cR, .slice K.AC M K.cC, .slice K.AA M K.cA, .slice K.AB M K.cB] 29)
  have O3 := O2.alloc (.cells #[.int .i64 (N1 : Int), .int .i64 S1, .int .i64 T1, .slice K.AF (N1 + 1) K.cF, .slice K.AH M K.cH, .slice K.AR M K.cR, .slice K.AC M K.cC, .slice K.AA M K.cA, .slice K.AB M K.cB] 29)
  have Bw3 := Bw2.alloc Bw2.size (.cells #[.int .i64 (N1 : Int), .int .i64 S1, .int .i64 T1, .slice K.AF (N1 + 1) K.cF, .slice K.AH M K.cH, .slice K.AR M K.cR, .slice K.AC M K.cC, .slice K.AA M K.cA, .slice K.AB M K.cB] 29)
  have hx4 : x0 ≤ (w2.alloc (.cells #[.int .i64 (N1 : Int), .int .i64 S1, .int .i64 T1, .slice K.AF (N1 + 1) K.cF, .slice K.AH M K.cH, .slice K.AR M K.cR, .slice K.AC M K.cC, .slice K.AA M K.cA, .slice K.AB M K.cB] 29)).heap.size := by simp; omega
  go_upto_block 0 with fail
  generalize w2.alloc (.cells #[.int .i64 (N1 : Int), .int .i64 S1, .int .i64 T1, .slice K.AF (N1 + 1) K.cF, .slice K.AH M K.cH, .slice K.AR M K.cR, .slice K.AC M K.cC, .slice K.AA M K.cA, .slice K.AB M K.cB] 29) = w3 at *
  have hz3 := C3.lt
  clear G2 X2 O2 Bw2
  obtain ⟨i0, hi, hz0, hz1, hz2⟩ := info_parts long_info
  have HI := Lib.hid hi; have HZ0 := Lib.hid hz0; have HZ1 := Lib.hid hz1; have HZ2 := Lib.hid hz2
  clear hi hz0 hz1 hz2
  go_cut [12, 25] (fun s12 _ wx => ∃ (A' : Option Addr) (n' c' : Nat) (Y : List Int), s12 = .slice A' n' c' ∧ Ints wx wx.heap.size A' n' Y ∧ Blk wx w2.heap.size 29 #[.int .i64 (N1 : Int), .int .i64 S1, .int .i64 T1, .slice K.AF (N1 + 1) K.cF, .slice K.AH M K.cH, .slice K.AR M K.cR, .slice K.AC M K.cC, .slice K.AA M K.cA, .slice K.AB M K.cB] ∧ GridIn wx wx.heap.size N1 M K fst hd rv ∧ Below w.heap.size w wx)
  case first =>
    have h8 : (a : Int) % 8 = 0 ∨ (a : Int) % 8 = 1 ∨ (¬ (a : Int) % 8 = 0 ∧ ¬ (a : Int) % 8 = 1) := by omega
    rcases h8 with h8 | h8 | ⟨h8, h9⟩
    · go_wp2_with (at_builtin; refine wpList_append_row _ rfl (.tmp 28) (.tmp 29) _ rfl x0 2 i0 _ 1 8 Try.underlying25 HI.out HZ0.out HZ1.out HZ2.out rfl (by omega) AX M cX (X.map (Value.int .i64)) rfl (O3.alloc _) (some ⟨w3.heap.size, 0, none⟩) 1 1 [.int .i64 1] rfl rfl ?_ ?_ ?_ ?_ ?_ ?_)
      · intro _
        refine ⟨_, rfl, fun j u hu => ?_⟩
        rw [addr_add, Nat.zero_add]
        exact ((Blk.new rfl : Blk (w3.alloc (.cells #[.int .i64 1] 2)) w3.heap.size 2 #[.int .i64 1]).cell j).trans (by simpa using hu)
      · intro u hu
        simp only [List.mem_singleton] at hu
        rw [hu]; rfl
      · unfold maxLen; omega
      · omega
      · simp; omega
      · intro A6 c6 w6 HO6 hg6 HX6
        have Y6 : Ints w6 w6.heap.size A6 (M + 1) (X ++ [1]) := RdBy.of_own (by simp [hXl]) (int_len _) (by rw [← ivs_flat, List.map_append]; exact HO6.out)
        have C6 := (C3.alloc (.cells #[.int .i64 1] 2)).grownO hg6 (O3.alloc _) (by decide)
        have Bx : Below x0 w3 w6 := below_grown ((below_alloc (w := w3) (.cells #[.int .i64 1] 2)).mono hx4) hg6 (O3.alloc _) (Nat.le_refl _) (by simp; omega)
        have G6 := (G3.below Bx).more (Nat.le_trans hx4 Bx.size)
        have B6 := Bw3.trans (Bx.mono hx3)
        clear hg6 HX6 HO6
        go_wp2_with fail
        go_meet
        exact ⟨_, _, _, _, rfl, Y6, C6, G6, B6⟩
    · have hsl : ∀ W, (Instr.sliceAt 25 (.slice AX M cX) none (some (.int .i64 ((M / 2 : Nat) : Int))) none).run Try.prog W = .ok (.slice AX (M / 2) cX) W := fun W => long_part _ _ _ _ (by omega) _
      have G6 := G3.more hx4
      go_wp2_with fail
      go_meet
      exact ⟨_, _, _, _, rfl, rd_take X3 (k := M / 2) (by omega), C3, G6, Bw3⟩
    · have g1 : decide ((a : Int) % 8 = 0) = false := decide_eq_false h8
      have g2 : decide ((a : Int) % 8 = 1) = false := decide_eq_false h9
      have g3 : ((a : Int) % 8 == 0) = false := beq_eq_false_iff_ne.2 h8
      have g4 : ((a : Int) % 8 == 1) = false := beq_eq_false_iff_ne.2 h9
      have G6 := G3.more hx4
      go_wp2_with fail
      go_meet
      exact ⟨_, _, _, _, rfl, X3, C3, G6, Bw3⟩
  case rest =>
    obtain ⟨A6, n6, c6, Y, rfl, Y6, C6, G6, Bw6⟩ := hcut
    obtain ⟨w6, hw6⟩ := world_name Bw6
    subst hw6
    clear C3 G3 X3 O3 Bw3
    obtain ⟨a0, a1, a2, a3, a4, a5, a6, a7, a8⟩ := C6.at9
    have hz6 := C6.lt
    go_wp2_with fail
    clear a0 a1 a2 a3 a4 a5 a6 a7 a8 hz6
    refine (dway_any N1 M S1 T1 K fst hd rv A6 n6 c6 Y s t _ HG.out G6 Y6 (by omega) (by omega)).mono ?_
    rintro e w7 ⟨Aa, na, ca, la, oka, rfl, Ia, hna, hPa, B7⟩
    have C7 := C6.below B7 C6.lt
    have G7 := G6.on B7
    have Y7 := Y6.on B7
    have Bw7 := below_step Bw6 B7
    clear C6 G6 Y6 Bw6 B7
    obtain ⟨a0, a1, a2, a3, a4, a5, a6, a7, a8⟩ := C7.at9
    have hz7 := C7.lt
    go_wp2_with fail
    clear a0 a1 a2 a3 a4 a5 a6 a7 a8 hz7
    refine (rway_any N1 M S1 T1 K fst hd rv A6 n6 c6 Y s t _ HG.out G7 Y7 (by omega) (by omega)).mono ?_
    rintro e w8 ⟨Ab, nb, cb, lb, okb, rfl, Ib, hnb, hPb, B8⟩
    obtain ⟨hok, hll⟩ := hPa.same HG.out hPb
    subst hok
    subst hll
    have HC8 := Lib.hid (C7.below B8 C7.lt)
    have HG8 := Lib.hid (G7.on B8)
    have HY8 := Lib.hid (Y7.on B8)
    have HIa := Lib.hid (Ia.on B8)
    have HIb := Lib.hid Ib
    have HB8 := Lib.hid (below_step Bw7 B8)
    clear C7 G7 Y7 Bw7 B8 Ia Ib hPa hPb
    go_upto_region 9 with fail
    go_region_held3 (fun W => Below w8.heap.size w8 W ∧ W.cell? ⟨w2.heap.size, 0, none⟩ = some (.int .i64 (N1 : Int)) ∧ W.cell? ⟨w2.heap.size, 1, none⟩ = some (.int .i64 S1) ∧ W.cell? ⟨w2.heap.size, 2, none⟩ = some (.int .i64 T1) ∧ W.cell? ⟨w2.heap.size, 3, none⟩ = some (.slice K.AF (N1 + 1) K.cF) ∧ W.cell? ⟨w2.heap.size, 4, none⟩ = some (.slice K.AH M K.cH) ∧ W.cell? ⟨w2.heap.size, 5, none⟩ = some (.slice K.AR M K.cR) ∧ W.cell? ⟨w2.heap.size, 6, none⟩ = some (.slice K.AC M K.cC) ∧ W.cell? ⟨w2.heap.size, 7, none⟩ = some (.slice K.AA M K.cA) ∧ W.cell? ⟨w2.heap.size, 8, none⟩ = some (.slice K.AB M K.cB))
      (first
        | exact csr_keep HC8.out (Below.refl _ _).drew
        | (go_split_ands
           exact csr_keep HC8.out (by refine below_step ?_ (by assumption); assumption)))
      (first
        | (go_at_call 14; go_split_ands; ((with_reducible refine (dto_any N1 M S1 T1 K fst hd rv A6 n6 c6 Y t _ HG.out (HG8.out.on (by assumption)) (HY8.out.on (by assumption)) (by omega) (by omega)).mono ?_); rintro e W1 ⟨A1', m1, d1, l1', rfl, I1, hm1, hP1, B1⟩))
        | (go_at_call 15; go_split_ands; ((with_reducible refine (rto_any N1 M S1 T1 K fst hd rv A6 n6 c6 Y t _ HG.out (HG8.out.on (by assumption)) (HY8.out.on (by assumption)) (by omega) (by omega)).mono ?_); rintro e W2 ⟨A2', m2, d2, l2', rfl, I2, hm2, hP2, B2⟩; have hE1 := Lib.hid (hP1.same hP2); have J1 := Lib.hid (I1.on B2); have J2 := Lib.hid I2; clear I1 I2 hP1 hP2))
        | (go_at_call 13; go_split_ands; ((with_reducible refine (ints_is (n := m1) (m := m2) _ _ J1.out J2.out (by omega) (by omega) (v := true) (decide_eq_true hE1.out)).mono ?_); rintro e W3 ⟨rfl, B3⟩))
        | (go_at_call 16; go_split_ands; ((with_reducible refine (dfrom_any N1 M S1 T1 K fst hd rv A6 n6 c6 Y s _ HG.out (HG8.out.on (by assumption)) (HY8.out.on (by assumption)) (by omega) (by omega)).mono ?_); rintro e W4 ⟨A3', m3, d3, l3', rfl, I3, hm3, hP3, B4⟩))
        | (go_at_call 17; go_split_ands; ((with_reducible refine (rfrom_any N1 M S1 T1 K fst hd rv A6 n6 c6 Y s _ HG.out (HG8.out.on (by assumption)) (HY8.out.on (by assumption)) (by omega) (by omega)).mono ?_); rintro e W5 ⟨A4', m4, d4, l4', rfl, I4, hm4, hP4, B5⟩; have hE2 := Lib.hid (hP3.same hP4); have J3 := Lib.hid (I3.on B5); have J4 := Lib.hid I4; clear I3 I4 hP3 hP4))
        | (go_at_call 13; go_split_ands; ((with_reducible refine (ints_is (n := m3) (m := m4) _ _ J3.out J4.out (by omega) (by omega) (v := true) (decide_eq_true hE2.out)).mono ?_); rintro e W6 ⟨rfl, B6⟩))
        | (go_at_call 13; go_split_ands; ((with_reducible refine (ints_is (n := na) (m := nb) _ _ (HIa.out.on (by assumption)) (HIb.out.on (by assumption)) (by omega) (by omega) (v := true) (decide_eq_true rfl)).mono ?_); rintro e W7 ⟨rfl, B7⟩))
        | (go_at_call 19; go_split_ands; ((with_reducible refine (drows_any N1 M S1 T1 K fst hd rv A6 n6 c6 Y t _ HG.out (HG8.out.on (by assumption)) (HY8.out.on (by assumption)) (by omega) (by omega)).mono ?_); rintro e W9 ⟨A5', m5, d5, L5, rfl, I5, hP5, B9⟩))
        | (go_at_call 20; go_split_ands; ((with_reducible refine (rrows_any N1 M S1 T1 K fst hd rv A6 n6 c6 Y t _ HG.out (HG8.out.on (by assumption)) (HY8.out.on (by assumption)) (by omega) (by omega)).mono ?_); rintro e W10 ⟨A7', m6, d6, L6, rfl, I6, hP6, B10⟩; have hE3 := hP5.same hP6; subst hE3; have hsm := Lib.hid hP5.small; have J5 := Lib.hid (I5.on B10); have J6 := Lib.hid I6; have hmm : m6 = m5 := (J6.out.1.symm.trans J5.out.1); subst hmm; clear I5 I6 hP5 hP6))
        | (go_at_call 18; go_split_ands; ((with_reducible refine (rows_yes2 _ _ _ _ _ _ _ J5.out J6.out hsm.out (by omega)).mono ?_); rintro e W11 ⟨rfl, B11⟩))
        | (go_at_call 21; go_split_ands; ((with_reducible refine (awake5_any _).mono ?_); rintro e W12 ⟨rfl, B12⟩)))
    go_split_ands
    go_wp2_with fail
    go_ret
    exact ⟨rfl, below_step HB8.out (by assumption)⟩

end Go.Proofs.Ytdbfngamplkjeaa
