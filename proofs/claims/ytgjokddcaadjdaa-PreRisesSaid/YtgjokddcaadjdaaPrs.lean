/- PreRises: what it asks of each step. -/
import Derived.Test.YtgjokddcaadjdaaPrp
import Derived.Test.YtgjokddcaadjdaaTaio
import Derived.Test.YtgjokddcaadjdaaLongc
import Derived.Test.YtgjokddcaadjdaaPlay
namespace Go.Proofs.Ytgjokddcaadjdaa
open Go.RowKit
set_option maxRecDepth 100000

set_option maxHeartbeats 16000000 in
theorem prs_is (N M s t : Nat) (K : CsrS) (Q Q' : PreS) (fst hd rv ai : Nat → Nat) (cp : Nat → Int) (bk : Nat → Bool) (S S' : StN) (g3 : Nat) (fb : Bool) (w : World) (hG : PNet N M s t fst hd rv ai cp bk) (hI : PIn w w.heap.size N M K fst hd rv ai cp bk)
    (hQ : StIn w w.heap.size M N N Q S.1 S.2.1 S.2.2) (hQ' : StIn w w.heap.size M N N Q' S'.1 S'.2.1 S'.2.2) (hS' : OkS N M s t hd rv cp S') (h3 : Blk w g3 4 #[.bool fb]) 
    (hup : ∀ v, v < N → hOf S.2.2 v ≤ hOf S'.2.2 v) (hdf : ∀ v, v < N → -maxSum ≤ hOf S'.2.1 v - hOf S.2.1 v ∧ hOf S'.2.1 v - hOf S.2.1 v ≤ maxSum)
    (hres : (fb = true ∧ (selTo (pUp S.2.2 S'.2.2) N).length = 0 ∧ (selTo (pGone S.2.1 S'.2.1) N).length = 0 ∧ (selTo (pGot S.2.1 S'.2.1) N).length = 0) ∨ (fb = false ∧ (LiftB N S S' ∨ PushB N M hd rv S S'))) :
    Calls Try.prog 32 (#[csrW N M s t K, preW M N N Q, preW M N N Q'] ++ #[.pointer (some ⟨g3, 0, none⟩)]) w fun e w' => e = .returned (.bool true) ∧ Blk w' g3 4 #[.bool false] ∧ Kpz (fun k => k = g3) g3 w w' := by
  have hM := hG.nM; have hN := hG.nN; have hn2 := hG.n2
  have HG := Lib.hid hG; have HI := Lib.hid hI; have HQ := Lib.hid hQ; have HQ' := Lib.hid hQ'; have HS' := Lib.hid hS'; have HUP := Lib.hid hup; have HDF := Lib.hid hdf; have HRES := Lib.hid hres
  obtain ⟨bE, oE, hE⟩ := hQ.iE.adr (by omega)
  obtain ⟨bH, oH, hH⟩ := hQ.iH.adr (by omega)
  obtain ⟨bD, oD, hD⟩ := hQ'.iE.adr (by omega)
  obtain ⟨bG, oG, hGG⟩ := hQ'.iH.adr (by omega)
  obtain ⟨AX, cX, AE, cE, AHH, cHH⟩ := Q
  obtain ⟨AY, cY, AD, cD, AG, cG⟩ := Q'
  obtain ⟨AF, cF, AH, cH, AR, cR, AC, cC, AA, cA, AB, cB⟩ := K
  dsimp only at hE hH hD hGG
  subst hE; subst hH; subst hD; subst hGG
  dsimp only [csrW, preW]
  simp only [List.append_toArray, List.cons_append, List.nil_append]
  obtain ⟨w1, hw1⟩ : ∃ w1, (((w.alloc (.cells #[.int .i64 (N : Int), .int .i64 (s : Int), .int .i64 (t : Int), .slice AF (N + 1) cF, .slice AH M cH, .slice AR M cR, .slice AC M cC, .slice AA M cA, .slice AB M cB] 32)).alloc (.cells #[.slice AX M cX, .slice (some ⟨bE, oE, none⟩) N cE, .slice (some ⟨bH, oH, none⟩) N cHH] 29)).alloc (.cells #[.slice AY M cY, .slice (some ⟨bD, oD, none⟩) N cD, .slice (some ⟨bG, oG, none⟩) N cG] 29)) = w1 := ⟨_, rfl⟩
  have B1 : Below w.heap.size w w1 := by rw [← hw1]; exact (((Below.refl _ w).alloc (Nat.le_refl _) _).alloc (by simp) _).alloc (by simp; omega) _
  have HC := Lib.hid (show Blk w1 w.heap.size 32 #[.int .i64 (N : Int), .int .i64 (s : Int), .int .i64 (t : Int), .slice AF (N + 1) cF, .slice AH M cH, .slice AR M cR, .slice AC M cC, .slice AA M cA, .slice AB M cB] by rw [← hw1]; exact ((Blk.new rfl).alloc _).alloc _)
  have HW := Lib.hid (show Blk w1 (w.heap.size + 1) 29 #[.slice AX M cX, .slice (some ⟨bE, oE, none⟩) N cE, .slice (some ⟨bH, oH, none⟩) N cHH] by rw [← hw1]; exact (Blk.new (by simp)).alloc _)
  have HP := Lib.hid (show Blk w1 (w.heap.size + 1 + 1) 29 #[.slice AY M cY, .slice (some ⟨bD, oD, none⟩) N cD, .slice (some ⟨bG, oG, none⟩) N cG] by rw [← hw1]; exact Blk.new (by simp))
  have H3 := Lib.hid (h3.below B1 h3.lt)
  have HL3 := Lib.hid h3.lt
  have HB1 := Lib.hid B1
  obtain ⟨a0, a1, a2, a3, a4, a5, a6, a7, a8⟩ := HC.out.at9
  have hz1 := HC.out.lt
  clear hG hI hQ hQ' hS' hup hdf hres h3 B1
  go_enter Try.func32, Try.ntmps32
  go_wp2_with fail
  clear hw1 a0 a1 a2 a3 a4 a5 a6 a7 a8 hz1
  go_loopw [8, 9, 10, 11, 12, 20] (fun q8 q9 q10 _ _ i wr => ∃ k : Nat, k ≤ N ∧ i = .int .i64 k ∧ q8 = .int .i64 ((selTo (pUp S.2.2 S'.2.2) k).length : Int) ∧ q9 = .int .i64 ((selTo (pGone S.2.1 S'.2.1) k).length : Int) ∧ q10 = .int .i64 ((selTo (pGot S.2.1 S'.2.1) k).length : Int) ∧ Below w1.heap.size w1 wr) (fun _ _ _ _ _ i _ => N - (intOf i).toNat)
  case atStart => exact ⟨0, Nat.zero_le _, rfl, rfl, rfl, rfl, Below.refl _ _⟩
  case round =>
    obtain ⟨k, hk, rfl, rfl, rfl, rfl, Br⟩ := hrel
    have Bw := below_step HB1.out Br
    have HBr := Lib.hid Br
    obtain ⟨l1, hl1⟩ : ∃ n, (selTo (pUp S.2.2 S'.2.2) k).length = n := ⟨_, rfl⟩
    obtain ⟨l2, hl2⟩ : ∃ n, (selTo (pGone S.2.1 S'.2.1) k).length = n := ⟨_, rfl⟩
    obtain ⟨l3, hl3⟩ : ∃ n, (selTo (pGot S.2.1 S'.2.1) k).length = n := ⟨_, rfl⟩
    have hle1 := sel_len (pUp S.2.2 S'.2.2) k; have hle2 := sel_len (pGone S.2.1 S'.2.1) k; have hle3 := sel_len (pGot S.2.1 S'.2.1) k
    have HL1 := Lib.hid hl1; have HL2 := Lib.hid hl2; have HLL3 := Lib.hid hl3
    rw [hl1] at hle1 ⊢; rw [hl2] at hle2 ⊢; rw [hl3] at hle3 ⊢
    clear hl1 hl2 hl3
    have cc := HC.out.below Br HC.out.lt; have cw := HW.out.below Br HW.out.lt; have cq := HP.out.below Br HP.out.lt
    obtain ⟨a0, a1, a2, a3, a4, a5, a6, a7, a8⟩ := cc.at9
    obtain ⟨⟨p0, p1, p2⟩, -, hz2⟩ := cw.full3
    obtain ⟨⟨m0, m1, m2⟩, -, hz3⟩ := cq.full3
    have hz1 := cc.lt
    clear cc cw cq
    by_cases hlt : k < N
    · have R := HQ.out.below Bw; have R' := HQ'.out.below Bw
      obtain ⟨hbE, ce⟩ := R.iE.cel (hOf_get R.iE.len hlt)
      obtain ⟨hbH, ch⟩ := R.iH.cel (hOf_get R.iH.len hlt)
      obtain ⟨hbD, cd⟩ := R'.iE.cel (hOf_get R'.iE.len hlt)
      obtain ⟨hbG, cg⟩ := R'.iH.cel (hOf_get R'.iH.len hlt)
      have hu1 := HUP.out k hlt; have hb1 := HS'.out.bnd k hlt; have hd1 := HDF.out k hlt
      unfold maxSum at hd1
      obtain ⟨ze, hze⟩ : ∃ z, hOf S.2.1 k = z := ⟨_, rfl⟩
      obtain ⟨zh, hzh⟩ : ∃ z, hOf S.2.2 k = z := ⟨_, rfl⟩
      obtain ⟨zd, hzd⟩ : ∃ z, hOf S'.2.1 k = z := ⟨_, rfl⟩
      obtain ⟨zg, hzg⟩ : ∃ z, hOf S'.2.2 k = z := ⟨_, rfl⟩
      have HZE := Lib.hid hze; have HZH := Lib.hid hzh; have HZD := Lib.hid hzd; have HZG := Lib.hid hzg
      rw [hze] at ce hd1; rw [hzh] at ch hu1; rw [hzd] at cd hd1; rw [hzg] at cg hu1 hb1
      clear hze hzh hzd hzg R R' Br
      have hwd : IntKind.i64.wrap (zd - ze) = zd - ze := wrap_in (by omega) (by omega)
      have hw2 : IntKind.i64.wrap (2 * (N : Int)) = 2 * (N : Int) := wrap_in (by omega) (by omega)
      have c1 : decide (zg < zh) = false := decide_eq_false (by omega)
      have c2 : decide (2 * (N : Int) ≤ zg) = false := decide_eq_false (by omega)
      have c3 : ¬ zg < zh := by omega
      have c4 : ¬ 2 * (N : Int) ≤ zg := by omega
      have hbz : w.heap.size ≤ wr.heap.size := Bw.size
      have k1 : bE < wr.heap.size := by omega
      have k2 : bH < wr.heap.size := by omega
      have k3 : bD < wr.heap.size := by omega
      have k4 : bG < wr.heap.size := by omega
      have hcase : (zh < zg ∨ ¬ zh < zg) ∧ (zd - ze < 0 ∨ 0 < zd - ze ∨ zd - ze = 0) := by omega
      obtain ⟨hu | hu, hs | hs | hs⟩ := hcase
      · -- True -1
        have u1 : (zh < zg) := hu
        have u2 : pUp S.2.2 S'.2.2 k = true := by simp only [pUp, HZH.out, HZG.out]; simpa using hu
        have g2 : pGone S.2.1 S'.2.1 k = true := by simp only [pGone, HZE.out, HZD.out]; simp; omega
        have t2 : pGot S.2.1 S'.2.1 k = false := by simp only [pGot, HZE.out, HZD.out]; simp; omega
        obtain ⟨d, hd'⟩ : ∃ d, zd - ze = d := ⟨_, rfl⟩
        have hds : d < 0 := by omega
        have hwd' : IntKind.i64.wrap (zd - ze) = d := by rw [hwd]; exact hd'
        clear hwd
        clear hd'
        have u3' : (selTo (pUp S.2.2 S'.2.2) (k + 1)).length = l1 + 1 := by rw [sel_yes u2, List.length_append, HL1.out]; rfl
        have g3' : (selTo (pGone S.2.1 S'.2.1) (k + 1)).length = l2 + 1 := by rw [sel_yes g2, List.length_append, HL2.out]; rfl
        have t3' : (selTo (pGot S.2.1 S'.2.1) (k + 1)).length = l3 := by rw [sel_no t2, HLL3.out]
        have HU2 := Lib.hid u3'; have HG2 := Lib.hid g3'; have HT2 := Lib.hid t3'
        clear u2 g2 t2 u3' g3' t3' hu hs
        go_wp2_with fail
        go_quiet (fail)
        go_wp2_with fail
        go_quiet (fail)
        go_wp2_with fail
        go_quiet (fail)
        go_wp2_with fail
        go_roundw
        case rel => exact ⟨k + 1, by omega, by go_num, by rw [HU2.out]; go_num, by rw [HG2.out]; go_num, by rw [HT2.out], below_drewN' HBr.out _⟩
        case measure => simp [intOf]; omega
      · -- True 1
        have u1 : (zh < zg) := hu
        have u2 : pUp S.2.2 S'.2.2 k = true := by simp only [pUp, HZH.out, HZG.out]; simpa using hu
        have g2 : pGone S.2.1 S'.2.1 k = false := by simp only [pGone, HZE.out, HZD.out]; simp; omega
        have t2 : pGot S.2.1 S'.2.1 k = true := by simp only [pGot, HZE.out, HZD.out]; simp; omega
        obtain ⟨d, hd'⟩ : ∃ d, zd - ze = d := ⟨_, rfl⟩
        have hds : 0 < d := by omega
        have hwd' : IntKind.i64.wrap (zd - ze) = d := by rw [hwd]; exact hd'
        clear hwd
        have n1 : decide (d < 0) = false := decide_eq_false (by omega)
        have n2 : ¬ d < 0 := by omega
        clear hd'
        have u3' : (selTo (pUp S.2.2 S'.2.2) (k + 1)).length = l1 + 1 := by rw [sel_yes u2, List.length_append, HL1.out]; rfl
        have g3' : (selTo (pGone S.2.1 S'.2.1) (k + 1)).length = l2 := by rw [sel_no g2, HL2.out]
        have t3' : (selTo (pGot S.2.1 S'.2.1) (k + 1)).length = l3 + 1 := by rw [sel_yes t2, List.length_append, HLL3.out]; rfl
        have HU2 := Lib.hid u3'; have HG2 := Lib.hid g3'; have HT2 := Lib.hid t3'
        clear u2 g2 t2 u3' g3' t3' hu hs
        go_wp2_with fail
        go_quiet (fail)
        go_wp2_with fail
        go_quiet (fail)
        go_wp2_with fail
        go_quiet (fail)
        go_wp2_with fail
        go_roundw
        case rel => exact ⟨k + 1, by omega, by go_num, by rw [HU2.out]; go_num, by rw [HG2.out], by rw [HT2.out]; go_num, below_drewN' HBr.out _⟩
        case measure => simp [intOf]; omega
      · -- True 0
        have u1 : (zh < zg) := hu
        have u2 : pUp S.2.2 S'.2.2 k = true := by simp only [pUp, HZH.out, HZG.out]; simpa using hu
        have g2 : pGone S.2.1 S'.2.1 k = false := by simp only [pGone, HZE.out, HZD.out]; simp; omega
        have t2 : pGot S.2.1 S'.2.1 k = false := by simp only [pGot, HZE.out, HZD.out]; simp; omega
        obtain ⟨d, hd'⟩ : ∃ d, zd - ze = d := ⟨_, rfl⟩
        have hds : d = 0 := by omega
        have hwd' : IntKind.i64.wrap (zd - ze) = d := by rw [hwd]; exact hd'
        clear hwd
        subst hds
        clear hd'
        have u3' : (selTo (pUp S.2.2 S'.2.2) (k + 1)).length = l1 + 1 := by rw [sel_yes u2, List.length_append, HL1.out]; rfl
        have g3' : (selTo (pGone S.2.1 S'.2.1) (k + 1)).length = l2 := by rw [sel_no g2, HL2.out]
        have t3' : (selTo (pGot S.2.1 S'.2.1) (k + 1)).length = l3 := by rw [sel_no t2, HLL3.out]
        have HU2 := Lib.hid u3'; have HG2 := Lib.hid g3'; have HT2 := Lib.hid t3'
        clear u2 g2 t2 u3' g3' t3' hu hs
        go_wp2_with fail
        go_quiet (fail)
        go_wp2_with fail
        go_quiet (fail)
        go_wp2_with fail
        go_quiet (fail)
        go_wp2_with fail
        go_roundw
        case rel => exact ⟨k + 1, by omega, by go_num, by rw [HU2.out]; go_num, by rw [HG2.out], by rw [HT2.out], below_drewN' HBr.out _⟩
        case measure => simp [intOf]; omega
      · -- False -1
        have u1 : decide (zh < zg) = false := decide_eq_false hu
        have u2 : pUp S.2.2 S'.2.2 k = false := by simp only [pUp, HZH.out, HZG.out]; simpa using hu
        have g2 : pGone S.2.1 S'.2.1 k = true := by simp only [pGone, HZE.out, HZD.out]; simp; omega
        have t2 : pGot S.2.1 S'.2.1 k = false := by simp only [pGot, HZE.out, HZD.out]; simp; omega
        obtain ⟨d, hd'⟩ : ∃ d, zd - ze = d := ⟨_, rfl⟩
        have hds : d < 0 := by omega
        have hwd' : IntKind.i64.wrap (zd - ze) = d := by rw [hwd]; exact hd'
        clear hwd
        clear hd'
        have u3' : (selTo (pUp S.2.2 S'.2.2) (k + 1)).length = l1 := by rw [sel_no u2, HL1.out]
        have g3' : (selTo (pGone S.2.1 S'.2.1) (k + 1)).length = l2 + 1 := by rw [sel_yes g2, List.length_append, HL2.out]; rfl
        have t3' : (selTo (pGot S.2.1 S'.2.1) (k + 1)).length = l3 := by rw [sel_no t2, HLL3.out]
        have HU2 := Lib.hid u3'; have HG2 := Lib.hid g3'; have HT2 := Lib.hid t3'
        clear u2 g2 t2 u3' g3' t3' hu hs
        go_wp2_with fail
        go_quiet (fail)
        go_wp2_with fail
        go_quiet (fail)
        go_wp2_with fail
        go_quiet (fail)
        go_wp2_with fail
        go_roundw
        case rel => exact ⟨k + 1, by omega, by go_num, by rw [HU2.out], by rw [HG2.out]; go_num, by rw [HT2.out], below_drewN' HBr.out _⟩
        case measure => simp [intOf]; omega
      · -- False 1
        have u1 : decide (zh < zg) = false := decide_eq_false hu
        have u2 : pUp S.2.2 S'.2.2 k = false := by simp only [pUp, HZH.out, HZG.out]; simpa using hu
        have g2 : pGone S.2.1 S'.2.1 k = false := by simp only [pGone, HZE.out, HZD.out]; simp; omega
        have t2 : pGot S.2.1 S'.2.1 k = true := by simp only [pGot, HZE.out, HZD.out]; simp; omega
        obtain ⟨d, hd'⟩ : ∃ d, zd - ze = d := ⟨_, rfl⟩
        have hds : 0 < d := by omega
        have hwd' : IntKind.i64.wrap (zd - ze) = d := by rw [hwd]; exact hd'
        clear hwd
        have n1 : decide (d < 0) = false := decide_eq_false (by omega)
        have n2 : ¬ d < 0 := by omega
        clear hd'
        have u3' : (selTo (pUp S.2.2 S'.2.2) (k + 1)).length = l1 := by rw [sel_no u2, HL1.out]
        have g3' : (selTo (pGone S.2.1 S'.2.1) (k + 1)).length = l2 := by rw [sel_no g2, HL2.out]
        have t3' : (selTo (pGot S.2.1 S'.2.1) (k + 1)).length = l3 + 1 := by rw [sel_yes t2, List.length_append, HLL3.out]; rfl
        have HU2 := Lib.hid u3'; have HG2 := Lib.hid g3'; have HT2 := Lib.hid t3'
        clear u2 g2 t2 u3' g3' t3' hu hs
        go_wp2_with fail
        go_quiet (fail)
        go_wp2_with fail
        go_quiet (fail)
        go_wp2_with fail
        go_quiet (fail)
        go_wp2_with fail
        go_roundw
        case rel => exact ⟨k + 1, by omega, by go_num, by rw [HU2.out], by rw [HG2.out], by rw [HT2.out]; go_num, below_drewN' HBr.out _⟩
        case measure => simp [intOf]; omega
      · -- False 0
        have u1 : decide (zh < zg) = false := decide_eq_false hu
        have u2 : pUp S.2.2 S'.2.2 k = false := by simp only [pUp, HZH.out, HZG.out]; simpa using hu
        have g2 : pGone S.2.1 S'.2.1 k = false := by simp only [pGone, HZE.out, HZD.out]; simp; omega
        have t2 : pGot S.2.1 S'.2.1 k = false := by simp only [pGot, HZE.out, HZD.out]; simp; omega
        obtain ⟨d, hd'⟩ : ∃ d, zd - ze = d := ⟨_, rfl⟩
        have hds : d = 0 := by omega
        have hwd' : IntKind.i64.wrap (zd - ze) = d := by rw [hwd]; exact hd'
        clear hwd
        subst hds
        clear hd'
        have u3' : (selTo (pUp S.2.2 S'.2.2) (k + 1)).length = l1 := by rw [sel_no u2, HL1.out]
        have g3' : (selTo (pGone S.2.1 S'.2.1) (k + 1)).length = l2 := by rw [sel_no g2, HL2.out]
        have t3' : (selTo (pGot S.2.1 S'.2.1) (k + 1)).length = l3 := by rw [sel_no t2, HLL3.out]
        have HU2 := Lib.hid u3'; have HG2 := Lib.hid g3'; have HT2 := Lib.hid t3'
        clear u2 g2 t2 u3' g3' t3' hu hs
        go_wp2_with fail
        go_quiet (fail)
        go_wp2_with fail
        go_quiet (fail)
        go_wp2_with fail
        go_quiet (fail)
        go_wp2_with fail
        go_roundw
        case rel => exact ⟨k + 1, by omega, by go_num, by rw [HU2.out], by rw [HG2.out], by rw [HT2.out], below_drewN' HBr.out _⟩
        case measure => simp [intOf]; omega
    · have ekN : N = k := by omega
      subst ekN
      obtain ⟨w4, hw4⟩ : ∃ w4, w4 = wr := ⟨_, rfl⟩
      subst hw4
      have b3 := H3.out.below Br H3.out.lt
      have r0 := b3.cell 0
      simp only [List.getElem?_toArray, List.getElem?_cons_zero] at r0
      have rf := b3.frozen 0
      have rl := b3.lt
      have HB3' := Lib.hid b3
      have hres := HRES.out
      rw [HL1.out, HL2.out, HLL3.out] at hres
      have K0 : Kpz (fun k => k = g3) g3 w w4 := Kpz.all Bw (by have := HL3.out; omega)
      have HK0 := Lib.hid K0
      have HRr := Lib.hid (And.intro (HQ.out.on Bw) (HQ'.out.on Bw))
      have HIr := Lib.hid (HI.out.on Bw)
      have HCr := Lib.hid (HC.out.below Br HC.out.lt); have HWr := Lib.hid (HW.out.below Br HW.out.lt); have HPr := Lib.hid (HP.out.below Br HP.out.lt)
      clear b3 Br Bw K0 HRES
      rcases hres with ⟨rfl, h1, h2, h3⟩ | ⟨rfl, hlp⟩
      · subst h1; subst h2; subst h3
        go_wp2_with fail
        go_ret
        exact ⟨rfl, HB3'.out.set 0 _, HK0.out.kps.trans (Kps.setCell fun _ _ hp => hp rfl), HK0.out.bel.setCell (Nat.le_refl _) _⟩
      · unfold LiftB PushB at hlp
        rw [HL1.out, HL2.out, HLL3.out] at hlp
        rcases hlp with ⟨h1, h2, h3, h4⟩ | ⟨h1, h2, h3, h4, h5⟩
        · subst h1; subst h2; subst h3
          have hlg := longs_is (n := M) (m := M) cY cX HRr.out.2.iX HRr.out.1.iX (by omega) (by omega) (v := true) (by simpa using h4)
          have HLG := Lib.hid hlg
          clear hlg h4
          go_wp2_with fail
          refine HLG.out.mono ?_
          rintro e w5 ⟨rfl, B5⟩
          go_wp2_with fail
          go_ret
          exact ⟨rfl, HB3'.out.below B5 HB3'.out.lt, HK0.out.trans (Kpz.all B5 (by omega))⟩
        · subst h1; subst h2; subst h3
          have H4 := Lib.hid h4; have H5 := Lib.hid h5
          clear h4 h5
          go_wp2_with fail
          go_loopw [13, 14, 15, 16, 17, 107] (fun q13 q14 _ _ _ i wr => ∃ j : Nat, j ≤ M ∧ i = .int .i64 j ∧ q13 = .int .i64 ((selTo (pCh S.1 S'.1) j).length : Int) ∧ q14 = .bool (usedTo hd rv S.1 S'.1 S'.2.1 j) ∧ Below w4.heap.size w4 wr) (fun _ _ _ _ _ i _ => M - (intOf i).toNat)
          case atStart => exact ⟨0, Nat.zero_le _, rfl, rfl, rfl, Below.refl _ _⟩
          case round =>
            clear a0 a1 a2 a3 a4 a5 a6 a7 a8 p0 p1 p2 m0 m1 m2 hz1 hz2 hz3 r0 rf rl
            obtain ⟨j, hj, rfl, rfl, rfl, Bx⟩ := hrel
            have HBx := Lib.hid Bx
            obtain ⟨lc, hlc⟩ : ∃ n, (selTo (pCh S.1 S'.1) j).length = n := ⟨_, rfl⟩
            obtain ⟨ub, hub⟩ : ∃ b, usedTo hd rv S.1 S'.1 S'.2.1 j = b := ⟨_, rfl⟩
            have hlec := sel_len (pCh S.1 S'.1) j
            have HLC := Lib.hid hlc; have HUB := Lib.hid hub
            rw [hlc] at hlec ⊢; rw [hub]
            clear hlc hub
            have cc := HCr.out.below Bx HCr.out.lt; have cw := HWr.out.below Bx HWr.out.lt; have cq := HPr.out.below Bx HPr.out.lt
            obtain ⟨a0, a1, a2, a3, a4, a5, a6, a7, a8⟩ := cc.at9
            obtain ⟨⟨p0, p1, p2⟩, -, hz2⟩ := cw.full3
            obtain ⟨⟨m0, m1, m2⟩, -, hz3⟩ := cq.full3
            have hz1 := cc.lt
            clear cc cw cq
            by_cases hjt : j < M
            · have R := HRr.out.1.below Bx; have R' := HRr.out.2.below Bx
              obtain ⟨bX, oX, hX⟩ := R.iX.adr (by omega)
              obtain ⟨bY, oY, hY⟩ := R'.iX.adr (by omega)
              dsimp only at hX hY
              subst hX; subst hY
              obtain ⟨hbX, cx⟩ := R.iX.cel (hOf_get R.iX.len hjt)
              obtain ⟨hbY, cy⟩ := R'.iX.cel (hOf_get R'.iX.len hjt)
              have huN := HG.out.mN hjt
              obtain ⟨hbD, cu⟩ := R'.iE.cel (hOf_get R'.iE.len huN)
              have htl := fun W (hb : Below w4.heap.size w4 W) => tail2_yes N M s t j ⟨AF, cF, AH, cH, AR, cR, AC, cC, AA, cA, AB, cB⟩ fst hd rv W HG.out.g (HIr.out.gi.on hb) hjt
              dsimp only [csrW] at htl
              have e0 : usedTo hd rv S.1 S'.1 S'.2.1 (j + 1) = if hOf S'.1 j < hOf S.1 j then Used hd rv S'.1 S'.2.1 j else ub := by simp only [usedTo, HUB.out]
              unfold Used at e0
              obtain ⟨u, hu⟩ : ∃ u, hd (rv j) = u := ⟨_, rfl⟩
              simp only [hu] at htl cu huN e0
              obtain ⟨zx, hzx⟩ : ∃ z, hOf S.1 j = z := ⟨_, rfl⟩
              obtain ⟨zy, hzy⟩ : ∃ z, hOf S'.1 j = z := ⟨_, rfl⟩
              obtain ⟨zu, hzu⟩ : ∃ z, hOf S'.2.1 u = z := ⟨_, rfl⟩
              have hpc : pCh S.1 S'.1 j = !decide (zy = zx) := by simp only [pCh, hzx, hzy]
              rw [hzx] at cx e0; rw [hzy] at cy e0; rw [hzu] at cu e0
              have HTL := Lib.hid htl; have HPC := Lib.hid hpc; have HE0 := Lib.hid e0; have HZY := Lib.hid hzy; have HZU := Lib.hid hzu
              have hbx := Bx.size
              have k1 : bX < wr.heap.size := by omega
              have k2 : bY < wr.heap.size := by omega
              have k3 : bD < wr.heap.size := by omega
              clear hzx hzy hzu hu htl hpc e0 R R' Bx
              have hcase : zy = zx ∨ (¬ zy = zx ∧ ¬ zy < zx) ∨ (¬ zy = zx ∧ zy < zx) := by omega
              rcases hcase with hx | ⟨hx, hx2⟩ | ⟨hx, hx2⟩
              · have n1 : (selTo (pCh S.1 S'.1) (j + 1)).length = lc := by rw [sel_no (by rw [HPC.out]; simpa using hx), HLC.out]
                have n2 : usedTo hd rv S.1 S'.1 S'.2.1 (j + 1) = ub := by rw [HE0.out, if_neg (by omega)]
                have N1 := Lib.hid n1; have N2 := Lib.hid n2
                clear n1 n2
                subst hx
                go_wp2_with fail
                go_quiet (fail)
                go_wp2_with fail
                refine ⟨?_, ?measure⟩
                · repeat apply Exists.intro
                  refine ⟨?rel, ?eq⟩
                  case eq => rfl
                  case rel => exact ⟨j + 1, by omega, by go_num, by rw [N1.out], by rw [N2.out], below_drewN' HBx.out _⟩
                case measure => simp [intOf]; omega
              · have n1 : (selTo (pCh S.1 S'.1) (j + 1)).length = lc + 1 := by rw [sel_yes (by rw [HPC.out]; simpa using hx), List.length_append, HLC.out]; rfl
                have n2 : usedTo hd rv S.1 S'.1 S'.2.1 (j + 1) = ub := by rw [HE0.out, if_neg hx2]
                have N1 := Lib.hid n1; have N2 := Lib.hid n2
                have d1 : (zy == zx) = false := by simpa using hx
                have d2 : decide (zy = zx) = false := decide_eq_false hx
                have d3 : decide (zy < zx) = false := decide_eq_false hx2
                clear n1 n2
                go_wp2_with fail
                go_quiet (fail)
                go_wp2_with fail
                go_quiet (fail)
                go_wp2_with fail
                refine ⟨?_, ?measure⟩
                · repeat apply Exists.intro
                  refine ⟨?rel, ?eq⟩
                  case eq => rfl
                  case rel => exact ⟨j + 1, by omega, by go_num, by rw [N1.out]; go_num, by rw [N2.out], below_drewN' HBx.out _⟩
                case measure => simp [intOf]; omega
              · have n1 : (selTo (pCh S.1 S'.1) (j + 1)).length = lc + 1 := by rw [sel_yes (by rw [HPC.out]; simpa using hx), List.length_append, HLC.out]; rfl
                have n2 : usedTo hd rv S.1 S'.1 S'.2.1 (j + 1) = (decide (zy = 0) || decide (zu = 0)) := by rw [HE0.out, if_pos hx2]
                have N1 := Lib.hid n1; have N2 := Lib.hid n2
                have d1 : (zy == zx) = false := by simpa using hx
                have d2 : decide (zy = zx) = false := decide_eq_false hx
                clear n1 n2
                go_wp2_with fail
                go_quiet (fail)
                go_wp2_with fail
                go_quiet (fail)
                go_wp2_with fail
                refine (HTL.out _ (below_drewN' HBx.out _)).mono ?_
                rintro e w7 ⟨rfl, B7⟩
                have BB := below_step (below_drewN' HBx.out _) B7
                clear a0 a1 a2 a3 a4 a5 a6 a7 a8 p0 p1 p2 m0 m1 m2 hz1 hz2 hz3 cx cy cu k1 k2 k3 hbX hbY hbD hbx B7
                have cq := HPr.out.below BB HPr.out.lt
                have R' := HRr.out.2.below BB
                obtain ⟨⟨m0, m1, m2⟩, -, hz3⟩ := cq.full3
                obtain ⟨hbY, cy⟩ := R'.iX.cel (hOf_get R'.iX.len hjt)
                obtain ⟨hbD, cu⟩ := R'.iE.cel (hOf_get R'.iE.len huN)
                rw [HZY.out] at cy; rw [HZU.out] at cu
                have hbx := BB.size
                have k2 : bY < w7.heap.size := by omega
                have k3 : bD < w7.heap.size := by omega
                have HBB := Lib.hid BB
                clear cq R' BB
                have n2' := N2.out
                clear N2 d1 d2 hx hx2
                have hcase : zy = 0 ∨ (¬ zy = 0 ∧ zu = 0) ∨ (¬ zy = 0 ∧ ¬ zu = 0) := by omega
                rcases hcase with rfl | ⟨hy, rfl⟩ | ⟨hy, hz⟩
                · have n3 : usedTo hd rv S.1 S'.1 S'.2.1 (j + 1) = true := by simpa using n2'
                  have N3 := Lib.hid n3
                  clear n3 n2'
                  go_wp2_with fail
                  refine ⟨?_, ?measure⟩
                  · repeat apply Exists.intro
                    refine ⟨?rel, ?eq⟩
                    case eq => rfl
                    case rel => exact ⟨j + 1, by omega, by go_num, by rw [N1.out]; go_num, by rw [N3.out], HBB.out⟩
                  case measure => simp [intOf]; omega
                · have n3 : usedTo hd rv S.1 S'.1 S'.2.1 (j + 1) = true := by simpa [hy] using n2'
                  have N3 := Lib.hid n3
                  have d3 : (zy == 0) = false := by simpa using hy
                  have d4 : decide (zy = 0) = false := decide_eq_false hy
                  clear n3 n2'
                  go_wp2_with fail
                  refine ⟨?_, ?measure⟩
                  · repeat apply Exists.intro
                    refine ⟨?rel, ?eq⟩
                    case eq => rfl
                    case rel => exact ⟨j + 1, by omega, by go_num, by rw [N1.out]; go_num, by rw [N3.out], HBB.out⟩
                  case measure => simp [intOf]; omega
                · have n3 : usedTo hd rv S.1 S'.1 S'.2.1 (j + 1) = false := by simpa [hy, hz] using n2'
                  have N3 := Lib.hid n3
                  have d3 : (zy == 0) = false := by simpa using hy
                  have d4 : decide (zy = 0) = false := decide_eq_false hy
                  have d5 : (zu == 0) = false := by simpa using hz
                  have d6 : decide (zu = 0) = false := decide_eq_false hz
                  clear n3 n2'
                  go_wp2_with fail
                  refine ⟨?_, ?measure⟩
                  · repeat apply Exists.intro
                    refine ⟨?rel, ?eq⟩
                    case eq => rfl
                    case rel => exact ⟨j + 1, by omega, by go_num, by rw [N1.out]; go_num, by rw [N3.out], HBB.out⟩
                  case measure => simp [intOf]; omega
            · have ejM : M = j := by omega
              subst ejM
              have hc4 := H4.out; have hc5 := H5.out
              rw [HLC.out] at hc4
              rw [HUB.out] at hc5
              subst hc4; subst hc5
              go_wp2_with fail
              go_ret
              exact ⟨rfl, HB3'.out.below HBx.out HB3'.out.lt, HK0.out.trans (Kpz.all HBx.out (by have := HB3'.out.lt; omega))⟩

end Go.Proofs.Ytgjokddcaadjdaa
