/- Layer 9: Move, and where what it answers lies. Layer 9: the document's own Move. Layer 9: the document's own Run. -/
import Derived.Test.YtanifbofjecpmaaRle
import Derived.BigQuiet
import Derived.StillTailTactics
import Derived.Test.YtanifbofjecpmaaTleg
import Derived.Test.YtanifbofjecpmaaTpc
import Derived.Test.YtanifbofjecpmaaRru
import Derived.Test.YtanifbofjecpmaaRsb
/-! Rlg -/
namespace Go.Proofs.Ytanifbofjecpmaa
open Go.RowKit Go.Shelf
set_option maxRecDepth 100000

/-- The rows of a state lie above. -/
structure PreOff (b : Nat) (Q : PreS) : Prop where
  aX : Abv b Q.AX
  aE : Abv b Q.AE
  aH : Abv b Q.AH
theorem Hx.offP {w0 w : World} {base nX nE nH : Nat} {Q : PreS} {X E H : List Int} (h : Hx w0 w base (pstR nX nE nH Q X E H)) : PreOff base Q :=
  ⟨h.held.abv (i := 0) rfl, h.held.abv (i := 1) rfl, h.held.abv (i := 2) rfl⟩
/-- The call returned the state behind a move, or the state itself, and what is wrong; what is new lies above. -/
def RetMoveX (N M s t : Nat) (fst hd rv : Nat → Nat) (Q0 : PreS) (X E H : List Int) (ev : EvS) (w : World) (e : Ending) (w' : World) : Prop :=
  ∃ Q, e = .returned (.tuple #[preW M N N Q, .int .i64 (legI N s t fst X E H ev)]) ∧ Below w.heap.size w w' ∧ StIn w' w'.heap.size M N N Q (nxX N s t fst rv X E H ev) (nxE N s t fst hd rv X E H ev) (nxH N s t fst X E H ev) ∧ (Q = Q0 ∨ PreOff w.heap.size Q)

set_option maxHeartbeats 4000000 in
theorem rmoveX_is (N M s t : Nat) (K : CsrS) (Q : PreS) (fst hd rv ai : Nat → Nat) (cp : Nat → Int) (bk : Nat → Bool) (X E H : List Int) (ev : EvS) (w : World) (hG : PNet N M s t fst hd rv ai cp bk) (hI : GridIn w w.heap.size N M K fst hd rv) (hQ : StIn w w.heap.size M N N Q X E H) (hS : SndIs N M s t hd rv cp X E H) :
    Calls Try.prog 13 #[csrW N M s t K, preW M N N Q, evW ev] w (RetMoveX N M s t fst hd rv Q X E H ev w) := by
  have hN := hG.nN; have hM := hG.nM
  have hlg := fun W (hb : Below w.heap.size w W) => rlegal_is N M s t K Q fst hd rv X E H ev W hG.g (hI.on hb) (hQ.on hb) hN
  have HLG := Lib.hid hlg
  have htw := fun W (hb : Below w.heap.size w W) => twin_is M N N Q X E H W (hQ.on hb) (by omega) (by omega) (by omega)
  have HT := Lib.hid htw
  have hat := fun (Q2 : PreS) W => at_is N M s t K M N N Q2 W
  have HA := Lib.hid hat
  have hap := fun g b base Q2 w0 W (hl : legI N s t fst X E H ev = 0) hIb hMc hx => apply_is g b N M s t base K Q2 fst hd rv ai cp bk X E H ev w0 W hG hIb hMc hx hS hl
  have HAP := Lib.hid hap
  have hno : legI N s t fst X E H ev ≠ 0 → ∀ W, Below w.heap.size w W → StIn W W.heap.size M N N Q (nxX N s t fst rv X E H ev) (nxE N s t fst hd rv X E H ev) (nxH N s t fst X E H ev) := fun h W hb => by
    unfold nxX nxE nxH
    rw [if_neg h, if_neg h, if_neg h]
    exact hQ.on hb
  have HNO := Lib.hid hno
  have hyes : legI N s t fst X E H ev = 0 → nxX N s t fst rv X E H ev = movX rv X ev ∧ nxE N s t fst hd rv X E H ev = movE hd rv E ev ∧ nxH N s t fst X E H ev = movH H ev := fun h => by
    unfold nxX nxE nxH
    rw [if_pos h, if_pos h, if_pos h]
    exact ⟨rfl, rfl, rfl⟩
  have HYES := Lib.hid hyes
  have hlen : legI N s t fst X E H ev = 0 → (movX rv X ev).length = M ∧ (movE hd rv E ev).length = N ∧ (movH H ev).length = N := fun h => by
    have := hS.move hG h
    exact ⟨this.bal.1, this.le, this.lh⟩
  have HLEN := Lib.hid hlen
  have HI := Lib.hid hI
  unfold RetMoveX
  obtain ⟨r, hr⟩ : ∃ r, legI N s t fst X E H ev = r := ⟨_, rfl⟩
  rw [hr] at HLG HAP HNO HYES HLEN ⊢
  clear hr hG hI hQ hS hlg htw hat hap hno hyes hlen hM hN
  obtain ⟨nX, hnX⟩ : ∃ nX, nxX N s t fst rv X E H ev = nX := ⟨_, rfl⟩
  obtain ⟨nE, hnE⟩ : ∃ nE, nxE N s t fst hd rv X E H ev = nE := ⟨_, rfl⟩
  obtain ⟨nH, hnH⟩ : ∃ nH, nxH N s t fst X E H ev = nH := ⟨_, rfl⟩
  rw [hnX, hnE, hnH] at HNO HYES
  simp only [hnX, hnE, hnH]
  clear hnX hnE hnH
  obtain ⟨AF, cF, AH, cH, AR, cR, AC, cC, AA, cA, AB, cB⟩ := K
  obtain ⟨AX, cX, AE, cE, AHH, cHH⟩ := Q
  obtain ⟨who, what, eu, arc, d0, h0, low⟩ := ev
  dsimp only [evW, csrW, preW] at HLG HT HA HAP HNO ⊢
  go_enter Try.func13, Try.ntmps13
  go_wp2_with fail
  obtain ⟨w1, hw1⟩ : ∃ w1, ((((w.alloc (.cells #[.int .i64 (N : Int), .int .i64 (s : Int), .int .i64 (t : Int), .slice AF (N + 1) cF, .slice AH M cH, .slice AR M cR, .slice AC M cC, .slice AA M cA, .slice AB M cB] 32)).alloc (.cells #[.slice AX M cX, .slice AE N cE, .slice AHH N cHH] 29)).alloc (.cells #[.int .i64 who, .int .u8 what, .int .i64 eu, .int .i64 arc, .int .i64 d0, .int .i64 h0, .int .i64 low] 39)).alloc (.cells #[.slice none 0 0, .slice none 0 0, .slice none 0 0] 29)) = w1 := ⟨_, rfl⟩
  have B1 : Below w.heap.size w w1 := by rw [← hw1]; exact ((((Below.refl _ w).alloc (Nat.le_refl _) _).alloc (by simp) _).alloc (by simp; omega) _).alloc (by simp; omega) _
  have C1 : Blk w1 w.heap.size 32 #[.int .i64 (N : Int), .int .i64 (s : Int), .int .i64 (t : Int), .slice AF (N + 1) cF, .slice AH M cH, .slice AR M cR, .slice AC M cC, .slice AA M cA, .slice AB M cB] := by rw [← hw1]; exact (((Blk.new rfl).alloc _).alloc _).alloc _
  have P1 : Blk w1 (w.heap.size + 1) 29 #[.slice AX M cX, .slice AE N cE, .slice AHH N cHH] := by rw [← hw1]; exact ((Blk.new (by simp)).alloc _).alloc _
  have E1 : Blk w1 (w.heap.size + 1 + 1) 39 #[.int .i64 who, .int .u8 what, .int .i64 eu, .int .i64 arc, .int .i64 d0, .int .i64 h0, .int .i64 low] := by rw [← hw1]; exact (Blk.new (by simp)).alloc _
  have R1 : Blk w1 (w.heap.size + 1 + 1 + 1) 29 #[.slice none 0 0, .slice none 0 0, .slice none 0 0] := by rw [← hw1]; exact Blk.new (by simp)
  rw [hw1]
  clear hw1
  refine (HLG.out _ B1).mono ?_
  rintro e w2 ⟨rfl, B2⟩
  have C2 := C1.below B2 C1.lt; have P2 := P1.below B2 P1.lt; have E2 := E1.below B2 E1.lt; have R2 := R1.below B2 R1.lt
  have B2' := below_step B1 B2
  clear C1 P1 E1 R1 B1 B2 HLG
  have hkeep : ∀ W', Below w2.heap.size w2 W' → Below w2.heap.size w2 W' ∧ W'.cell? ⟨w.heap.size, 0, none⟩ = some (.int .i64 (N : Int)) ∧ W'.cell? ⟨w.heap.size, 1, none⟩ = some (.int .i64 (s : Int)) ∧ W'.cell? ⟨w.heap.size, 2, none⟩ = some (.int .i64 (t : Int)) ∧ W'.cell? ⟨w.heap.size, 3, none⟩ = some (.slice AF (N + 1) cF) ∧ W'.cell? ⟨w.heap.size, 4, none⟩ = some (.slice AH M cH) ∧ W'.cell? ⟨w.heap.size, 5, none⟩ = some (.slice AR M cR) ∧ W'.cell? ⟨w.heap.size, 6, none⟩ = some (.slice AC M cC) ∧ W'.cell? ⟨w.heap.size, 7, none⟩ = some (.slice AA M cA) ∧ W'.cell? ⟨w.heap.size, 8, none⟩ = some (.slice AB M cB) ∧ W'.cell? ⟨w.heap.size + 1, 0, none⟩ = some (.slice AX M cX) ∧ W'.cell? ⟨w.heap.size + 1, 1, none⟩ = some (.slice AE N cE) ∧ W'.cell? ⟨w.heap.size + 1, 2, none⟩ = some (.slice AHH N cHH) := fun W' hb => by
    obtain ⟨a0, a1, a2, a3, a4, a5, a6, a7, a8⟩ := (C2.below hb C2.lt).at9
    obtain ⟨⟨p0, p1, p2⟩, -, -⟩ := (P2.below hb P2.lt).full3
    exact ⟨hb, a0, a1, a2, a3, a4, a5, a6, a7, a8, p0, p1, p2⟩
  have HKEEP := Lib.hid hkeep
  have HB2 := Lib.hid B2'
  obtain ⟨-, a0, a1, a2, a3, a4, a5, a6, a7, a8, p0, p1, p2⟩ := hkeep _ (Below.refl _ _)
  obtain ⟨⟨q0, q1, q2⟩, ⟨f0, f1, f2⟩, hz⟩ := R2.full3
  have HE2 := Lib.hid E2; have HR2 := Lib.hid R2
  clear hkeep C2 P2 E2 R2 B2'
  by_cases hr0 : r = 0
  · subst hr0
    have HYS := Lib.hid (HYES.out rfl)
    have HLN := Lib.hid (HLEN.out rfl)
    clear HNO HYES HLEN
    go_wp2_with fail
    clear q0 q1 q2 f0 f1 f2 a0 a1 a2 a3 a4 a5 a6 a7 a8 p0 p1 p2
    refine wp_region_held_drew (S := fun W' => Below w2.heap.size w2 W' ∧ W'.cell? ⟨w.heap.size, 0, none⟩ = some (.int .i64 (N : Int)) ∧ W'.cell? ⟨w.heap.size, 1, none⟩ = some (.int .i64 (s : Int)) ∧ W'.cell? ⟨w.heap.size, 2, none⟩ = some (.int .i64 (t : Int)) ∧ W'.cell? ⟨w.heap.size, 3, none⟩ = some (.slice AF (N + 1) cF) ∧ W'.cell? ⟨w.heap.size, 4, none⟩ = some (.slice AH M cH) ∧ W'.cell? ⟨w.heap.size, 5, none⟩ = some (.slice AR M cR) ∧ W'.cell? ⟨w.heap.size, 6, none⟩ = some (.slice AC M cC) ∧ W'.cell? ⟨w.heap.size, 7, none⟩ = some (.slice AA M cA) ∧ W'.cell? ⟨w.heap.size, 8, none⟩ = some (.slice AB M cB) ∧ W'.cell? ⟨w.heap.size + 1, 0, none⟩ = some (.slice AX M cX) ∧ W'.cell? ⟨w.heap.size + 1, 1, none⟩ = some (.slice AE N cE) ∧ W'.cell? ⟨w.heap.size + 1, 2, none⟩ = some (.slice AHH N cHH)) (by kernel_rfl) (HKEEP.out _ (Below.refl _ _).drew) (fun hS0 => ?_)
    refine tk (v := ?_) 0 18 rfl ?_ ?_
    rotate_left
    · (intro W hSw; obtain ⟨-, a0, a1, a2, a3, a4, a5, a6, a7, a8, p0, p1, p2⟩ := hSw; go_simp; try with_reducible rfl)
    simp only [Act.put, pa, pz, ps]
    refine tk (v := ?_) 1 19 rfl ?_ ?_
    rotate_left
    · (intro W hSw; obtain ⟨-, a0, a1, a2, a3, a4, a5, a6, a7, a8, p0, p1, p2⟩ := hSw; go_simp; try with_reducible rfl)
    simp only [Act.put, pa, pz, ps]
    refine wpAnyH_ready (rs := [2]) (by kernel_rfl) (by simp) ?_
    refine AllReadyH.cons rfl (fun K hK => ?_) AllReadyH.nil
    go_simp
    first
      | (go_at_call 37; ((with_reducible refine (HT.out _ (below_step HB2.out hS0.1)).mono ?_); rintro e W8 ⟨Q2, rfl, hR8⟩; have B8 := hR8.bel); refine hK.out _ _ (HKEEP.out _ (below_step hS0.1 B8)) (fun hS3 => ?_))
    clear hK K
    try simp only [Act.put, pa, pz, ps]
    refine wpAnyH_ready (rs := [3]) (by kernel_rfl) (by simp) ?_
    refine AllReadyH.cons rfl (fun K hK => ?_) AllReadyH.nil
    go_simp
    first
      | (go_at_call 36; ((with_reducible refine (HA.out _ _).mono ?_); rintro e W9 ⟨g, b, rfl, hMc, hg, hbb, B9⟩); refine hK.out _ _ (HKEEP.out _ (below_step hS3.1 B9)) (fun hS4 => ?_))
    clear hK K
    try simp only [Act.put, pa, pz, ps]
    refine tk (v := ?_) 4 9 rfl ?_ ?_
    rotate_left
    · (intro W hSw; obtain ⟨-, a0, a1, a2, a3, a4, a5, a6, a7, a8, p0, p1, p2⟩ := hSw; go_simp; try with_reducible rfl)
    simp only [Act.put, pa, pz, ps]
    refine wpAnyH_done (by kernel_rfl) ?_ _
    have hX9 := (hR8.on B9).low (base' := w2.heap.size) (w1 := w2) (Nat.le_refl _) (below_drewN' (Below.refl _ _) 1)
    have I9 := (HI.out.below (below_step HB2.out hS4.1)).more (y := w2.heap.size) HB2.out.size
    have E9 := HE2.out.below hS4.1 HE2.out.lt
    have HX9 := Lib.hid hX9; have HI9 := Lib.hid I9; have HM9 := Lib.hid hMc
    obtain ⟨e0, e1, e2, e3, e4, e5, e6⟩ := E9.at7
    clear hS0 hS3 hS4 hR8 B8 B9 hg hbb hX9 I9 hMc E9
    go_wp2_with fail
    refine (HAP.out g b w2.heap.size Q2 w2 _ trivial HI9.out HM9.out HX9.out).mono ?_
    rintro e W10 ⟨⟨v, rfl⟩, M10, X10, hz10⟩
    have R10 := HR2.out.below X10.bel HR2.out.lt
    obtain ⟨⟨q0, q1, q2⟩, ⟨f0, f1, f2⟩, hz11⟩ := R10.full3
    obtain ⟨m0, m1, m2, m3, m4, m5, m6, m7, m8, m9, m10, m11, m12⟩ := M10.box.at13
    have hzg := M10.box.lt
    have HX10 := Lib.hid X10; have HR10 := Lib.hid R10
    clear X10 M10 R10 e0 e1 e2 e3 e4 e5 e6 hz10
    obtain ⟨AX2, cX2, AE2, cE2, AH2, cH2⟩ := Q2
    dsimp only at m9 m10 m11
    go_wp2_with fail
    have HXW := (HX10.out.low (base' := w.heap.size) (w1 := w) HB2.out.size HB2.out).put3 (x := .slice AX2 M cX2) (y := .slice AE2 N cE2) (z := .slice AH2 N cH2) HR10.out pst_ne (by omega)
    have R11 := HR10.out.put3 (x := .slice AX2 M cX2) (y := .slice AE2 N cE2) (z := .slice AH2 N cH2)
    obtain ⟨⟨k0, k1, k2⟩, -, -⟩ := R11.full3
    refine bodyPost_ret (v := .tuple #[.agg #[.slice AX2 M cX2, .slice AE2 N cE2, .slice AH2 N cH2], .int .i64 0]) (by simp [results, Try.results13, go_sem, k0, k1, k2]) rfl ⟨⟨AX2, cX2, AE2, cE2, AH2, cH2⟩, rfl, HXW.bel, ?_, .inr HXW.offP⟩
    have hst := HXW.st HLN.out.1 HLN.out.2.1 HLN.out.2.2
    rw [HYS.out.1, HYS.out.2.1, HYS.out.2.2]
    exact hst
  · have hr1 : (r != 0) = true := by simpa using hr0
    have HSQ := Lib.hid (HNO.out hr0)
    clear HNO HYES HLEN hr0
    go_wp2_with fail
    have R11 := HR2.out.put3 (x := .slice AX M cX) (y := .slice AE N cE) (z := .slice AHH N cHH)
    obtain ⟨⟨k0, k1, k2⟩, -, -⟩ := R11.full3
    have BW := below_put3 (g := w.heap.size + 1 + 1 + 1) (x := .slice AX M cX) (y := .slice AE N cE) (z := .slice AHH N cHH) HB2.out (by omega)
    refine bodyPost_ret (v := .tuple #[.agg #[.slice AX M cX, .slice AE N cE, .slice AHH N cHH], .int .i64 r]) (by simp [results, Try.results13, go_sem, k0, k1, k2]) rfl ⟨⟨AX, cX, AE, cE, AHH, cHH⟩, rfl, BW, HSQ.out _ BW, .inl rfl⟩
end Go.Proofs.Ytanifbofjecpmaa

/-! Tmov -/
namespace Go.Proofs.Ytanifbofjecpmaa
open Go.RowKit Go.Shelf
set_option maxRecDepth 100000

set_option maxHeartbeats 16000000 in
theorem tmoveX_is (N M s t : Nat) (K : CsrS) (Q : PreS) (fst hd rv ai : Nat → Nat) (cp : Nat → Int) (bk : Nat → Bool) (X E H : List Int) (ev : EvS) (w : World) (hG : PNet N M s t fst hd rv ai cp bk) (hI : GridIn w w.heap.size N M K fst hd rv) (hQ : StIn w w.heap.size M N N Q X E H) (hS : SndIs N M s t hd rv cp X E H) :
    Calls Try.prog 14 #[csrW N M s t K, preW M N N Q, evW ev] w (RetMoveX N M s t fst hd rv Q X E H ev w) := by
  have hN := hG.nN; have hM := hG.nM
  have hlg := fun W (hb : Below w.heap.size w W) => tlegal_is N M s t K Q fst hd rv X E H ev W hG.g (hI.on hb) (hQ.on hb) hN
  have HLG := Lib.hid hlg
  have hno : legI N s t fst X E H ev ≠ 0 → ∀ W, Below w.heap.size w W → StIn W W.heap.size M N N Q (nxX N s t fst rv X E H ev) (nxE N s t fst hd rv X E H ev) (nxH N s t fst X E H ev) := fun h W hb => by
    unfold nxX nxE nxH
    rw [if_neg h, if_neg h, if_neg h]
    exact hQ.on hb
  have HNO := Lib.hid hno
  have hyes : legI N s t fst X E H ev = 0 → nxX N s t fst rv X E H ev = movX rv X ev ∧ nxE N s t fst hd rv X E H ev = movE hd rv E ev ∧ nxH N s t fst X E H ev = movH H ev := fun h => by
    unfold nxX nxE nxH
    rw [if_pos h, if_pos h, if_pos h]
    exact ⟨rfl, rfl, rfl⟩
  have HYES := Lib.hid hyes
  have hlen : legI N s t fst X E H ev = 0 → (movX rv X ev).length = M ∧ (movE hd rv E ev).length = N ∧ (movH H ev).length = N := fun h => by
    have := hS.move hG h
    exact ⟨this.bal.1, this.le, this.lh⟩
  have HLEN := Lib.hid hlen
  have HI := Lib.hid hI
  unfold RetMoveX
  obtain ⟨r, hr⟩ : ∃ r, legI N s t fst X E H ev = r := ⟨_, rfl⟩
  rw [hr] at HLG HNO HYES HLEN ⊢
  have HLI := Lib.hid hr; have HG := Lib.hid hG; have HS := Lib.hid hS; have HQ := Lib.hid hQ
  have hs0 := hS.bal.1; have hs1 := hS.le; have hs2 := hS.lh
  have HLS := Lib.hid (And.intro hs0 (And.intro hs1 hs2))
  clear hr hG hI hQ hS hlg hno hyes hlen hs0 hs1 hs2
  obtain ⟨nX, hnX⟩ : ∃ nX, nxX N s t fst rv X E H ev = nX := ⟨_, rfl⟩
  obtain ⟨nE, hnE⟩ : ∃ nE, nxE N s t fst hd rv X E H ev = nE := ⟨_, rfl⟩
  obtain ⟨nH, hnH⟩ : ∃ nH, nxH N s t fst X E H ev = nH := ⟨_, rfl⟩
  rw [hnX, hnE, hnH] at HNO HYES
  simp only [hnX, hnE, hnH]
  clear hnX hnE hnH
  obtain ⟨AF, cF, AH, cH, AR, cR, AC, cC, AA, cA, AB, cB⟩ := K
  obtain ⟨AX, cX, AE, cE, AHH, cHH⟩ := Q
  obtain ⟨who, what, eu, arc, d0, h0, low⟩ := ev
  dsimp only [evW, csrW, preW] at HLG HNO ⊢
  go_enter Try.func14, Try.ntmps14
  go_wp2_with fail
  obtain ⟨w1, hw1⟩ : ∃ w1, ((((w.alloc (.cells #[.int .i64 (N : Int), .int .i64 (s : Int), .int .i64 (t : Int), .slice AF (N + 1) cF, .slice AH M cH, .slice AR M cR, .slice AC M cC, .slice AA M cA, .slice AB M cB] 32)).alloc (.cells #[.slice AX M cX, .slice AE N cE, .slice AHH N cHH] 29)).alloc (.cells #[.int .i64 who, .int .u8 what, .int .i64 eu, .int .i64 arc, .int .i64 d0, .int .i64 h0, .int .i64 low] 39)).alloc (.cells #[.slice none 0 0, .slice none 0 0, .slice none 0 0] 29)) = w1 := ⟨_, rfl⟩
  have B1 : Below w.heap.size w w1 := by rw [← hw1]; exact ((((Below.refl _ w).alloc (Nat.le_refl _) _).alloc (by simp) _).alloc (by simp; omega) _).alloc (by simp; omega) _
  have C1 : Blk w1 w.heap.size 32 #[.int .i64 (N : Int), .int .i64 (s : Int), .int .i64 (t : Int), .slice AF (N + 1) cF, .slice AH M cH, .slice AR M cR, .slice AC M cC, .slice AA M cA, .slice AB M cB] := by rw [← hw1]; exact (((Blk.new rfl).alloc _).alloc _).alloc _
  have P1 : Blk w1 (w.heap.size + 1) 29 #[.slice AX M cX, .slice AE N cE, .slice AHH N cHH] := by rw [← hw1]; exact ((Blk.new (by simp)).alloc _).alloc _
  have E1 : Blk w1 (w.heap.size + 1 + 1) 39 #[.int .i64 who, .int .u8 what, .int .i64 eu, .int .i64 arc, .int .i64 d0, .int .i64 h0, .int .i64 low] := by rw [← hw1]; exact (Blk.new (by simp)).alloc _
  have R1 : Blk w1 (w.heap.size + 1 + 1 + 1) 29 #[.slice none 0 0, .slice none 0 0, .slice none 0 0] := by rw [← hw1]; exact Blk.new (by simp)
  rw [hw1]
  clear hw1
  refine (HLG.out _ B1).mono ?_
  rintro e w2 ⟨rfl, B2⟩
  have C2 := C1.below B2 C1.lt; have P2 := P1.below B2 P1.lt; have E2 := E1.below B2 E1.lt; have R2 := R1.below B2 R1.lt
  have B2' := below_step B1 B2
  clear C1 P1 E1 R1 B1 B2 HLG
  obtain ⟨e0, e1, e2, e3, e4, e5, e6⟩ := E2.at7
  obtain ⟨⟨p0, p1, p2⟩, -, zp⟩ := P2.full3
  obtain ⟨⟨q0, q1, q2⟩, ⟨f0, f1, f2⟩, hz⟩ := R2.full3
  have ze := E2.lt
  have HC2 := Lib.hid C2; have HP2 := Lib.hid P2; have HE2 := Lib.hid E2; have HR2 := Lib.hid R2; have HB2 := Lib.hid B2'
  clear C2 P2 E2 R2 B2'
  by_cases hr0 : r = 0
  · skip
    subst hr0
    have HYS := Lib.hid (HYES.out rfl)
    have HLN := Lib.hid (HLEN.out rfl)
    clear HNO HYES HLEN q0 q1 q2 f0 f1 f2 p0 p1 p2 zp ze hz e0 e1 e2 e3 e4 e5 e6
    go_upto_region 4 with fail
    have hqs := HQ.out.on HB2.out
    try dsimp only at hqs
    have hi0 := fun W (hb : Below w2.heap.size w2 W) => ints_src hqs.iX hb
    have hi1 := fun W (hb : Below w2.heap.size w2 W) => ints_src hqs.iE hb
    have hi2 := fun W (hb : Below w2.heap.size w2 W) => ints_src hqs.iH hb
    have HI0 := Lib.hid hi0; have HI1 := Lib.hid hi1; have HI2 := Lib.hid hi2
    have HL0 := Lib.hid HLS.out.1; have HL1 := Lib.hid HLS.out.2.1; have HL2 := Lib.hid HLS.out.2.2
    have hkeep : ∀ W', Below w2.heap.size w2 W' → W'.cell? ⟨w.heap.size + 1, 0, none⟩ = some (.slice AX M cX) ∧ W'.cell? ⟨w.heap.size + 1, 1, none⟩ = some (.slice AE N cE) ∧ W'.cell? ⟨w.heap.size + 1, 2, none⟩ = some (.slice AHH N cHH) := fun W' hb => ((HP2.out.below hb HP2.out.lt).full3).1
    have HKEEP := Lib.hid hkeep
    clear hi0 hi1 hi2 hkeep hqs
    refine wp_region_held_drew (S := fun W' => W'.cell? ⟨w.heap.size + 1, 0, none⟩ = some (.slice AX M cX) ∧ W'.cell? ⟨w.heap.size + 1, 1, none⟩ = some (.slice AE N cE) ∧ W'.cell? ⟨w.heap.size + 1, 2, none⟩ = some (.slice AHH N cHH)) (by kernel_rfl) (HKEEP.out _ (Below.refl _ _).drew) (fun hS0 => ?_)
    obtain ⟨W, hW⟩ : ∃ W, w2.drew = W := ⟨_, rfl⟩
    have HX : Hx w2 W w2.heap.size (pstR 0 0 0 ⟨none, 0, none, 0, none, 0⟩ [] [] []) := by rw [← hW]; exact nil_st (base := w2.heap.size) (Below.refl w2.heap.size w2).drew (Below.refl w2.heap.size w2).drew.size
    rw [hW] at hS0 ⊢
    clear hW
    refine tk (v := ?_) 1 19 rfl ?_ ?_
    rotate_left
    · (intro W' hSw; obtain ⟨b0, b1, b2⟩ := hSw; go_simp; try with_reducible rfl)
    simp only [Act.put, pa, pz, ps]
    refine tk (v := ?_) 2 20 rfl ?_ ?_
    rotate_left
    · (intro W' hSw; obtain ⟨b0, b1, b2⟩ := hSw; go_simp; try with_reducible rfl)
    simp only [Act.put, pa, pz, ps]
    refine tk (v := ?_) 5 23 rfl ?_ ?_
    rotate_left
    · (intro W' hSw; obtain ⟨b0, b1, b2⟩ := hSw; go_simp; try with_reducible rfl)
    simp only [Act.put, pa, pz, ps]
    refine tk (v := ?_) 6 24 rfl ?_ ?_
    rotate_left
    · (intro W' hSw; obtain ⟨b0, b1, b2⟩ := hSw; go_simp; try with_reducible rfl)
    simp only [Act.put, pa, pz, ps]
    refine tk (v := ?_) 9 27 rfl ?_ ?_
    rotate_left
    · (intro W' hSw; obtain ⟨b0, b1, b2⟩ := hSw; go_simp; try with_reducible rfl)
    simp only [Act.put, pa, pz, ps]
    refine tk (v := ?_) 10 28 rfl ?_ ?_
    rotate_left
    · (intro W' hSw; obtain ⟨b0, b1, b2⟩ := hSw; go_simp; try with_reducible rfl)
    simp only [Act.put, pa, pz, ps]
    refine (have t2221 : Hid ?Tt2221 := ?pt2221; ?mt2221)
    case' mt2221 => skip
    refine (have t2220 : Hid ?Tt2220 := ?pt2220; ?mt2220)
    case' mt2220 => skip
    refine (have t2211 : Hid ?Tt2211 := ?pt2211; ?mt2211)
    case' mt2211 => skip
    refine (have t2210 : Hid ?Tt2210 := ?pt2210; ?mt2210)
    case' mt2210 => skip
    refine (have t2201 : Hid ?Tt2201 := ?pt2201; ?mt2201)
    case' mt2201 => skip
    refine (have t2111 : Hid ?Tt2111 := ?pt2111; ?mt2111)
    case' mt2111 => skip
    refine (have t2200 : Hid ?Tt2200 := ?pt2200; ?mt2200)
    case' mt2200 => skip
    refine (have t2110 : Hid ?Tt2110 := ?pt2110; ?mt2110)
    case' mt2110 => skip
    refine (have t2101 : Hid ?Tt2101 := ?pt2101; ?mt2101)
    case' mt2101 => skip
    refine (have t2011 : Hid ?Tt2011 := ?pt2011; ?mt2011)
    case' mt2011 => skip
    refine (have t1111 : Hid ?Tt1111 := ?pt1111; ?mt1111)
    case' mt1111 => skip
    refine (have t2100 : Hid ?Tt2100 := ?pt2100; ?mt2100)
    case' mt2100 => skip
    refine (have t2010 : Hid ?Tt2010 := ?pt2010; ?mt2010)
    case' mt2010 => skip
    refine (have t2001 : Hid ?Tt2001 := ?pt2001; ?mt2001)
    case' mt2001 => skip
    refine (have t1110 : Hid ?Tt1110 := ?pt1110; ?mt1110)
    case' mt1110 => skip
    refine (have t1101 : Hid ?Tt1101 := ?pt1101; ?mt1101)
    case' mt1101 => skip
    refine (have t1011 : Hid ?Tt1011 := ?pt1011; ?mt1011)
    case' mt1011 => skip
    refine (have t0111 : Hid ?Tt0111 := ?pt0111; ?mt0111)
    case' mt0111 => skip
    refine (have t2000 : Hid ?Tt2000 := ?pt2000; ?mt2000)
    case' mt2000 => skip
    refine (have t1100 : Hid ?Tt1100 := ?pt1100; ?mt1100)
    case' mt1100 => skip
    refine (have t1010 : Hid ?Tt1010 := ?pt1010; ?mt1010)
    case' mt1010 => skip
    refine (have t1001 : Hid ?Tt1001 := ?pt1001; ?mt1001)
    case' mt1001 => skip
    refine (have t0110 : Hid ?Tt0110 := ?pt0110; ?mt0110)
    case' mt0110 => skip
    refine (have t0101 : Hid ?Tt0101 := ?pt0101; ?mt0101)
    case' mt0101 => skip
    refine (have t0011 : Hid ?Tt0011 := ?pt0011; ?mt0011)
    case' mt0011 => skip
    refine (have t1000 : Hid ?Tt1000 := ?pt1000; ?mt1000)
    case' mt1000 => skip
    refine (have t0100 : Hid ?Tt0100 := ?pt0100; ?mt0100)
    case' mt0100 => skip
    refine (have t0010 : Hid ?Tt0010 := ?pt0010; ?mt0010)
    case' mt0010 => skip
    refine (have t0001 : Hid ?Tt0001 := ?pt0001; ?mt0001)
    case' mt0001 => skip
    refine wpAnyH_ready (rs := [0, 4, 8, 13]) (by kernel_rfl) (by simp) ?_
    refine AllReadyH.cons rfl (fun K hK => ?_) (AllReadyH.cons rfl (fun K hK => ?_) (AllReadyH.cons rfl (fun K hK => ?_) (AllReadyH.cons rfl (fun K hK => ?_) (AllReadyH.nil))))
    · go_simp
      obtain ⟨g0, hgn⟩ : ∃ g, W.heap.size = g := ⟨_, rfl⟩
      have HX' := HX.fresh (i := 0) rfl (below_alloc _) (own_empty 2 W g0 hgn)
      refine hK.out _ _ (HKEEP.out _ HX'.bel) (fun hSx => ?_)
      clear hK K hSx 
      try simp only [Act.put, pa, pz, ps]
      obtain ⟨V, hV⟩ : ∃ V, W.alloc (.cells #[] 2) = V := ⟨_, rfl⟩
      rw [hV] at HX' ⊢
      rw [hgn]
      clear hV hgn 
      obtain ⟨W, rfl⟩ : ∃ W, W = V := ⟨_, rfl⟩
      have HX := HX'
      clear HX'
      replace HX : Hx w2 W w2.heap.size [⟨2, some ⟨g0, 0, none⟩, 0, 0, []⟩, ⟨2, none, 0, 0, []⟩, ⟨3, none, 0, 0, []⟩] := HX
      revert HX
      revert W
      revert g0
      exact t1000.out
    · go_simp
      obtain ⟨g1, hgn⟩ : ∃ g, W.heap.size = g := ⟨_, rfl⟩
      have HX' := HX.fresh (i := 1) rfl (below_alloc _) (own_empty 2 W g1 hgn)
      refine hK.out _ _ (HKEEP.out _ HX'.bel) (fun hSx => ?_)
      clear hK K hSx 
      try simp only [Act.put, pa, pz, ps]
      obtain ⟨V, hV⟩ : ∃ V, W.alloc (.cells #[] 2) = V := ⟨_, rfl⟩
      rw [hV] at HX' ⊢
      rw [hgn]
      clear hV hgn 
      obtain ⟨W, rfl⟩ : ∃ W, W = V := ⟨_, rfl⟩
      have HX := HX'
      clear HX'
      replace HX : Hx w2 W w2.heap.size [⟨2, none, 0, 0, []⟩, ⟨2, some ⟨g1, 0, none⟩, 0, 0, []⟩, ⟨3, none, 0, 0, []⟩] := HX
      revert HX
      revert W
      revert g1
      exact t0100.out
    · go_simp
      obtain ⟨g2, hgn⟩ : ∃ g, W.heap.size = g := ⟨_, rfl⟩
      have HX' := HX.fresh (i := 2) rfl (below_alloc _) (own_empty 3 W g2 hgn)
      refine hK.out _ _ (HKEEP.out _ HX'.bel) (fun hSx => ?_)
      clear hK K hSx 
      try simp only [Act.put, pa, pz, ps]
      obtain ⟨V, hV⟩ : ∃ V, W.alloc (.cells #[] 3) = V := ⟨_, rfl⟩
      rw [hV] at HX' ⊢
      rw [hgn]
      clear hV hgn 
      obtain ⟨W, rfl⟩ : ∃ W, W = V := ⟨_, rfl⟩
      have HX := HX'
      clear HX'
      replace HX : Hx w2 W w2.heap.size [⟨2, none, 0, 0, []⟩, ⟨2, none, 0, 0, []⟩, ⟨3, some ⟨g2, 0, none⟩, 0, 0, []⟩] := HX
      revert HX
      revert W
      revert g2
      exact t0010.out
    · go_simp
      obtain ⟨g9, hgn⟩ : ∃ g, W.heap.size = g := ⟨_, rfl⟩
      obtain ⟨V, hV⟩ : ∃ V, W.alloc (.cells #[.slice none 0 0, .slice none 0 0, .slice none 0 0] 29) = V := ⟨_, rfl⟩
      have hba : Below W.heap.size W V := by rw [← hV]; exact below_alloc _
      have HX' := HX.on hba
      have HA' : Blk V g9 29 #[.slice none 0 0, .slice none 0 0, .slice none 0 0] := by rw [← hV]; exact Blk.new hgn
      have lA' : w2.heap.size ≤ g9 := by rw [← hgn]; exact HX.bas
      refine hK.out _ _ (by rw [hV]; exact HKEEP.out _ HX'.bel) (fun hSx => ?_)
      clear hK K hSx hba 
      try simp only [Act.put, pa, pz, ps]
      rw [hV]
      rw [hgn]
      clear hV hgn 
      obtain ⟨W, rfl⟩ : ∃ W, W = V := ⟨_, rfl⟩
      have HX := HX'
      have HA := HA'
      have lA := lA'
      clear HX' HA' lA'
      replace HX : Hx w2 W w2.heap.size [⟨2, none, 0, 0, []⟩, ⟨2, none, 0, 0, []⟩, ⟨3, none, 0, 0, []⟩] := HX
      revert HA
      revert lA
      revert HX
      revert W
      revert g9
      exact t0001.out
    case pt0001 =>
     refine Lib.hid ?_
     intro g9 W HX lA HA
     refine wpAnyH_ready (rs := [0, 4, 8]) (by kernel_rfl) (by simp) ?_
     refine AllReadyH.cons rfl (fun K hK => ?_) (AllReadyH.cons rfl (fun K hK => ?_) (AllReadyH.cons rfl (fun K hK => ?_) (AllReadyH.nil)))
     · go_simp
       obtain ⟨g0, hgn⟩ : ∃ g, W.heap.size = g := ⟨_, rfl⟩
       have HX' := HX.fresh (i := 0) rfl (below_alloc _) (own_empty 2 W g0 hgn)
       have HA' := HA.alloc (.cells #[] 2)
       have lA' := lA
       refine hK.out _ _ (HKEEP.out _ HX'.bel) (fun hSx => ?_)
       clear hK K hSx HX HA lA
       try simp only [Act.put, pa, pz, ps]
       obtain ⟨V, hV⟩ : ∃ V, W.alloc (.cells #[] 2) = V := ⟨_, rfl⟩
       rw [hV] at HX' HA' ⊢
       rw [hgn]
       clear hV hgn W
       obtain ⟨W, rfl⟩ : ∃ W, W = V := ⟨_, rfl⟩
       have HX := HX'
       have HA := HA'
       have lA := lA'
       clear HX' HA' lA'
       replace HX : Hx w2 W w2.heap.size [⟨2, some ⟨g0, 0, none⟩, 0, 0, []⟩, ⟨2, none, 0, 0, []⟩, ⟨3, none, 0, 0, []⟩] := HX
       revert HA
       revert lA
       revert HX
       revert W
       revert g9
       revert g0
       exact t1001.out
     · go_simp
       obtain ⟨g1, hgn⟩ : ∃ g, W.heap.size = g := ⟨_, rfl⟩
       have HX' := HX.fresh (i := 1) rfl (below_alloc _) (own_empty 2 W g1 hgn)
       have HA' := HA.alloc (.cells #[] 2)
       have lA' := lA
       refine hK.out _ _ (HKEEP.out _ HX'.bel) (fun hSx => ?_)
       clear hK K hSx HX HA lA
       try simp only [Act.put, pa, pz, ps]
       obtain ⟨V, hV⟩ : ∃ V, W.alloc (.cells #[] 2) = V := ⟨_, rfl⟩
       rw [hV] at HX' HA' ⊢
       rw [hgn]
       clear hV hgn W
       obtain ⟨W, rfl⟩ : ∃ W, W = V := ⟨_, rfl⟩
       have HX := HX'
       have HA := HA'
       have lA := lA'
       clear HX' HA' lA'
       replace HX : Hx w2 W w2.heap.size [⟨2, none, 0, 0, []⟩, ⟨2, some ⟨g1, 0, none⟩, 0, 0, []⟩, ⟨3, none, 0, 0, []⟩] := HX
       revert HA
       revert lA
       revert HX
       revert W
       revert g9
       revert g1
       exact t0101.out
     · go_simp
       obtain ⟨g2, hgn⟩ : ∃ g, W.heap.size = g := ⟨_, rfl⟩
       have HX' := HX.fresh (i := 2) rfl (below_alloc _) (own_empty 3 W g2 hgn)
       have HA' := HA.alloc (.cells #[] 3)
       have lA' := lA
       refine hK.out _ _ (HKEEP.out _ HX'.bel) (fun hSx => ?_)
       clear hK K hSx HX HA lA
       try simp only [Act.put, pa, pz, ps]
       obtain ⟨V, hV⟩ : ∃ V, W.alloc (.cells #[] 3) = V := ⟨_, rfl⟩
       rw [hV] at HX' HA' ⊢
       rw [hgn]
       clear hV hgn W
       obtain ⟨W, rfl⟩ : ∃ W, W = V := ⟨_, rfl⟩
       have HX := HX'
       have HA := HA'
       have lA := lA'
       clear HX' HA' lA'
       replace HX : Hx w2 W w2.heap.size [⟨2, none, 0, 0, []⟩, ⟨2, none, 0, 0, []⟩, ⟨3, some ⟨g2, 0, none⟩, 0, 0, []⟩] := HX
       revert HA
       revert lA
       revert HX
       revert W
       revert g9
       revert g2
       exact t0011.out
    case pt0010 =>
     refine Lib.hid ?_
     intro g2 W HX
     refine wpAnyH_ready (rs := [0, 4, 13]) (by kernel_rfl) (by simp) ?_
     refine AllReadyH.cons rfl (fun K hK => ?_) (AllReadyH.cons rfl (fun K hK => ?_) (AllReadyH.cons rfl (fun K hK => ?_) (AllReadyH.nil)))
     · go_simp
       obtain ⟨g0, hgn⟩ : ∃ g, W.heap.size = g := ⟨_, rfl⟩
       have HX' := HX.fresh (i := 0) rfl (below_alloc _) (own_empty 2 W g0 hgn)
       refine hK.out _ _ (HKEEP.out _ HX'.bel) (fun hSx => ?_)
       clear hK K hSx HX
       try simp only [Act.put, pa, pz, ps]
       obtain ⟨V, hV⟩ : ∃ V, W.alloc (.cells #[] 2) = V := ⟨_, rfl⟩
       rw [hV] at HX' ⊢
       rw [hgn]
       clear hV hgn W
       obtain ⟨W, rfl⟩ : ∃ W, W = V := ⟨_, rfl⟩
       have HX := HX'
       clear HX'
       replace HX : Hx w2 W w2.heap.size [⟨2, some ⟨g0, 0, none⟩, 0, 0, []⟩, ⟨2, none, 0, 0, []⟩, ⟨3, some ⟨g2, 0, none⟩, 0, 0, []⟩] := HX
       revert HX
       revert W
       revert g2
       revert g0
       exact t1010.out
     · go_simp
       obtain ⟨g1, hgn⟩ : ∃ g, W.heap.size = g := ⟨_, rfl⟩
       have HX' := HX.fresh (i := 1) rfl (below_alloc _) (own_empty 2 W g1 hgn)
       refine hK.out _ _ (HKEEP.out _ HX'.bel) (fun hSx => ?_)
       clear hK K hSx HX
       try simp only [Act.put, pa, pz, ps]
       obtain ⟨V, hV⟩ : ∃ V, W.alloc (.cells #[] 2) = V := ⟨_, rfl⟩
       rw [hV] at HX' ⊢
       rw [hgn]
       clear hV hgn W
       obtain ⟨W, rfl⟩ : ∃ W, W = V := ⟨_, rfl⟩
       have HX := HX'
       clear HX'
       replace HX : Hx w2 W w2.heap.size [⟨2, none, 0, 0, []⟩, ⟨2, some ⟨g1, 0, none⟩, 0, 0, []⟩, ⟨3, some ⟨g2, 0, none⟩, 0, 0, []⟩] := HX
       revert HX
       revert W
       revert g2
       revert g1
       exact t0110.out
     · go_simp
       obtain ⟨g9, hgn⟩ : ∃ g, W.heap.size = g := ⟨_, rfl⟩
       obtain ⟨V, hV⟩ : ∃ V, W.alloc (.cells #[.slice none 0 0, .slice none 0 0, .slice none 0 0] 29) = V := ⟨_, rfl⟩
       have hba : Below W.heap.size W V := by rw [← hV]; exact below_alloc _
       have HX' := HX.on hba
       have HA' : Blk V g9 29 #[.slice none 0 0, .slice none 0 0, .slice none 0 0] := by rw [← hV]; exact Blk.new hgn
       have lA' : w2.heap.size ≤ g9 := by rw [← hgn]; exact HX.bas
       refine hK.out _ _ (by rw [hV]; exact HKEEP.out _ HX'.bel) (fun hSx => ?_)
       clear hK K hSx hba HX
       try simp only [Act.put, pa, pz, ps]
       rw [hV]
       rw [hgn]
       clear hV hgn W
       obtain ⟨W, rfl⟩ : ∃ W, W = V := ⟨_, rfl⟩
       have HX := HX'
       have HA := HA'
       have lA := lA'
       clear HX' HA' lA'
       replace HX : Hx w2 W w2.heap.size [⟨2, none, 0, 0, []⟩, ⟨2, none, 0, 0, []⟩, ⟨3, some ⟨g2, 0, none⟩, 0, 0, []⟩] := HX
       revert HA
       revert lA
       revert HX
       revert W
       revert g9
       revert g2
       exact t0011.out
    case pt0100 =>
     refine Lib.hid ?_
     intro g1 W HX
     refine wpAnyH_ready (rs := [0, 8, 13]) (by kernel_rfl) (by simp) ?_
     refine AllReadyH.cons rfl (fun K hK => ?_) (AllReadyH.cons rfl (fun K hK => ?_) (AllReadyH.cons rfl (fun K hK => ?_) (AllReadyH.nil)))
     · go_simp
       obtain ⟨g0, hgn⟩ : ∃ g, W.heap.size = g := ⟨_, rfl⟩
       have HX' := HX.fresh (i := 0) rfl (below_alloc _) (own_empty 2 W g0 hgn)
       refine hK.out _ _ (HKEEP.out _ HX'.bel) (fun hSx => ?_)
       clear hK K hSx HX
       try simp only [Act.put, pa, pz, ps]
       obtain ⟨V, hV⟩ : ∃ V, W.alloc (.cells #[] 2) = V := ⟨_, rfl⟩
       rw [hV] at HX' ⊢
       rw [hgn]
       clear hV hgn W
       obtain ⟨W, rfl⟩ : ∃ W, W = V := ⟨_, rfl⟩
       have HX := HX'
       clear HX'
       replace HX : Hx w2 W w2.heap.size [⟨2, some ⟨g0, 0, none⟩, 0, 0, []⟩, ⟨2, some ⟨g1, 0, none⟩, 0, 0, []⟩, ⟨3, none, 0, 0, []⟩] := HX
       revert HX
       revert W
       revert g1
       revert g0
       exact t1100.out
     · go_simp
       obtain ⟨g2, hgn⟩ : ∃ g, W.heap.size = g := ⟨_, rfl⟩
       have HX' := HX.fresh (i := 2) rfl (below_alloc _) (own_empty 3 W g2 hgn)
       refine hK.out _ _ (HKEEP.out _ HX'.bel) (fun hSx => ?_)
       clear hK K hSx HX
       try simp only [Act.put, pa, pz, ps]
       obtain ⟨V, hV⟩ : ∃ V, W.alloc (.cells #[] 3) = V := ⟨_, rfl⟩
       rw [hV] at HX' ⊢
       rw [hgn]
       clear hV hgn W
       obtain ⟨W, rfl⟩ : ∃ W, W = V := ⟨_, rfl⟩
       have HX := HX'
       clear HX'
       replace HX : Hx w2 W w2.heap.size [⟨2, none, 0, 0, []⟩, ⟨2, some ⟨g1, 0, none⟩, 0, 0, []⟩, ⟨3, some ⟨g2, 0, none⟩, 0, 0, []⟩] := HX
       revert HX
       revert W
       revert g2
       revert g1
       exact t0110.out
     · go_simp
       obtain ⟨g9, hgn⟩ : ∃ g, W.heap.size = g := ⟨_, rfl⟩
       obtain ⟨V, hV⟩ : ∃ V, W.alloc (.cells #[.slice none 0 0, .slice none 0 0, .slice none 0 0] 29) = V := ⟨_, rfl⟩
       have hba : Below W.heap.size W V := by rw [← hV]; exact below_alloc _
       have HX' := HX.on hba
       have HA' : Blk V g9 29 #[.slice none 0 0, .slice none 0 0, .slice none 0 0] := by rw [← hV]; exact Blk.new hgn
       have lA' : w2.heap.size ≤ g9 := by rw [← hgn]; exact HX.bas
       refine hK.out _ _ (by rw [hV]; exact HKEEP.out _ HX'.bel) (fun hSx => ?_)
       clear hK K hSx hba HX
       try simp only [Act.put, pa, pz, ps]
       rw [hV]
       rw [hgn]
       clear hV hgn W
       obtain ⟨W, rfl⟩ : ∃ W, W = V := ⟨_, rfl⟩
       have HX := HX'
       have HA := HA'
       have lA := lA'
       clear HX' HA' lA'
       replace HX : Hx w2 W w2.heap.size [⟨2, none, 0, 0, []⟩, ⟨2, some ⟨g1, 0, none⟩, 0, 0, []⟩, ⟨3, none, 0, 0, []⟩] := HX
       revert HA
       revert lA
       revert HX
       revert W
       revert g9
       revert g1
       exact t0101.out
    case pt1000 =>
     refine Lib.hid ?_
     intro g0 W HX
     refine wpAnyH_ready (rs := [3, 4, 8, 13]) (by kernel_rfl) (by simp) ?_
     refine AllReadyH.cons rfl (fun K hK => ?_) (AllReadyH.cons rfl (fun K hK => ?_) (AllReadyH.cons rfl (fun K hK => ?_) (AllReadyH.cons rfl (fun K hK => ?_) (AllReadyH.nil))))
     · refine step_appSrcH HX (by rfl) (.tmp 18) (.tmp 20) _ _ _ (by rfl) one_long.wide 0 0 0 (some ⟨g0, 0, none⟩) [] rfl (by rfl) AX M cX (lvs X) (by rfl) (HI0.out _ HX.bel) (by simp [HL0.out]) (fun u hu => by obtain ⟨x, _, rfl⟩ := List.mem_map.1 hu; rfl) (by omega) ?_
       intro A0 k0 V HY HB
       have HX' := HY.out
       refine hK.out _ _ (HKEEP.out _ HX'.bel) (fun hSx => ?_)
       clear hK K hSx HY HB HX W
       show wpAnyH _ _ _ _ _ _ _ (Act.put _ (some 21) _) _
       simp only [Act.put, pa, pz, ps, Nat.zero_add]
       simp only [Nat.zero_add, List.nil_append, List.set_cons_zero] at HX'
       obtain ⟨W, rfl⟩ : ∃ W, W = V := ⟨_, rfl⟩
       have HX := HX'
       clear HX'
       replace HX : Hx w2 W w2.heap.size [⟨2, A0, M, k0, lvs X⟩, ⟨2, none, 0, 0, []⟩, ⟨3, none, 0, 0, []⟩] := HX
       revert HX
       revert W
       revert k0
       revert A0
       revert g0
       exact t2000.out
     · go_simp
       obtain ⟨g1, hgn⟩ : ∃ g, W.heap.size = g := ⟨_, rfl⟩
       have HX' := HX.fresh (i := 1) rfl (below_alloc _) (own_empty 2 W g1 hgn)
       refine hK.out _ _ (HKEEP.out _ HX'.bel) (fun hSx => ?_)
       clear hK K hSx HX
       try simp only [Act.put, pa, pz, ps]
       obtain ⟨V, hV⟩ : ∃ V, W.alloc (.cells #[] 2) = V := ⟨_, rfl⟩
       rw [hV] at HX' ⊢
       rw [hgn]
       clear hV hgn W
       obtain ⟨W, rfl⟩ : ∃ W, W = V := ⟨_, rfl⟩
       have HX := HX'
       clear HX'
       replace HX : Hx w2 W w2.heap.size [⟨2, some ⟨g0, 0, none⟩, 0, 0, []⟩, ⟨2, some ⟨g1, 0, none⟩, 0, 0, []⟩, ⟨3, none, 0, 0, []⟩] := HX
       revert HX
       revert W
       revert g1
       revert g0
       exact t1100.out
     · go_simp
       obtain ⟨g2, hgn⟩ : ∃ g, W.heap.size = g := ⟨_, rfl⟩
       have HX' := HX.fresh (i := 2) rfl (below_alloc _) (own_empty 3 W g2 hgn)
       refine hK.out _ _ (HKEEP.out _ HX'.bel) (fun hSx => ?_)
       clear hK K hSx HX
       try simp only [Act.put, pa, pz, ps]
       obtain ⟨V, hV⟩ : ∃ V, W.alloc (.cells #[] 3) = V := ⟨_, rfl⟩
       rw [hV] at HX' ⊢
       rw [hgn]
       clear hV hgn W
       obtain ⟨W, rfl⟩ : ∃ W, W = V := ⟨_, rfl⟩
       have HX := HX'
       clear HX'
       replace HX : Hx w2 W w2.heap.size [⟨2, some ⟨g0, 0, none⟩, 0, 0, []⟩, ⟨2, none, 0, 0, []⟩, ⟨3, some ⟨g2, 0, none⟩, 0, 0, []⟩] := HX
       revert HX
       revert W
       revert g2
       revert g0
       exact t1010.out
     · go_simp
       obtain ⟨g9, hgn⟩ : ∃ g, W.heap.size = g := ⟨_, rfl⟩
       obtain ⟨V, hV⟩ : ∃ V, W.alloc (.cells #[.slice none 0 0, .slice none 0 0, .slice none 0 0] 29) = V := ⟨_, rfl⟩
       have hba : Below W.heap.size W V := by rw [← hV]; exact below_alloc _
       have HX' := HX.on hba
       have HA' : Blk V g9 29 #[.slice none 0 0, .slice none 0 0, .slice none 0 0] := by rw [← hV]; exact Blk.new hgn
       have lA' : w2.heap.size ≤ g9 := by rw [← hgn]; exact HX.bas
       refine hK.out _ _ (by rw [hV]; exact HKEEP.out _ HX'.bel) (fun hSx => ?_)
       clear hK K hSx hba HX
       try simp only [Act.put, pa, pz, ps]
       rw [hV]
       rw [hgn]
       clear hV hgn W
       obtain ⟨W, rfl⟩ : ∃ W, W = V := ⟨_, rfl⟩
       have HX := HX'
       have HA := HA'
       have lA := lA'
       clear HX' HA' lA'
       replace HX : Hx w2 W w2.heap.size [⟨2, some ⟨g0, 0, none⟩, 0, 0, []⟩, ⟨2, none, 0, 0, []⟩, ⟨3, none, 0, 0, []⟩] := HX
       revert HA
       revert lA
       revert HX
       revert W
       revert g9
       revert g0
       exact t1001.out
    case pt0011 =>
     refine Lib.hid ?_
     intro g2 g9 W HX lA HA
     refine wpAnyH_ready (rs := [0, 4]) (by kernel_rfl) (by simp) ?_
     refine AllReadyH.cons rfl (fun K hK => ?_) (AllReadyH.cons rfl (fun K hK => ?_) (AllReadyH.nil))
     · go_simp
       obtain ⟨g0, hgn⟩ : ∃ g, W.heap.size = g := ⟨_, rfl⟩
       have HX' := HX.fresh (i := 0) rfl (below_alloc _) (own_empty 2 W g0 hgn)
       have HA' := HA.alloc (.cells #[] 2)
       have lA' := lA
       refine hK.out _ _ (HKEEP.out _ HX'.bel) (fun hSx => ?_)
       clear hK K hSx HX HA lA
       try simp only [Act.put, pa, pz, ps]
       obtain ⟨V, hV⟩ : ∃ V, W.alloc (.cells #[] 2) = V := ⟨_, rfl⟩
       rw [hV] at HX' HA' ⊢
       rw [hgn]
       clear hV hgn W
       obtain ⟨W, rfl⟩ : ∃ W, W = V := ⟨_, rfl⟩
       have HX := HX'
       have HA := HA'
       have lA := lA'
       clear HX' HA' lA'
       replace HX : Hx w2 W w2.heap.size [⟨2, some ⟨g0, 0, none⟩, 0, 0, []⟩, ⟨2, none, 0, 0, []⟩, ⟨3, some ⟨g2, 0, none⟩, 0, 0, []⟩] := HX
       revert HA
       revert lA
       revert HX
       revert W
       revert g9
       revert g2
       revert g0
       exact t1011.out
     · go_simp
       obtain ⟨g1, hgn⟩ : ∃ g, W.heap.size = g := ⟨_, rfl⟩
       have HX' := HX.fresh (i := 1) rfl (below_alloc _) (own_empty 2 W g1 hgn)
       have HA' := HA.alloc (.cells #[] 2)
       have lA' := lA
       refine hK.out _ _ (HKEEP.out _ HX'.bel) (fun hSx => ?_)
       clear hK K hSx HX HA lA
       try simp only [Act.put, pa, pz, ps]
       obtain ⟨V, hV⟩ : ∃ V, W.alloc (.cells #[] 2) = V := ⟨_, rfl⟩
       rw [hV] at HX' HA' ⊢
       rw [hgn]
       clear hV hgn W
       obtain ⟨W, rfl⟩ : ∃ W, W = V := ⟨_, rfl⟩
       have HX := HX'
       have HA := HA'
       have lA := lA'
       clear HX' HA' lA'
       replace HX : Hx w2 W w2.heap.size [⟨2, none, 0, 0, []⟩, ⟨2, some ⟨g1, 0, none⟩, 0, 0, []⟩, ⟨3, some ⟨g2, 0, none⟩, 0, 0, []⟩] := HX
       revert HA
       revert lA
       revert HX
       revert W
       revert g9
       revert g2
       revert g1
       exact t0111.out
    case pt0101 =>
     refine Lib.hid ?_
     intro g1 g9 W HX lA HA
     refine wpAnyH_ready (rs := [0, 8]) (by kernel_rfl) (by simp) ?_
     refine AllReadyH.cons rfl (fun K hK => ?_) (AllReadyH.cons rfl (fun K hK => ?_) (AllReadyH.nil))
     · go_simp
       obtain ⟨g0, hgn⟩ : ∃ g, W.heap.size = g := ⟨_, rfl⟩
       have HX' := HX.fresh (i := 0) rfl (below_alloc _) (own_empty 2 W g0 hgn)
       have HA' := HA.alloc (.cells #[] 2)
       have lA' := lA
       refine hK.out _ _ (HKEEP.out _ HX'.bel) (fun hSx => ?_)
       clear hK K hSx HX HA lA
       try simp only [Act.put, pa, pz, ps]
       obtain ⟨V, hV⟩ : ∃ V, W.alloc (.cells #[] 2) = V := ⟨_, rfl⟩
       rw [hV] at HX' HA' ⊢
       rw [hgn]
       clear hV hgn W
       obtain ⟨W, rfl⟩ : ∃ W, W = V := ⟨_, rfl⟩
       have HX := HX'
       have HA := HA'
       have lA := lA'
       clear HX' HA' lA'
       replace HX : Hx w2 W w2.heap.size [⟨2, some ⟨g0, 0, none⟩, 0, 0, []⟩, ⟨2, some ⟨g1, 0, none⟩, 0, 0, []⟩, ⟨3, none, 0, 0, []⟩] := HX
       revert HA
       revert lA
       revert HX
       revert W
       revert g9
       revert g1
       revert g0
       exact t1101.out
     · go_simp
       obtain ⟨g2, hgn⟩ : ∃ g, W.heap.size = g := ⟨_, rfl⟩
       have HX' := HX.fresh (i := 2) rfl (below_alloc _) (own_empty 3 W g2 hgn)
       have HA' := HA.alloc (.cells #[] 3)
       have lA' := lA
       refine hK.out _ _ (HKEEP.out _ HX'.bel) (fun hSx => ?_)
       clear hK K hSx HX HA lA
       try simp only [Act.put, pa, pz, ps]
       obtain ⟨V, hV⟩ : ∃ V, W.alloc (.cells #[] 3) = V := ⟨_, rfl⟩
       rw [hV] at HX' HA' ⊢
       rw [hgn]
       clear hV hgn W
       obtain ⟨W, rfl⟩ : ∃ W, W = V := ⟨_, rfl⟩
       have HX := HX'
       have HA := HA'
       have lA := lA'
       clear HX' HA' lA'
       replace HX : Hx w2 W w2.heap.size [⟨2, none, 0, 0, []⟩, ⟨2, some ⟨g1, 0, none⟩, 0, 0, []⟩, ⟨3, some ⟨g2, 0, none⟩, 0, 0, []⟩] := HX
       revert HA
       revert lA
       revert HX
       revert W
       revert g9
       revert g2
       revert g1
       exact t0111.out
    case pt0110 =>
     refine Lib.hid ?_
     intro g1 g2 W HX
     refine wpAnyH_ready (rs := [0, 13]) (by kernel_rfl) (by simp) ?_
     refine AllReadyH.cons rfl (fun K hK => ?_) (AllReadyH.cons rfl (fun K hK => ?_) (AllReadyH.nil))
     · go_simp
       obtain ⟨g0, hgn⟩ : ∃ g, W.heap.size = g := ⟨_, rfl⟩
       have HX' := HX.fresh (i := 0) rfl (below_alloc _) (own_empty 2 W g0 hgn)
       refine hK.out _ _ (HKEEP.out _ HX'.bel) (fun hSx => ?_)
       clear hK K hSx HX
       try simp only [Act.put, pa, pz, ps]
       obtain ⟨V, hV⟩ : ∃ V, W.alloc (.cells #[] 2) = V := ⟨_, rfl⟩
       rw [hV] at HX' ⊢
       rw [hgn]
       clear hV hgn W
       obtain ⟨W, rfl⟩ : ∃ W, W = V := ⟨_, rfl⟩
       have HX := HX'
       clear HX'
       replace HX : Hx w2 W w2.heap.size [⟨2, some ⟨g0, 0, none⟩, 0, 0, []⟩, ⟨2, some ⟨g1, 0, none⟩, 0, 0, []⟩, ⟨3, some ⟨g2, 0, none⟩, 0, 0, []⟩] := HX
       revert HX
       revert W
       revert g2
       revert g1
       revert g0
       exact t1110.out
     · go_simp
       obtain ⟨g9, hgn⟩ : ∃ g, W.heap.size = g := ⟨_, rfl⟩
       obtain ⟨V, hV⟩ : ∃ V, W.alloc (.cells #[.slice none 0 0, .slice none 0 0, .slice none 0 0] 29) = V := ⟨_, rfl⟩
       have hba : Below W.heap.size W V := by rw [← hV]; exact below_alloc _
       have HX' := HX.on hba
       have HA' : Blk V g9 29 #[.slice none 0 0, .slice none 0 0, .slice none 0 0] := by rw [← hV]; exact Blk.new hgn
       have lA' : w2.heap.size ≤ g9 := by rw [← hgn]; exact HX.bas
       refine hK.out _ _ (by rw [hV]; exact HKEEP.out _ HX'.bel) (fun hSx => ?_)
       clear hK K hSx hba HX
       try simp only [Act.put, pa, pz, ps]
       rw [hV]
       rw [hgn]
       clear hV hgn W
       obtain ⟨W, rfl⟩ : ∃ W, W = V := ⟨_, rfl⟩
       have HX := HX'
       have HA := HA'
       have lA := lA'
       clear HX' HA' lA'
       replace HX : Hx w2 W w2.heap.size [⟨2, none, 0, 0, []⟩, ⟨2, some ⟨g1, 0, none⟩, 0, 0, []⟩, ⟨3, some ⟨g2, 0, none⟩, 0, 0, []⟩] := HX
       revert HA
       revert lA
       revert HX
       revert W
       revert g9
       revert g2
       revert g1
       exact t0111.out
    case pt1001 =>
     refine Lib.hid ?_
     intro g0 g9 W HX lA HA
     refine wpAnyH_ready (rs := [3, 4, 8]) (by kernel_rfl) (by simp) ?_
     refine AllReadyH.cons rfl (fun K hK => ?_) (AllReadyH.cons rfl (fun K hK => ?_) (AllReadyH.cons rfl (fun K hK => ?_) (AllReadyH.nil)))
     · refine step_appSrcH HX (by rfl) (.tmp 18) (.tmp 20) _ _ _ (by rfl) one_long.wide 0 0 0 (some ⟨g0, 0, none⟩) [] rfl (by rfl) AX M cX (lvs X) (by rfl) (HI0.out _ HX.bel) (by simp [HL0.out]) (fun u hu => by obtain ⟨x, _, rfl⟩ := List.mem_map.1 hu; rfl) (by omega) ?_
       intro A0 k0 V HY HB
       have HX' := HY.out
       have HA' := HB.out _ _ _ HA (show (29 : TypeId) ≠ 2 by decide)
       have lA' := lA
       refine hK.out _ _ (HKEEP.out _ HX'.bel) (fun hSx => ?_)
       clear hK K hSx HY HB HX HA lA W
       show wpAnyH _ _ _ _ _ _ _ (Act.put _ (some 21) _) _
       simp only [Act.put, pa, pz, ps, Nat.zero_add]
       simp only [Nat.zero_add, List.nil_append, List.set_cons_zero] at HX'
       obtain ⟨W, rfl⟩ : ∃ W, W = V := ⟨_, rfl⟩
       have HX := HX'
       have HA := HA'
       have lA := lA'
       clear HX' HA' lA'
       replace HX : Hx w2 W w2.heap.size [⟨2, A0, M, k0, lvs X⟩, ⟨2, none, 0, 0, []⟩, ⟨3, none, 0, 0, []⟩] := HX
       revert HA
       revert lA
       revert HX
       revert W
       revert g9
       revert k0
       revert A0
       revert g0
       exact t2001.out
     · go_simp
       obtain ⟨g1, hgn⟩ : ∃ g, W.heap.size = g := ⟨_, rfl⟩
       have HX' := HX.fresh (i := 1) rfl (below_alloc _) (own_empty 2 W g1 hgn)
       have HA' := HA.alloc (.cells #[] 2)
       have lA' := lA
       refine hK.out _ _ (HKEEP.out _ HX'.bel) (fun hSx => ?_)
       clear hK K hSx HX HA lA
       try simp only [Act.put, pa, pz, ps]
       obtain ⟨V, hV⟩ : ∃ V, W.alloc (.cells #[] 2) = V := ⟨_, rfl⟩
       rw [hV] at HX' HA' ⊢
       rw [hgn]
       clear hV hgn W
       obtain ⟨W, rfl⟩ : ∃ W, W = V := ⟨_, rfl⟩
       have HX := HX'
       have HA := HA'
       have lA := lA'
       clear HX' HA' lA'
       replace HX : Hx w2 W w2.heap.size [⟨2, some ⟨g0, 0, none⟩, 0, 0, []⟩, ⟨2, some ⟨g1, 0, none⟩, 0, 0, []⟩, ⟨3, none, 0, 0, []⟩] := HX
       revert HA
       revert lA
       revert HX
       revert W
       revert g9
       revert g1
       revert g0
       exact t1101.out
     · go_simp
       obtain ⟨g2, hgn⟩ : ∃ g, W.heap.size = g := ⟨_, rfl⟩
       have HX' := HX.fresh (i := 2) rfl (below_alloc _) (own_empty 3 W g2 hgn)
       have HA' := HA.alloc (.cells #[] 3)
       have lA' := lA
       refine hK.out _ _ (HKEEP.out _ HX'.bel) (fun hSx => ?_)
       clear hK K hSx HX HA lA
       try simp only [Act.put, pa, pz, ps]
       obtain ⟨V, hV⟩ : ∃ V, W.alloc (.cells #[] 3) = V := ⟨_, rfl⟩
       rw [hV] at HX' HA' ⊢
       rw [hgn]
       clear hV hgn W
       obtain ⟨W, rfl⟩ : ∃ W, W = V := ⟨_, rfl⟩
       have HX := HX'
       have HA := HA'
       have lA := lA'
       clear HX' HA' lA'
       replace HX : Hx w2 W w2.heap.size [⟨2, some ⟨g0, 0, none⟩, 0, 0, []⟩, ⟨2, none, 0, 0, []⟩, ⟨3, some ⟨g2, 0, none⟩, 0, 0, []⟩] := HX
       revert HA
       revert lA
       revert HX
       revert W
       revert g9
       revert g2
       revert g0
       exact t1011.out
    case pt1010 =>
     refine Lib.hid ?_
     intro g0 g2 W HX
     refine wpAnyH_ready (rs := [3, 4, 13]) (by kernel_rfl) (by simp) ?_
     refine AllReadyH.cons rfl (fun K hK => ?_) (AllReadyH.cons rfl (fun K hK => ?_) (AllReadyH.cons rfl (fun K hK => ?_) (AllReadyH.nil)))
     · refine step_appSrcH HX (by rfl) (.tmp 18) (.tmp 20) _ _ _ (by rfl) one_long.wide 0 0 0 (some ⟨g0, 0, none⟩) [] rfl (by rfl) AX M cX (lvs X) (by rfl) (HI0.out _ HX.bel) (by simp [HL0.out]) (fun u hu => by obtain ⟨x, _, rfl⟩ := List.mem_map.1 hu; rfl) (by omega) ?_
       intro A0 k0 V HY HB
       have HX' := HY.out
       refine hK.out _ _ (HKEEP.out _ HX'.bel) (fun hSx => ?_)
       clear hK K hSx HY HB HX W
       show wpAnyH _ _ _ _ _ _ _ (Act.put _ (some 21) _) _
       simp only [Act.put, pa, pz, ps, Nat.zero_add]
       simp only [Nat.zero_add, List.nil_append, List.set_cons_zero] at HX'
       obtain ⟨W, rfl⟩ : ∃ W, W = V := ⟨_, rfl⟩
       have HX := HX'
       clear HX'
       replace HX : Hx w2 W w2.heap.size [⟨2, A0, M, k0, lvs X⟩, ⟨2, none, 0, 0, []⟩, ⟨3, some ⟨g2, 0, none⟩, 0, 0, []⟩] := HX
       revert HX
       revert W
       revert g2
       revert k0
       revert A0
       revert g0
       exact t2010.out
     · go_simp
       obtain ⟨g1, hgn⟩ : ∃ g, W.heap.size = g := ⟨_, rfl⟩
       have HX' := HX.fresh (i := 1) rfl (below_alloc _) (own_empty 2 W g1 hgn)
       refine hK.out _ _ (HKEEP.out _ HX'.bel) (fun hSx => ?_)
       clear hK K hSx HX
       try simp only [Act.put, pa, pz, ps]
       obtain ⟨V, hV⟩ : ∃ V, W.alloc (.cells #[] 2) = V := ⟨_, rfl⟩
       rw [hV] at HX' ⊢
       rw [hgn]
       clear hV hgn W
       obtain ⟨W, rfl⟩ : ∃ W, W = V := ⟨_, rfl⟩
       have HX := HX'
       clear HX'
       replace HX : Hx w2 W w2.heap.size [⟨2, some ⟨g0, 0, none⟩, 0, 0, []⟩, ⟨2, some ⟨g1, 0, none⟩, 0, 0, []⟩, ⟨3, some ⟨g2, 0, none⟩, 0, 0, []⟩] := HX
       revert HX
       revert W
       revert g2
       revert g1
       revert g0
       exact t1110.out
     · go_simp
       obtain ⟨g9, hgn⟩ : ∃ g, W.heap.size = g := ⟨_, rfl⟩
       obtain ⟨V, hV⟩ : ∃ V, W.alloc (.cells #[.slice none 0 0, .slice none 0 0, .slice none 0 0] 29) = V := ⟨_, rfl⟩
       have hba : Below W.heap.size W V := by rw [← hV]; exact below_alloc _
       have HX' := HX.on hba
       have HA' : Blk V g9 29 #[.slice none 0 0, .slice none 0 0, .slice none 0 0] := by rw [← hV]; exact Blk.new hgn
       have lA' : w2.heap.size ≤ g9 := by rw [← hgn]; exact HX.bas
       refine hK.out _ _ (by rw [hV]; exact HKEEP.out _ HX'.bel) (fun hSx => ?_)
       clear hK K hSx hba HX
       try simp only [Act.put, pa, pz, ps]
       rw [hV]
       rw [hgn]
       clear hV hgn W
       obtain ⟨W, rfl⟩ : ∃ W, W = V := ⟨_, rfl⟩
       have HX := HX'
       have HA := HA'
       have lA := lA'
       clear HX' HA' lA'
       replace HX : Hx w2 W w2.heap.size [⟨2, some ⟨g0, 0, none⟩, 0, 0, []⟩, ⟨2, none, 0, 0, []⟩, ⟨3, some ⟨g2, 0, none⟩, 0, 0, []⟩] := HX
       revert HA
       revert lA
       revert HX
       revert W
       revert g9
       revert g2
       revert g0
       exact t1011.out
    case pt1100 =>
     refine Lib.hid ?_
     intro g0 g1 W HX
     refine wpAnyH_ready (rs := [3, 8, 13]) (by kernel_rfl) (by simp) ?_
     refine AllReadyH.cons rfl (fun K hK => ?_) (AllReadyH.cons rfl (fun K hK => ?_) (AllReadyH.cons rfl (fun K hK => ?_) (AllReadyH.nil)))
     · refine step_appSrcH HX (by rfl) (.tmp 18) (.tmp 20) _ _ _ (by rfl) one_long.wide 0 0 0 (some ⟨g0, 0, none⟩) [] rfl (by rfl) AX M cX (lvs X) (by rfl) (HI0.out _ HX.bel) (by simp [HL0.out]) (fun u hu => by obtain ⟨x, _, rfl⟩ := List.mem_map.1 hu; rfl) (by omega) ?_
       intro A0 k0 V HY HB
       have HX' := HY.out
       refine hK.out _ _ (HKEEP.out _ HX'.bel) (fun hSx => ?_)
       clear hK K hSx HY HB HX W
       show wpAnyH _ _ _ _ _ _ _ (Act.put _ (some 21) _) _
       simp only [Act.put, pa, pz, ps, Nat.zero_add]
       simp only [Nat.zero_add, List.nil_append, List.set_cons_zero] at HX'
       obtain ⟨W, rfl⟩ : ∃ W, W = V := ⟨_, rfl⟩
       have HX := HX'
       clear HX'
       replace HX : Hx w2 W w2.heap.size [⟨2, A0, M, k0, lvs X⟩, ⟨2, some ⟨g1, 0, none⟩, 0, 0, []⟩, ⟨3, none, 0, 0, []⟩] := HX
       revert HX
       revert W
       revert g1
       revert k0
       revert A0
       revert g0
       exact t2100.out
     · go_simp
       obtain ⟨g2, hgn⟩ : ∃ g, W.heap.size = g := ⟨_, rfl⟩
       have HX' := HX.fresh (i := 2) rfl (below_alloc _) (own_empty 3 W g2 hgn)
       refine hK.out _ _ (HKEEP.out _ HX'.bel) (fun hSx => ?_)
       clear hK K hSx HX
       try simp only [Act.put, pa, pz, ps]
       obtain ⟨V, hV⟩ : ∃ V, W.alloc (.cells #[] 3) = V := ⟨_, rfl⟩
       rw [hV] at HX' ⊢
       rw [hgn]
       clear hV hgn W
       obtain ⟨W, rfl⟩ : ∃ W, W = V := ⟨_, rfl⟩
       have HX := HX'
       clear HX'
       replace HX : Hx w2 W w2.heap.size [⟨2, some ⟨g0, 0, none⟩, 0, 0, []⟩, ⟨2, some ⟨g1, 0, none⟩, 0, 0, []⟩, ⟨3, some ⟨g2, 0, none⟩, 0, 0, []⟩] := HX
       revert HX
       revert W
       revert g2
       revert g1
       revert g0
       exact t1110.out
     · go_simp
       obtain ⟨g9, hgn⟩ : ∃ g, W.heap.size = g := ⟨_, rfl⟩
       obtain ⟨V, hV⟩ : ∃ V, W.alloc (.cells #[.slice none 0 0, .slice none 0 0, .slice none 0 0] 29) = V := ⟨_, rfl⟩
       have hba : Below W.heap.size W V := by rw [← hV]; exact below_alloc _
       have HX' := HX.on hba
       have HA' : Blk V g9 29 #[.slice none 0 0, .slice none 0 0, .slice none 0 0] := by rw [← hV]; exact Blk.new hgn
       have lA' : w2.heap.size ≤ g9 := by rw [← hgn]; exact HX.bas
       refine hK.out _ _ (by rw [hV]; exact HKEEP.out _ HX'.bel) (fun hSx => ?_)
       clear hK K hSx hba HX
       try simp only [Act.put, pa, pz, ps]
       rw [hV]
       rw [hgn]
       clear hV hgn W
       obtain ⟨W, rfl⟩ : ∃ W, W = V := ⟨_, rfl⟩
       have HX := HX'
       have HA := HA'
       have lA := lA'
       clear HX' HA' lA'
       replace HX : Hx w2 W w2.heap.size [⟨2, some ⟨g0, 0, none⟩, 0, 0, []⟩, ⟨2, some ⟨g1, 0, none⟩, 0, 0, []⟩, ⟨3, none, 0, 0, []⟩] := HX
       revert HA
       revert lA
       revert HX
       revert W
       revert g9
       revert g1
       revert g0
       exact t1101.out
    case pt2000 =>
     refine Lib.hid ?_
     intro g0 A0 k0 W HX
     refine wpAnyH_ready (rs := [4, 8, 13]) (by kernel_rfl) (by simp) ?_
     refine AllReadyH.cons rfl (fun K hK => ?_) (AllReadyH.cons rfl (fun K hK => ?_) (AllReadyH.cons rfl (fun K hK => ?_) (AllReadyH.nil)))
     · go_simp
       obtain ⟨g1, hgn⟩ : ∃ g, W.heap.size = g := ⟨_, rfl⟩
       have HX' := HX.fresh (i := 1) rfl (below_alloc _) (own_empty 2 W g1 hgn)
       refine hK.out _ _ (HKEEP.out _ HX'.bel) (fun hSx => ?_)
       clear hK K hSx HX
       try simp only [Act.put, pa, pz, ps]
       obtain ⟨V, hV⟩ : ∃ V, W.alloc (.cells #[] 2) = V := ⟨_, rfl⟩
       rw [hV] at HX' ⊢
       rw [hgn]
       clear hV hgn W
       obtain ⟨W, rfl⟩ : ∃ W, W = V := ⟨_, rfl⟩
       have HX := HX'
       clear HX'
       replace HX : Hx w2 W w2.heap.size [⟨2, A0, M, k0, lvs X⟩, ⟨2, some ⟨g1, 0, none⟩, 0, 0, []⟩, ⟨3, none, 0, 0, []⟩] := HX
       revert HX
       revert W
       revert g1
       revert k0
       revert A0
       revert g0
       exact t2100.out
     · go_simp
       obtain ⟨g2, hgn⟩ : ∃ g, W.heap.size = g := ⟨_, rfl⟩
       have HX' := HX.fresh (i := 2) rfl (below_alloc _) (own_empty 3 W g2 hgn)
       refine hK.out _ _ (HKEEP.out _ HX'.bel) (fun hSx => ?_)
       clear hK K hSx HX
       try simp only [Act.put, pa, pz, ps]
       obtain ⟨V, hV⟩ : ∃ V, W.alloc (.cells #[] 3) = V := ⟨_, rfl⟩
       rw [hV] at HX' ⊢
       rw [hgn]
       clear hV hgn W
       obtain ⟨W, rfl⟩ : ∃ W, W = V := ⟨_, rfl⟩
       have HX := HX'
       clear HX'
       replace HX : Hx w2 W w2.heap.size [⟨2, A0, M, k0, lvs X⟩, ⟨2, none, 0, 0, []⟩, ⟨3, some ⟨g2, 0, none⟩, 0, 0, []⟩] := HX
       revert HX
       revert W
       revert g2
       revert k0
       revert A0
       revert g0
       exact t2010.out
     · go_simp
       obtain ⟨g9, hgn⟩ : ∃ g, W.heap.size = g := ⟨_, rfl⟩
       obtain ⟨V, hV⟩ : ∃ V, W.alloc (.cells #[.slice none 0 0, .slice none 0 0, .slice none 0 0] 29) = V := ⟨_, rfl⟩
       have hba : Below W.heap.size W V := by rw [← hV]; exact below_alloc _
       have HX' := HX.on hba
       have HA' : Blk V g9 29 #[.slice none 0 0, .slice none 0 0, .slice none 0 0] := by rw [← hV]; exact Blk.new hgn
       have lA' : w2.heap.size ≤ g9 := by rw [← hgn]; exact HX.bas
       refine hK.out _ _ (by rw [hV]; exact HKEEP.out _ HX'.bel) (fun hSx => ?_)
       clear hK K hSx hba HX
       try simp only [Act.put, pa, pz, ps]
       rw [hV]
       rw [hgn]
       clear hV hgn W
       obtain ⟨W, rfl⟩ : ∃ W, W = V := ⟨_, rfl⟩
       have HX := HX'
       have HA := HA'
       have lA := lA'
       clear HX' HA' lA'
       replace HX : Hx w2 W w2.heap.size [⟨2, A0, M, k0, lvs X⟩, ⟨2, none, 0, 0, []⟩, ⟨3, none, 0, 0, []⟩] := HX
       revert HA
       revert lA
       revert HX
       revert W
       revert g9
       revert k0
       revert A0
       revert g0
       exact t2001.out
    case pt0111 =>
     refine Lib.hid ?_
     intro g1 g2 g9 W HX lA HA
     refine wpAnyH_ready (rs := [0]) (by kernel_rfl) (by simp) ?_
     refine AllReadyH.cons rfl (fun K hK => ?_) (AllReadyH.nil)
     · go_simp
       obtain ⟨g0, hgn⟩ : ∃ g, W.heap.size = g := ⟨_, rfl⟩
       have HX' := HX.fresh (i := 0) rfl (below_alloc _) (own_empty 2 W g0 hgn)
       have HA' := HA.alloc (.cells #[] 2)
       have lA' := lA
       refine hK.out _ _ (HKEEP.out _ HX'.bel) (fun hSx => ?_)
       clear hK K hSx HX HA lA
       try simp only [Act.put, pa, pz, ps]
       obtain ⟨V, hV⟩ : ∃ V, W.alloc (.cells #[] 2) = V := ⟨_, rfl⟩
       rw [hV] at HX' HA' ⊢
       rw [hgn]
       clear hV hgn W
       obtain ⟨W, rfl⟩ : ∃ W, W = V := ⟨_, rfl⟩
       have HX := HX'
       have HA := HA'
       have lA := lA'
       clear HX' HA' lA'
       replace HX : Hx w2 W w2.heap.size [⟨2, some ⟨g0, 0, none⟩, 0, 0, []⟩, ⟨2, some ⟨g1, 0, none⟩, 0, 0, []⟩, ⟨3, some ⟨g2, 0, none⟩, 0, 0, []⟩] := HX
       revert HA
       revert lA
       revert HX
       revert W
       revert g9
       revert g2
       revert g1
       revert g0
       exact t1111.out
    case pt1011 =>
     refine Lib.hid ?_
     intro g0 g2 g9 W HX lA HA
     refine wpAnyH_ready (rs := [3, 4]) (by kernel_rfl) (by simp) ?_
     refine AllReadyH.cons rfl (fun K hK => ?_) (AllReadyH.cons rfl (fun K hK => ?_) (AllReadyH.nil))
     · refine step_appSrcH HX (by rfl) (.tmp 18) (.tmp 20) _ _ _ (by rfl) one_long.wide 0 0 0 (some ⟨g0, 0, none⟩) [] rfl (by rfl) AX M cX (lvs X) (by rfl) (HI0.out _ HX.bel) (by simp [HL0.out]) (fun u hu => by obtain ⟨x, _, rfl⟩ := List.mem_map.1 hu; rfl) (by omega) ?_
       intro A0 k0 V HY HB
       have HX' := HY.out
       have HA' := HB.out _ _ _ HA (show (29 : TypeId) ≠ 2 by decide)
       have lA' := lA
       refine hK.out _ _ (HKEEP.out _ HX'.bel) (fun hSx => ?_)
       clear hK K hSx HY HB HX HA lA W
       show wpAnyH _ _ _ _ _ _ _ (Act.put _ (some 21) _) _
       simp only [Act.put, pa, pz, ps, Nat.zero_add]
       simp only [Nat.zero_add, List.nil_append, List.set_cons_zero] at HX'
       obtain ⟨W, rfl⟩ : ∃ W, W = V := ⟨_, rfl⟩
       have HX := HX'
       have HA := HA'
       have lA := lA'
       clear HX' HA' lA'
       replace HX : Hx w2 W w2.heap.size [⟨2, A0, M, k0, lvs X⟩, ⟨2, none, 0, 0, []⟩, ⟨3, some ⟨g2, 0, none⟩, 0, 0, []⟩] := HX
       revert HA
       revert lA
       revert HX
       revert W
       revert g9
       revert g2
       revert k0
       revert A0
       revert g0
       exact t2011.out
     · go_simp
       obtain ⟨g1, hgn⟩ : ∃ g, W.heap.size = g := ⟨_, rfl⟩
       have HX' := HX.fresh (i := 1) rfl (below_alloc _) (own_empty 2 W g1 hgn)
       have HA' := HA.alloc (.cells #[] 2)
       have lA' := lA
       refine hK.out _ _ (HKEEP.out _ HX'.bel) (fun hSx => ?_)
       clear hK K hSx HX HA lA
       try simp only [Act.put, pa, pz, ps]
       obtain ⟨V, hV⟩ : ∃ V, W.alloc (.cells #[] 2) = V := ⟨_, rfl⟩
       rw [hV] at HX' HA' ⊢
       rw [hgn]
       clear hV hgn W
       obtain ⟨W, rfl⟩ : ∃ W, W = V := ⟨_, rfl⟩
       have HX := HX'
       have HA := HA'
       have lA := lA'
       clear HX' HA' lA'
       replace HX : Hx w2 W w2.heap.size [⟨2, some ⟨g0, 0, none⟩, 0, 0, []⟩, ⟨2, some ⟨g1, 0, none⟩, 0, 0, []⟩, ⟨3, some ⟨g2, 0, none⟩, 0, 0, []⟩] := HX
       revert HA
       revert lA
       revert HX
       revert W
       revert g9
       revert g2
       revert g1
       revert g0
       exact t1111.out
    case pt1101 =>
     refine Lib.hid ?_
     intro g0 g1 g9 W HX lA HA
     refine wpAnyH_ready (rs := [3, 8]) (by kernel_rfl) (by simp) ?_
     refine AllReadyH.cons rfl (fun K hK => ?_) (AllReadyH.cons rfl (fun K hK => ?_) (AllReadyH.nil))
     · refine step_appSrcH HX (by rfl) (.tmp 18) (.tmp 20) _ _ _ (by rfl) one_long.wide 0 0 0 (some ⟨g0, 0, none⟩) [] rfl (by rfl) AX M cX (lvs X) (by rfl) (HI0.out _ HX.bel) (by simp [HL0.out]) (fun u hu => by obtain ⟨x, _, rfl⟩ := List.mem_map.1 hu; rfl) (by omega) ?_
       intro A0 k0 V HY HB
       have HX' := HY.out
       have HA' := HB.out _ _ _ HA (show (29 : TypeId) ≠ 2 by decide)
       have lA' := lA
       refine hK.out _ _ (HKEEP.out _ HX'.bel) (fun hSx => ?_)
       clear hK K hSx HY HB HX HA lA W
       show wpAnyH _ _ _ _ _ _ _ (Act.put _ (some 21) _) _
       simp only [Act.put, pa, pz, ps, Nat.zero_add]
       simp only [Nat.zero_add, List.nil_append, List.set_cons_zero] at HX'
       obtain ⟨W, rfl⟩ : ∃ W, W = V := ⟨_, rfl⟩
       have HX := HX'
       have HA := HA'
       have lA := lA'
       clear HX' HA' lA'
       replace HX : Hx w2 W w2.heap.size [⟨2, A0, M, k0, lvs X⟩, ⟨2, some ⟨g1, 0, none⟩, 0, 0, []⟩, ⟨3, none, 0, 0, []⟩] := HX
       revert HA
       revert lA
       revert HX
       revert W
       revert g9
       revert g1
       revert k0
       revert A0
       revert g0
       exact t2101.out
     · go_simp
       obtain ⟨g2, hgn⟩ : ∃ g, W.heap.size = g := ⟨_, rfl⟩
       have HX' := HX.fresh (i := 2) rfl (below_alloc _) (own_empty 3 W g2 hgn)
       have HA' := HA.alloc (.cells #[] 3)
       have lA' := lA
       refine hK.out _ _ (HKEEP.out _ HX'.bel) (fun hSx => ?_)
       clear hK K hSx HX HA lA
       try simp only [Act.put, pa, pz, ps]
       obtain ⟨V, hV⟩ : ∃ V, W.alloc (.cells #[] 3) = V := ⟨_, rfl⟩
       rw [hV] at HX' HA' ⊢
       rw [hgn]
       clear hV hgn W
       obtain ⟨W, rfl⟩ : ∃ W, W = V := ⟨_, rfl⟩
       have HX := HX'
       have HA := HA'
       have lA := lA'
       clear HX' HA' lA'
       replace HX : Hx w2 W w2.heap.size [⟨2, some ⟨g0, 0, none⟩, 0, 0, []⟩, ⟨2, some ⟨g1, 0, none⟩, 0, 0, []⟩, ⟨3, some ⟨g2, 0, none⟩, 0, 0, []⟩] := HX
       revert HA
       revert lA
       revert HX
       revert W
       revert g9
       revert g2
       revert g1
       revert g0
       exact t1111.out
    case pt1110 =>
     refine Lib.hid ?_
     intro g0 g1 g2 W HX
     refine wpAnyH_ready (rs := [3, 13]) (by kernel_rfl) (by simp) ?_
     refine AllReadyH.cons rfl (fun K hK => ?_) (AllReadyH.cons rfl (fun K hK => ?_) (AllReadyH.nil))
     · refine step_appSrcH HX (by rfl) (.tmp 18) (.tmp 20) _ _ _ (by rfl) one_long.wide 0 0 0 (some ⟨g0, 0, none⟩) [] rfl (by rfl) AX M cX (lvs X) (by rfl) (HI0.out _ HX.bel) (by simp [HL0.out]) (fun u hu => by obtain ⟨x, _, rfl⟩ := List.mem_map.1 hu; rfl) (by omega) ?_
       intro A0 k0 V HY HB
       have HX' := HY.out
       refine hK.out _ _ (HKEEP.out _ HX'.bel) (fun hSx => ?_)
       clear hK K hSx HY HB HX W
       show wpAnyH _ _ _ _ _ _ _ (Act.put _ (some 21) _) _
       simp only [Act.put, pa, pz, ps, Nat.zero_add]
       simp only [Nat.zero_add, List.nil_append, List.set_cons_zero] at HX'
       obtain ⟨W, rfl⟩ : ∃ W, W = V := ⟨_, rfl⟩
       have HX := HX'
       clear HX'
       replace HX : Hx w2 W w2.heap.size [⟨2, A0, M, k0, lvs X⟩, ⟨2, some ⟨g1, 0, none⟩, 0, 0, []⟩, ⟨3, some ⟨g2, 0, none⟩, 0, 0, []⟩] := HX
       revert HX
       revert W
       revert g2
       revert g1
       revert k0
       revert A0
       revert g0
       exact t2110.out
     · go_simp
       obtain ⟨g9, hgn⟩ : ∃ g, W.heap.size = g := ⟨_, rfl⟩
       obtain ⟨V, hV⟩ : ∃ V, W.alloc (.cells #[.slice none 0 0, .slice none 0 0, .slice none 0 0] 29) = V := ⟨_, rfl⟩
       have hba : Below W.heap.size W V := by rw [← hV]; exact below_alloc _
       have HX' := HX.on hba
       have HA' : Blk V g9 29 #[.slice none 0 0, .slice none 0 0, .slice none 0 0] := by rw [← hV]; exact Blk.new hgn
       have lA' : w2.heap.size ≤ g9 := by rw [← hgn]; exact HX.bas
       refine hK.out _ _ (by rw [hV]; exact HKEEP.out _ HX'.bel) (fun hSx => ?_)
       clear hK K hSx hba HX
       try simp only [Act.put, pa, pz, ps]
       rw [hV]
       rw [hgn]
       clear hV hgn W
       obtain ⟨W, rfl⟩ : ∃ W, W = V := ⟨_, rfl⟩
       have HX := HX'
       have HA := HA'
       have lA := lA'
       clear HX' HA' lA'
       replace HX : Hx w2 W w2.heap.size [⟨2, some ⟨g0, 0, none⟩, 0, 0, []⟩, ⟨2, some ⟨g1, 0, none⟩, 0, 0, []⟩, ⟨3, some ⟨g2, 0, none⟩, 0, 0, []⟩] := HX
       revert HA
       revert lA
       revert HX
       revert W
       revert g9
       revert g2
       revert g1
       revert g0
       exact t1111.out
    case pt2001 =>
     refine Lib.hid ?_
     intro g0 A0 k0 g9 W HX lA HA
     refine wpAnyH_ready (rs := [4, 8]) (by kernel_rfl) (by simp) ?_
     refine AllReadyH.cons rfl (fun K hK => ?_) (AllReadyH.cons rfl (fun K hK => ?_) (AllReadyH.nil))
     · go_simp
       obtain ⟨g1, hgn⟩ : ∃ g, W.heap.size = g := ⟨_, rfl⟩
       have HX' := HX.fresh (i := 1) rfl (below_alloc _) (own_empty 2 W g1 hgn)
       have HA' := HA.alloc (.cells #[] 2)
       have lA' := lA
       refine hK.out _ _ (HKEEP.out _ HX'.bel) (fun hSx => ?_)
       clear hK K hSx HX HA lA
       try simp only [Act.put, pa, pz, ps]
       obtain ⟨V, hV⟩ : ∃ V, W.alloc (.cells #[] 2) = V := ⟨_, rfl⟩
       rw [hV] at HX' HA' ⊢
       rw [hgn]
       clear hV hgn W
       obtain ⟨W, rfl⟩ : ∃ W, W = V := ⟨_, rfl⟩
       have HX := HX'
       have HA := HA'
       have lA := lA'
       clear HX' HA' lA'
       replace HX : Hx w2 W w2.heap.size [⟨2, A0, M, k0, lvs X⟩, ⟨2, some ⟨g1, 0, none⟩, 0, 0, []⟩, ⟨3, none, 0, 0, []⟩] := HX
       revert HA
       revert lA
       revert HX
       revert W
       revert g9
       revert g1
       revert k0
       revert A0
       revert g0
       exact t2101.out
     · go_simp
       obtain ⟨g2, hgn⟩ : ∃ g, W.heap.size = g := ⟨_, rfl⟩
       have HX' := HX.fresh (i := 2) rfl (below_alloc _) (own_empty 3 W g2 hgn)
       have HA' := HA.alloc (.cells #[] 3)
       have lA' := lA
       refine hK.out _ _ (HKEEP.out _ HX'.bel) (fun hSx => ?_)
       clear hK K hSx HX HA lA
       try simp only [Act.put, pa, pz, ps]
       obtain ⟨V, hV⟩ : ∃ V, W.alloc (.cells #[] 3) = V := ⟨_, rfl⟩
       rw [hV] at HX' HA' ⊢
       rw [hgn]
       clear hV hgn W
       obtain ⟨W, rfl⟩ : ∃ W, W = V := ⟨_, rfl⟩
       have HX := HX'
       have HA := HA'
       have lA := lA'
       clear HX' HA' lA'
       replace HX : Hx w2 W w2.heap.size [⟨2, A0, M, k0, lvs X⟩, ⟨2, none, 0, 0, []⟩, ⟨3, some ⟨g2, 0, none⟩, 0, 0, []⟩] := HX
       revert HA
       revert lA
       revert HX
       revert W
       revert g9
       revert g2
       revert k0
       revert A0
       revert g0
       exact t2011.out
    case pt2010 =>
     refine Lib.hid ?_
     intro g0 A0 k0 g2 W HX
     refine wpAnyH_ready (rs := [4, 13]) (by kernel_rfl) (by simp) ?_
     refine AllReadyH.cons rfl (fun K hK => ?_) (AllReadyH.cons rfl (fun K hK => ?_) (AllReadyH.nil))
     · go_simp
       obtain ⟨g1, hgn⟩ : ∃ g, W.heap.size = g := ⟨_, rfl⟩
       have HX' := HX.fresh (i := 1) rfl (below_alloc _) (own_empty 2 W g1 hgn)
       refine hK.out _ _ (HKEEP.out _ HX'.bel) (fun hSx => ?_)
       clear hK K hSx HX
       try simp only [Act.put, pa, pz, ps]
       obtain ⟨V, hV⟩ : ∃ V, W.alloc (.cells #[] 2) = V := ⟨_, rfl⟩
       rw [hV] at HX' ⊢
       rw [hgn]
       clear hV hgn W
       obtain ⟨W, rfl⟩ : ∃ W, W = V := ⟨_, rfl⟩
       have HX := HX'
       clear HX'
       replace HX : Hx w2 W w2.heap.size [⟨2, A0, M, k0, lvs X⟩, ⟨2, some ⟨g1, 0, none⟩, 0, 0, []⟩, ⟨3, some ⟨g2, 0, none⟩, 0, 0, []⟩] := HX
       revert HX
       revert W
       revert g2
       revert g1
       revert k0
       revert A0
       revert g0
       exact t2110.out
     · go_simp
       obtain ⟨g9, hgn⟩ : ∃ g, W.heap.size = g := ⟨_, rfl⟩
       obtain ⟨V, hV⟩ : ∃ V, W.alloc (.cells #[.slice none 0 0, .slice none 0 0, .slice none 0 0] 29) = V := ⟨_, rfl⟩
       have hba : Below W.heap.size W V := by rw [← hV]; exact below_alloc _
       have HX' := HX.on hba
       have HA' : Blk V g9 29 #[.slice none 0 0, .slice none 0 0, .slice none 0 0] := by rw [← hV]; exact Blk.new hgn
       have lA' : w2.heap.size ≤ g9 := by rw [← hgn]; exact HX.bas
       refine hK.out _ _ (by rw [hV]; exact HKEEP.out _ HX'.bel) (fun hSx => ?_)
       clear hK K hSx hba HX
       try simp only [Act.put, pa, pz, ps]
       rw [hV]
       rw [hgn]
       clear hV hgn W
       obtain ⟨W, rfl⟩ : ∃ W, W = V := ⟨_, rfl⟩
       have HX := HX'
       have HA := HA'
       have lA := lA'
       clear HX' HA' lA'
       replace HX : Hx w2 W w2.heap.size [⟨2, A0, M, k0, lvs X⟩, ⟨2, none, 0, 0, []⟩, ⟨3, some ⟨g2, 0, none⟩, 0, 0, []⟩] := HX
       revert HA
       revert lA
       revert HX
       revert W
       revert g9
       revert g2
       revert k0
       revert A0
       revert g0
       exact t2011.out
    case pt2100 =>
     refine Lib.hid ?_
     intro g0 A0 k0 g1 W HX
     refine wpAnyH_ready (rs := [7, 8, 13]) (by kernel_rfl) (by simp) ?_
     refine AllReadyH.cons rfl (fun K hK => ?_) (AllReadyH.cons rfl (fun K hK => ?_) (AllReadyH.cons rfl (fun K hK => ?_) (AllReadyH.nil)))
     · refine step_appSrcH HX (by rfl) (.tmp 22) (.tmp 24) _ _ _ (by rfl) one_long.wide 1 0 0 (some ⟨g1, 0, none⟩) [] rfl (by rfl) AE N cE (lvs E) (by rfl) (HI1.out _ HX.bel) (by simp [HL1.out]) (fun u hu => by obtain ⟨x, _, rfl⟩ := List.mem_map.1 hu; rfl) (by omega) ?_
       intro A1 k1 V HY HB
       have HX' := HY.out
       refine hK.out _ _ (HKEEP.out _ HX'.bel) (fun hSx => ?_)
       clear hK K hSx HY HB HX W
       show wpAnyH _ _ _ _ _ _ _ (Act.put _ (some 25) _) _
       simp only [Act.put, pa, pz, ps, Nat.zero_add]
       simp only [Nat.zero_add, List.nil_append, List.set_cons_zero, List.set_cons_succ] at HX'
       obtain ⟨W, rfl⟩ : ∃ W, W = V := ⟨_, rfl⟩
       have HX := HX'
       clear HX'
       replace HX : Hx w2 W w2.heap.size [⟨2, A0, M, k0, lvs X⟩, ⟨2, A1, N, k1, lvs E⟩, ⟨3, none, 0, 0, []⟩] := HX
       revert HX
       revert W
       revert k1
       revert A1
       revert g1
       revert k0
       revert A0
       revert g0
       exact t2200.out
     · go_simp
       obtain ⟨g2, hgn⟩ : ∃ g, W.heap.size = g := ⟨_, rfl⟩
       have HX' := HX.fresh (i := 2) rfl (below_alloc _) (own_empty 3 W g2 hgn)
       refine hK.out _ _ (HKEEP.out _ HX'.bel) (fun hSx => ?_)
       clear hK K hSx HX
       try simp only [Act.put, pa, pz, ps]
       obtain ⟨V, hV⟩ : ∃ V, W.alloc (.cells #[] 3) = V := ⟨_, rfl⟩
       rw [hV] at HX' ⊢
       rw [hgn]
       clear hV hgn W
       obtain ⟨W, rfl⟩ : ∃ W, W = V := ⟨_, rfl⟩
       have HX := HX'
       clear HX'
       replace HX : Hx w2 W w2.heap.size [⟨2, A0, M, k0, lvs X⟩, ⟨2, some ⟨g1, 0, none⟩, 0, 0, []⟩, ⟨3, some ⟨g2, 0, none⟩, 0, 0, []⟩] := HX
       revert HX
       revert W
       revert g2
       revert g1
       revert k0
       revert A0
       revert g0
       exact t2110.out
     · go_simp
       obtain ⟨g9, hgn⟩ : ∃ g, W.heap.size = g := ⟨_, rfl⟩
       obtain ⟨V, hV⟩ : ∃ V, W.alloc (.cells #[.slice none 0 0, .slice none 0 0, .slice none 0 0] 29) = V := ⟨_, rfl⟩
       have hba : Below W.heap.size W V := by rw [← hV]; exact below_alloc _
       have HX' := HX.on hba
       have HA' : Blk V g9 29 #[.slice none 0 0, .slice none 0 0, .slice none 0 0] := by rw [← hV]; exact Blk.new hgn
       have lA' : w2.heap.size ≤ g9 := by rw [← hgn]; exact HX.bas
       refine hK.out _ _ (by rw [hV]; exact HKEEP.out _ HX'.bel) (fun hSx => ?_)
       clear hK K hSx hba HX
       try simp only [Act.put, pa, pz, ps]
       rw [hV]
       rw [hgn]
       clear hV hgn W
       obtain ⟨W, rfl⟩ : ∃ W, W = V := ⟨_, rfl⟩
       have HX := HX'
       have HA := HA'
       have lA := lA'
       clear HX' HA' lA'
       replace HX : Hx w2 W w2.heap.size [⟨2, A0, M, k0, lvs X⟩, ⟨2, some ⟨g1, 0, none⟩, 0, 0, []⟩, ⟨3, none, 0, 0, []⟩] := HX
       revert HA
       revert lA
       revert HX
       revert W
       revert g9
       revert g1
       revert k0
       revert A0
       revert g0
       exact t2101.out
    case pt1111 =>
     refine Lib.hid ?_
     intro g0 g1 g2 g9 W HX lA HA
     refine wpAnyH_ready (rs := [3]) (by kernel_rfl) (by simp) ?_
     refine AllReadyH.cons rfl (fun K hK => ?_) (AllReadyH.nil)
     · refine step_appSrcH HX (by rfl) (.tmp 18) (.tmp 20) _ _ _ (by rfl) one_long.wide 0 0 0 (some ⟨g0, 0, none⟩) [] rfl (by rfl) AX M cX (lvs X) (by rfl) (HI0.out _ HX.bel) (by simp [HL0.out]) (fun u hu => by obtain ⟨x, _, rfl⟩ := List.mem_map.1 hu; rfl) (by omega) ?_
       intro A0 k0 V HY HB
       have HX' := HY.out
       have HA' := HB.out _ _ _ HA (show (29 : TypeId) ≠ 2 by decide)
       have lA' := lA
       refine hK.out _ _ (HKEEP.out _ HX'.bel) (fun hSx => ?_)
       clear hK K hSx HY HB HX HA lA W
       show wpAnyH _ _ _ _ _ _ _ (Act.put _ (some 21) _) _
       simp only [Act.put, pa, pz, ps, Nat.zero_add]
       simp only [Nat.zero_add, List.nil_append, List.set_cons_zero] at HX'
       obtain ⟨W, rfl⟩ : ∃ W, W = V := ⟨_, rfl⟩
       have HX := HX'
       have HA := HA'
       have lA := lA'
       clear HX' HA' lA'
       replace HX : Hx w2 W w2.heap.size [⟨2, A0, M, k0, lvs X⟩, ⟨2, some ⟨g1, 0, none⟩, 0, 0, []⟩, ⟨3, some ⟨g2, 0, none⟩, 0, 0, []⟩] := HX
       revert HA
       revert lA
       revert HX
       revert W
       revert g9
       revert g2
       revert g1
       revert k0
       revert A0
       revert g0
       exact t2111.out
    case pt2011 =>
     refine Lib.hid ?_
     intro g0 A0 k0 g2 g9 W HX lA HA
     refine wpAnyH_ready (rs := [4]) (by kernel_rfl) (by simp) ?_
     refine AllReadyH.cons rfl (fun K hK => ?_) (AllReadyH.nil)
     · go_simp
       obtain ⟨g1, hgn⟩ : ∃ g, W.heap.size = g := ⟨_, rfl⟩
       have HX' := HX.fresh (i := 1) rfl (below_alloc _) (own_empty 2 W g1 hgn)
       have HA' := HA.alloc (.cells #[] 2)
       have lA' := lA
       refine hK.out _ _ (HKEEP.out _ HX'.bel) (fun hSx => ?_)
       clear hK K hSx HX HA lA
       try simp only [Act.put, pa, pz, ps]
       obtain ⟨V, hV⟩ : ∃ V, W.alloc (.cells #[] 2) = V := ⟨_, rfl⟩
       rw [hV] at HX' HA' ⊢
       rw [hgn]
       clear hV hgn W
       obtain ⟨W, rfl⟩ : ∃ W, W = V := ⟨_, rfl⟩
       have HX := HX'
       have HA := HA'
       have lA := lA'
       clear HX' HA' lA'
       replace HX : Hx w2 W w2.heap.size [⟨2, A0, M, k0, lvs X⟩, ⟨2, some ⟨g1, 0, none⟩, 0, 0, []⟩, ⟨3, some ⟨g2, 0, none⟩, 0, 0, []⟩] := HX
       revert HA
       revert lA
       revert HX
       revert W
       revert g9
       revert g2
       revert g1
       revert k0
       revert A0
       revert g0
       exact t2111.out
    case pt2101 =>
     refine Lib.hid ?_
     intro g0 A0 k0 g1 g9 W HX lA HA
     refine wpAnyH_ready (rs := [7, 8]) (by kernel_rfl) (by simp) ?_
     refine AllReadyH.cons rfl (fun K hK => ?_) (AllReadyH.cons rfl (fun K hK => ?_) (AllReadyH.nil))
     · refine step_appSrcH HX (by rfl) (.tmp 22) (.tmp 24) _ _ _ (by rfl) one_long.wide 1 0 0 (some ⟨g1, 0, none⟩) [] rfl (by rfl) AE N cE (lvs E) (by rfl) (HI1.out _ HX.bel) (by simp [HL1.out]) (fun u hu => by obtain ⟨x, _, rfl⟩ := List.mem_map.1 hu; rfl) (by omega) ?_
       intro A1 k1 V HY HB
       have HX' := HY.out
       have HA' := HB.out _ _ _ HA (show (29 : TypeId) ≠ 2 by decide)
       have lA' := lA
       refine hK.out _ _ (HKEEP.out _ HX'.bel) (fun hSx => ?_)
       clear hK K hSx HY HB HX HA lA W
       show wpAnyH _ _ _ _ _ _ _ (Act.put _ (some 25) _) _
       simp only [Act.put, pa, pz, ps, Nat.zero_add]
       simp only [Nat.zero_add, List.nil_append, List.set_cons_zero, List.set_cons_succ] at HX'
       obtain ⟨W, rfl⟩ : ∃ W, W = V := ⟨_, rfl⟩
       have HX := HX'
       have HA := HA'
       have lA := lA'
       clear HX' HA' lA'
       replace HX : Hx w2 W w2.heap.size [⟨2, A0, M, k0, lvs X⟩, ⟨2, A1, N, k1, lvs E⟩, ⟨3, none, 0, 0, []⟩] := HX
       revert HA
       revert lA
       revert HX
       revert W
       revert g9
       revert k1
       revert A1
       revert g1
       revert k0
       revert A0
       revert g0
       exact t2201.out
     · go_simp
       obtain ⟨g2, hgn⟩ : ∃ g, W.heap.size = g := ⟨_, rfl⟩
       have HX' := HX.fresh (i := 2) rfl (below_alloc _) (own_empty 3 W g2 hgn)
       have HA' := HA.alloc (.cells #[] 3)
       have lA' := lA
       refine hK.out _ _ (HKEEP.out _ HX'.bel) (fun hSx => ?_)
       clear hK K hSx HX HA lA
       try simp only [Act.put, pa, pz, ps]
       obtain ⟨V, hV⟩ : ∃ V, W.alloc (.cells #[] 3) = V := ⟨_, rfl⟩
       rw [hV] at HX' HA' ⊢
       rw [hgn]
       clear hV hgn W
       obtain ⟨W, rfl⟩ : ∃ W, W = V := ⟨_, rfl⟩
       have HX := HX'
       have HA := HA'
       have lA := lA'
       clear HX' HA' lA'
       replace HX : Hx w2 W w2.heap.size [⟨2, A0, M, k0, lvs X⟩, ⟨2, some ⟨g1, 0, none⟩, 0, 0, []⟩, ⟨3, some ⟨g2, 0, none⟩, 0, 0, []⟩] := HX
       revert HA
       revert lA
       revert HX
       revert W
       revert g9
       revert g2
       revert g1
       revert k0
       revert A0
       revert g0
       exact t2111.out
    case pt2110 =>
     refine Lib.hid ?_
     intro g0 A0 k0 g1 g2 W HX
     refine wpAnyH_ready (rs := [7, 13]) (by kernel_rfl) (by simp) ?_
     refine AllReadyH.cons rfl (fun K hK => ?_) (AllReadyH.cons rfl (fun K hK => ?_) (AllReadyH.nil))
     · refine step_appSrcH HX (by rfl) (.tmp 22) (.tmp 24) _ _ _ (by rfl) one_long.wide 1 0 0 (some ⟨g1, 0, none⟩) [] rfl (by rfl) AE N cE (lvs E) (by rfl) (HI1.out _ HX.bel) (by simp [HL1.out]) (fun u hu => by obtain ⟨x, _, rfl⟩ := List.mem_map.1 hu; rfl) (by omega) ?_
       intro A1 k1 V HY HB
       have HX' := HY.out
       refine hK.out _ _ (HKEEP.out _ HX'.bel) (fun hSx => ?_)
       clear hK K hSx HY HB HX W
       show wpAnyH _ _ _ _ _ _ _ (Act.put _ (some 25) _) _
       simp only [Act.put, pa, pz, ps, Nat.zero_add]
       simp only [Nat.zero_add, List.nil_append, List.set_cons_zero, List.set_cons_succ] at HX'
       obtain ⟨W, rfl⟩ : ∃ W, W = V := ⟨_, rfl⟩
       have HX := HX'
       clear HX'
       replace HX : Hx w2 W w2.heap.size [⟨2, A0, M, k0, lvs X⟩, ⟨2, A1, N, k1, lvs E⟩, ⟨3, some ⟨g2, 0, none⟩, 0, 0, []⟩] := HX
       revert HX
       revert W
       revert g2
       revert k1
       revert A1
       revert g1
       revert k0
       revert A0
       revert g0
       exact t2210.out
     · go_simp
       obtain ⟨g9, hgn⟩ : ∃ g, W.heap.size = g := ⟨_, rfl⟩
       obtain ⟨V, hV⟩ : ∃ V, W.alloc (.cells #[.slice none 0 0, .slice none 0 0, .slice none 0 0] 29) = V := ⟨_, rfl⟩
       have hba : Below W.heap.size W V := by rw [← hV]; exact below_alloc _
       have HX' := HX.on hba
       have HA' : Blk V g9 29 #[.slice none 0 0, .slice none 0 0, .slice none 0 0] := by rw [← hV]; exact Blk.new hgn
       have lA' : w2.heap.size ≤ g9 := by rw [← hgn]; exact HX.bas
       refine hK.out _ _ (by rw [hV]; exact HKEEP.out _ HX'.bel) (fun hSx => ?_)
       clear hK K hSx hba HX
       try simp only [Act.put, pa, pz, ps]
       rw [hV]
       rw [hgn]
       clear hV hgn W
       obtain ⟨W, rfl⟩ : ∃ W, W = V := ⟨_, rfl⟩
       have HX := HX'
       have HA := HA'
       have lA := lA'
       clear HX' HA' lA'
       replace HX : Hx w2 W w2.heap.size [⟨2, A0, M, k0, lvs X⟩, ⟨2, some ⟨g1, 0, none⟩, 0, 0, []⟩, ⟨3, some ⟨g2, 0, none⟩, 0, 0, []⟩] := HX
       revert HA
       revert lA
       revert HX
       revert W
       revert g9
       revert g2
       revert g1
       revert k0
       revert A0
       revert g0
       exact t2111.out
    case pt2200 =>
     refine Lib.hid ?_
     intro g0 A0 k0 g1 A1 k1 W HX
     refine wpAnyH_ready (rs := [8, 13]) (by kernel_rfl) (by simp) ?_
     refine AllReadyH.cons rfl (fun K hK => ?_) (AllReadyH.cons rfl (fun K hK => ?_) (AllReadyH.nil))
     · go_simp
       obtain ⟨g2, hgn⟩ : ∃ g, W.heap.size = g := ⟨_, rfl⟩
       have HX' := HX.fresh (i := 2) rfl (below_alloc _) (own_empty 3 W g2 hgn)
       refine hK.out _ _ (HKEEP.out _ HX'.bel) (fun hSx => ?_)
       clear hK K hSx HX
       try simp only [Act.put, pa, pz, ps]
       obtain ⟨V, hV⟩ : ∃ V, W.alloc (.cells #[] 3) = V := ⟨_, rfl⟩
       rw [hV] at HX' ⊢
       rw [hgn]
       clear hV hgn W
       obtain ⟨W, rfl⟩ : ∃ W, W = V := ⟨_, rfl⟩
       have HX := HX'
       clear HX'
       replace HX : Hx w2 W w2.heap.size [⟨2, A0, M, k0, lvs X⟩, ⟨2, A1, N, k1, lvs E⟩, ⟨3, some ⟨g2, 0, none⟩, 0, 0, []⟩] := HX
       revert HX
       revert W
       revert g2
       revert k1
       revert A1
       revert g1
       revert k0
       revert A0
       revert g0
       exact t2210.out
     · go_simp
       obtain ⟨g9, hgn⟩ : ∃ g, W.heap.size = g := ⟨_, rfl⟩
       obtain ⟨V, hV⟩ : ∃ V, W.alloc (.cells #[.slice none 0 0, .slice none 0 0, .slice none 0 0] 29) = V := ⟨_, rfl⟩
       have hba : Below W.heap.size W V := by rw [← hV]; exact below_alloc _
       have HX' := HX.on hba
       have HA' : Blk V g9 29 #[.slice none 0 0, .slice none 0 0, .slice none 0 0] := by rw [← hV]; exact Blk.new hgn
       have lA' : w2.heap.size ≤ g9 := by rw [← hgn]; exact HX.bas
       refine hK.out _ _ (by rw [hV]; exact HKEEP.out _ HX'.bel) (fun hSx => ?_)
       clear hK K hSx hba HX
       try simp only [Act.put, pa, pz, ps]
       rw [hV]
       rw [hgn]
       clear hV hgn W
       obtain ⟨W, rfl⟩ : ∃ W, W = V := ⟨_, rfl⟩
       have HX := HX'
       have HA := HA'
       have lA := lA'
       clear HX' HA' lA'
       replace HX : Hx w2 W w2.heap.size [⟨2, A0, M, k0, lvs X⟩, ⟨2, A1, N, k1, lvs E⟩, ⟨3, none, 0, 0, []⟩] := HX
       revert HA
       revert lA
       revert HX
       revert W
       revert g9
       revert k1
       revert A1
       revert g1
       revert k0
       revert A0
       revert g0
       exact t2201.out
    case pt2111 =>
     refine Lib.hid ?_
     intro g0 A0 k0 g1 g2 g9 W HX lA HA
     refine wpAnyH_ready (rs := [7]) (by kernel_rfl) (by simp) ?_
     refine AllReadyH.cons rfl (fun K hK => ?_) (AllReadyH.nil)
     · refine step_appSrcH HX (by rfl) (.tmp 22) (.tmp 24) _ _ _ (by rfl) one_long.wide 1 0 0 (some ⟨g1, 0, none⟩) [] rfl (by rfl) AE N cE (lvs E) (by rfl) (HI1.out _ HX.bel) (by simp [HL1.out]) (fun u hu => by obtain ⟨x, _, rfl⟩ := List.mem_map.1 hu; rfl) (by omega) ?_
       intro A1 k1 V HY HB
       have HX' := HY.out
       have HA' := HB.out _ _ _ HA (show (29 : TypeId) ≠ 2 by decide)
       have lA' := lA
       refine hK.out _ _ (HKEEP.out _ HX'.bel) (fun hSx => ?_)
       clear hK K hSx HY HB HX HA lA W
       show wpAnyH _ _ _ _ _ _ _ (Act.put _ (some 25) _) _
       simp only [Act.put, pa, pz, ps, Nat.zero_add]
       simp only [Nat.zero_add, List.nil_append, List.set_cons_zero, List.set_cons_succ] at HX'
       obtain ⟨W, rfl⟩ : ∃ W, W = V := ⟨_, rfl⟩
       have HX := HX'
       have HA := HA'
       have lA := lA'
       clear HX' HA' lA'
       replace HX : Hx w2 W w2.heap.size [⟨2, A0, M, k0, lvs X⟩, ⟨2, A1, N, k1, lvs E⟩, ⟨3, some ⟨g2, 0, none⟩, 0, 0, []⟩] := HX
       revert HA
       revert lA
       revert HX
       revert W
       revert g9
       revert g2
       revert k1
       revert A1
       revert g1
       revert k0
       revert A0
       revert g0
       exact t2211.out
    case pt2201 =>
     refine Lib.hid ?_
     intro g0 A0 k0 g1 A1 k1 g9 W HX lA HA
     refine wpAnyH_ready (rs := [8]) (by kernel_rfl) (by simp) ?_
     refine AllReadyH.cons rfl (fun K hK => ?_) (AllReadyH.nil)
     · go_simp
       obtain ⟨g2, hgn⟩ : ∃ g, W.heap.size = g := ⟨_, rfl⟩
       have HX' := HX.fresh (i := 2) rfl (below_alloc _) (own_empty 3 W g2 hgn)
       have HA' := HA.alloc (.cells #[] 3)
       have lA' := lA
       refine hK.out _ _ (HKEEP.out _ HX'.bel) (fun hSx => ?_)
       clear hK K hSx HX HA lA
       try simp only [Act.put, pa, pz, ps]
       obtain ⟨V, hV⟩ : ∃ V, W.alloc (.cells #[] 3) = V := ⟨_, rfl⟩
       rw [hV] at HX' HA' ⊢
       rw [hgn]
       clear hV hgn W
       obtain ⟨W, rfl⟩ : ∃ W, W = V := ⟨_, rfl⟩
       have HX := HX'
       have HA := HA'
       have lA := lA'
       clear HX' HA' lA'
       replace HX : Hx w2 W w2.heap.size [⟨2, A0, M, k0, lvs X⟩, ⟨2, A1, N, k1, lvs E⟩, ⟨3, some ⟨g2, 0, none⟩, 0, 0, []⟩] := HX
       revert HA
       revert lA
       revert HX
       revert W
       revert g9
       revert g2
       revert k1
       revert A1
       revert g1
       revert k0
       revert A0
       revert g0
       exact t2211.out
    case pt2210 =>
     refine Lib.hid ?_
     intro g0 A0 k0 g1 A1 k1 g2 W HX
     refine wpAnyH_ready (rs := [11, 13]) (by kernel_rfl) (by simp) ?_
     refine AllReadyH.cons rfl (fun K hK => ?_) (AllReadyH.cons rfl (fun K hK => ?_) (AllReadyH.nil))
     · refine step_appSrcH HX (by rfl) (.tmp 26) (.tmp 28) _ _ _ (by rfl) one_int.wide 2 0 0 (some ⟨g2, 0, none⟩) [] rfl (by rfl) AHH N cHH (lvs H) (by rfl) (HI2.out _ HX.bel) (by simp [HL2.out]) (fun u hu => by obtain ⟨x, _, rfl⟩ := List.mem_map.1 hu; rfl) (by omega) ?_
       intro A2 k2 V HY HB
       have HX' := HY.out
       refine hK.out _ _ (HKEEP.out _ HX'.bel) (fun hSx => ?_)
       clear hK K hSx HY HB HX W
       show wpAnyH _ _ _ _ _ _ _ (Act.put _ (some 29) _) _
       simp only [Act.put, pa, pz, ps, Nat.zero_add]
       simp only [Nat.zero_add, List.nil_append, List.set_cons_zero, List.set_cons_succ] at HX'
       obtain ⟨W, rfl⟩ : ∃ W, W = V := ⟨_, rfl⟩
       have HX := HX'
       clear HX'
       have hS0 := HKEEP.out _ HX.bel
       refine tk (v := ?_) 12 30 rfl ?_ ?_
       rotate_left
       · (intro W' hSw; obtain ⟨b0, b1, b2⟩ := hSw; go_simp; try with_reducible rfl)
       simp only [Act.put, pa, pz, ps]
       clear hS0
       replace HX : Hx w2 W w2.heap.size [⟨2, A0, M, k0, lvs X⟩, ⟨2, A1, N, k1, lvs E⟩, ⟨3, A2, N, k2, lvs H⟩] := HX
       revert HX
       revert W
       revert k2
       revert A2
       revert g2
       revert k1
       revert A1
       revert g1
       revert k0
       revert A0
       revert g0
       exact t2220.out
     · go_simp
       obtain ⟨g9, hgn⟩ : ∃ g, W.heap.size = g := ⟨_, rfl⟩
       obtain ⟨V, hV⟩ : ∃ V, W.alloc (.cells #[.slice none 0 0, .slice none 0 0, .slice none 0 0] 29) = V := ⟨_, rfl⟩
       have hba : Below W.heap.size W V := by rw [← hV]; exact below_alloc _
       have HX' := HX.on hba
       have HA' : Blk V g9 29 #[.slice none 0 0, .slice none 0 0, .slice none 0 0] := by rw [← hV]; exact Blk.new hgn
       have lA' : w2.heap.size ≤ g9 := by rw [← hgn]; exact HX.bas
       refine hK.out _ _ (by rw [hV]; exact HKEEP.out _ HX'.bel) (fun hSx => ?_)
       clear hK K hSx hba HX
       try simp only [Act.put, pa, pz, ps]
       rw [hV]
       rw [hgn]
       clear hV hgn W
       obtain ⟨W, rfl⟩ : ∃ W, W = V := ⟨_, rfl⟩
       have HX := HX'
       have HA := HA'
       have lA := lA'
       clear HX' HA' lA'
       replace HX : Hx w2 W w2.heap.size [⟨2, A0, M, k0, lvs X⟩, ⟨2, A1, N, k1, lvs E⟩, ⟨3, some ⟨g2, 0, none⟩, 0, 0, []⟩] := HX
       revert HA
       revert lA
       revert HX
       revert W
       revert g9
       revert g2
       revert k1
       revert A1
       revert g1
       revert k0
       revert A0
       revert g0
       exact t2211.out
    case pt2211 =>
     refine Lib.hid ?_
     intro g0 A0 k0 g1 A1 k1 g2 g9 W HX lA HA
     refine wpAnyH_ready (rs := [11]) (by kernel_rfl) (by simp) ?_
     refine AllReadyH.cons rfl (fun K hK => ?_) (AllReadyH.nil)
     · refine step_appSrcH HX (by rfl) (.tmp 26) (.tmp 28) _ _ _ (by rfl) one_int.wide 2 0 0 (some ⟨g2, 0, none⟩) [] rfl (by rfl) AHH N cHH (lvs H) (by rfl) (HI2.out _ HX.bel) (by simp [HL2.out]) (fun u hu => by obtain ⟨x, _, rfl⟩ := List.mem_map.1 hu; rfl) (by omega) ?_
       intro A2 k2 V HY HB
       have HX' := HY.out
       have HA' := HB.out _ _ _ HA (show (29 : TypeId) ≠ 3 by decide)
       have lA' := lA
       refine hK.out _ _ (HKEEP.out _ HX'.bel) (fun hSx => ?_)
       clear hK K hSx HY HB HX HA lA W
       show wpAnyH _ _ _ _ _ _ _ (Act.put _ (some 29) _) _
       simp only [Act.put, pa, pz, ps, Nat.zero_add]
       simp only [Nat.zero_add, List.nil_append, List.set_cons_zero, List.set_cons_succ] at HX'
       obtain ⟨W, rfl⟩ : ∃ W, W = V := ⟨_, rfl⟩
       have HX := HX'
       have HA := HA'
       have lA := lA'
       clear HX' HA' lA'
       have hS0 := HKEEP.out _ HX.bel
       refine tk (v := ?_) 12 30 rfl ?_ ?_
       rotate_left
       · (intro W' hSw; obtain ⟨b0, b1, b2⟩ := hSw; go_simp; try with_reducible rfl)
       simp only [Act.put, pa, pz, ps]
       clear hS0
       replace HX : Hx w2 W w2.heap.size [⟨2, A0, M, k0, lvs X⟩, ⟨2, A1, N, k1, lvs E⟩, ⟨3, A2, N, k2, lvs H⟩] := HX
       revert HA
       revert lA
       revert HX
       revert W
       revert g9
       revert k2
       revert A2
       revert g2
       revert k1
       revert A1
       revert g1
       revert k0
       revert A0
       revert g0
       exact t2221.out
    case pt2220 =>
     refine Lib.hid ?_
     intro g0 A0 k0 g1 A1 k1 g2 A2 k2 W HX
     refine wpAnyH_ready (rs := [13]) (by kernel_rfl) (by simp) ?_
     refine AllReadyH.cons rfl (fun K hK => ?_) (AllReadyH.nil)
     · go_simp
       obtain ⟨g9, hgn⟩ : ∃ g, W.heap.size = g := ⟨_, rfl⟩
       obtain ⟨V, hV⟩ : ∃ V, W.alloc (.cells #[.slice none 0 0, .slice none 0 0, .slice none 0 0] 29) = V := ⟨_, rfl⟩
       have hba : Below W.heap.size W V := by rw [← hV]; exact below_alloc _
       have HX' := HX.on hba
       have HA' : Blk V g9 29 #[.slice none 0 0, .slice none 0 0, .slice none 0 0] := by rw [← hV]; exact Blk.new hgn
       have lA' : w2.heap.size ≤ g9 := by rw [← hgn]; exact HX.bas
       refine hK.out _ _ (by rw [hV]; exact HKEEP.out _ HX'.bel) (fun hSx => ?_)
       clear hK K hSx hba HX
       try simp only [Act.put, pa, pz, ps]
       rw [hV]
       rw [hgn]
       clear hV hgn W
       obtain ⟨W, rfl⟩ : ∃ W, W = V := ⟨_, rfl⟩
       have HX := HX'
       have HA := HA'
       have lA := lA'
       clear HX' HA' lA'
       replace HX : Hx w2 W w2.heap.size [⟨2, A0, M, k0, lvs X⟩, ⟨2, A1, N, k1, lvs E⟩, ⟨3, A2, N, k2, lvs H⟩] := HX
       revert HA
       revert lA
       revert HX
       revert W
       revert g9
       revert k2
       revert A2
       revert g2
       revert k1
       revert A1
       revert g1
       revert k0
       revert A0
       revert g0
       exact t2221.out
    case pt2221 =>
     refine Lib.hid ?_
     intro g0 A0 k0 g1 A1 k1 g2 A2 k2 g9 W HX lA HA
     have hS0 := HKEEP.out _ HX.bel
     have HY : Hx w2 W w2.heap.size (pstR M N N ⟨A0, k0, A1, k1, A2, k2⟩ X E H) := HX
     clear HX
     obtain ⟨⟨q0, q1, q2⟩, ⟨f0, f1, f2⟩, hz1⟩ := HA.full3
     refine wpAnyH_ready (rs := [14]) (by kernel_rfl) (by simp) ?_
     refine AllReadyH.cons rfl (fun K hK => ?_) AllReadyH.nil
     go_simp
     have HX4 := HY.put3 (x := .slice A0 M k0) (y := .slice A1 N k1) (z := .slice A2 N k2) HA pst_ne lA
     have HA4 := HA.put3 (x := .slice A0 M k0) (y := .slice A1 N k1) (z := .slice A2 N k2)
     refine hK.out _ _ (HKEEP.out _ HX4.bel) (fun hSx => ?_)
     clear hK K hSx hS0 q0 q1 q2 f0 f1 f2 hz1 HY HA
     try simp only [Act.put, pa, pz, ps]
     refine wpAnyH_done (by kernel_rfl) ?_ _
     dsimp only [put3] at HX4 HA4
     generalize ((W.setCell ⟨g9, 0, none⟩ (.slice A0 M k0)).setCell ⟨g9, 1, none⟩ (.slice A1 N k1)).setCell ⟨g9, 2, none⟩ (.slice A2 N k2) = w5 at *
     have HX5 := Lib.hid HX4; have HA5 := Lib.hid HA4
     clear HX4 HA4 HKEEP HI0 HI1 HI2
     obtain ⟨g1, hg1⟩ := own_some (HX5.out.held.own 1 _ rfl) (show 0 < N by have := HG.out.n2; omega)
     obtain ⟨g2, hg2⟩ := own_some (HX5.out.held.own 2 _ rfl) (show 0 < N by have := HG.out.n2; omega)
     have hX0 : 0 < M → ∃ gX, A0 = some ⟨gX, 0, none⟩ := fun h => own_some (HX5.out.held.own 0 _ rfl) h
     subst hg1; subst hg2
     rcases legI_what HLI.out with hw | hw
     · dsimp only at hw
       subst hw
       obtain ⟨hv, hr, hp⟩ := legI_push HLI.out rfl
       obtain ⟨u, a, hu, ha, h1, h2, h3, h4, h5, h6, h7⟩ := push_lies HG.out hv hr
       dsimp only at hu ha
       subst hu; subst ha
       obtain ⟨pp1, pp2, pp3, pp4, pp5⟩ := hp
       dsimp only at pp1 pp2 pp3 pp4 pp5
       simp only [Int.toNat_natCast] at pp2 pp3
       have hfit := move_fit HG.out HS.out.bal HS.out.le HS.out.exc h4 (d := d0) (by omega) pp3
       rw [h7] at hfit
       obtain ⟨gX, hgX⟩ := hX0 (by omega)
       subst hgX
       have hlx := HLS.out.1; have hle := HLS.out.2.1
       obtain ⟨qr, hqr⟩ : ∃ q, rv a = q := ⟨_, rfl⟩
       obtain ⟨vv, hvv⟩ : ∃ v, hd a = v := ⟨_, rfl⟩
       have hqM : qr < M := by rw [← hqr]; exact HG.out.g.rvl a h4
       have hvN : vv < N := by rw [← hvv]; exact HG.out.g.hdl a h4
       have hqa : a ≠ qr := fun e => HG.out.rne h4 (by rw [hqr, ← e])
       have huv : u ≠ vv := fun e => HG.out.nol a h4 (by rw [h7, hvv, e])
       rw [hqr, hvv] at hfit
       obtain ⟨x, hx⟩ : ∃ x, hOf X a = x := ⟨_, rfl⟩
       obtain ⟨y, hy⟩ : ∃ x, hOf X qr = x := ⟨_, rfl⟩
       obtain ⟨eu, heu⟩ : ∃ x, hOf E u = x := ⟨_, rfl⟩
       obtain ⟨ev, hev⟩ : ∃ x, hOf E vv = x := ⟨_, rfl⟩
       rw [hx, hy, heu, hev] at hfit
       obtain ⟨t1, t2, t3, t4⟩ := hfit
       have s1 : IntKind.i64.wrap (x - d0) = x - d0 := by unfold InR at t1; exact wrap_in (by omega) (by omega)
       have s2 : IntKind.i64.wrap (y + d0) = y + d0 := by unfold InR at t2; exact wrap_in (by omega) (by omega)
       have s3 : IntKind.i64.wrap (eu - d0) = eu - d0 := by unfold InR at t3; exact wrap_in (by omega) (by omega)
       have s4 : IntKind.i64.wrap (ev + d0) = ev + d0 := by unfold InR at t4; exact wrap_in (by omega) (by omega)
       have hmx : (X.set a (x - d0)).set qr (y + d0) = mvX rv X a d0 := by unfold mvX; rw [hqr, hx, hy]
       have hme : (E.set u (eu - d0)).set vv (ev + d0) = mvE hd rv E a d0 := by unfold mvE; rw [h7, hvv, heu, hev]
       have HMX := Lib.hid (And.intro hmx hme); have HXV := Lib.hid (And.intro hx (And.intro hy (And.intro heu hev))); have HHD := Lib.hid (And.intro hqr hvv)
       have ha0 : (0 : Int) ≤ (a : Int) := by omega
       have haM : (a : Int) < (M : Int) := by omega
       have hu0 : (0 : Int) ≤ (u : Int) := by omega
       have huN : (u : Int) < (N : Int) := by omega
       have hq0 : (0 : Int) ≤ (qr : Int) := by omega
       have hqM' : (qr : Int) < (M : Int) := by omega
       have hv0 : (0 : Int) ≤ (vv : Int) := by omega
       have hvN' : (vv : Int) < (N : Int) := by omega
       clear hmx hme hx hy heu hev hqr hvv t1 t2 t3 t4 hv hr pp1 pp2 pp3 pp4 pp5 h2 h3 h5 h6 h7 hX0
       obtain ⟨bR, oR, hAR⟩ := HI.out.iR.adr (by omega)
       dsimp only at hAR
       subst hAR
       obtain ⟨bH, oH, hAH⟩ := HI.out.iH.adr (by omega)
       dsimp only at hAH
       subst hAH
       have hcr := fun W (hb : Below w2.heap.size w2 W) => tab_cell ((HI.out.on HB2.out).on hb).iR h4
       have hch := fun W (hb : Below w2.heap.size w2 W) => tab_cell ((HI.out.on HB2.out).on hb).iH h4
       rw [HHD.out.1] at hcr; rw [HHD.out.2] at hch
       have HCR := Lib.hid hcr; have HCH := Lib.hid hch
       clear hcr hch
       have hgg : g9 ≠ gX ∧ g9 ≠ g1 := ⟨fun e => own_apart (HX5.out.held.own 0 _ rfl) HA5.out (show (2 : TypeId) ≠ 29 by decide) e, fun e => own_apart (HX5.out.held.own 1 _ rfl) HA5.out (show (2 : TypeId) ≠ 29 by decide) e⟩
       have HGG := Lib.hid hgg
       clear hgg
       obtain ⟨cv, fv, zv, -⟩ := HX5.out.cell (i := 0) (j := a) rfl (by omega) (lvs_at (by rw [HLS.out.1]; omega))
       rw [HXV.out.1] at cv
       obtain ⟨⟨q0, q1, q2⟩, -, zq⟩ := HA5.out.full3
       obtain ⟨e0, e1, e2, e3, e4, e5, e6⟩ := (HE2.out.below HX5.out.bel HE2.out.lt).at7
       have ze := (HE2.out.below HX5.out.bel HE2.out.lt).lt
       go_upto_region 8 with fail
       go_still_tail 14, (by kernel_rfl)
       change wpList _ _ _ _ _ w5.drew
       have xX := HX5.out.drew 1
       have xA := HA5.out.below (Below.refl _ _).drew HA5.out.lt
       obtain ⟨w6, hwd⟩ : ∃ W, w5.drew = W := ⟨_, rfl⟩
       replace xX : Hx w2 w5.drew _ _ := xX
       rw [hwd] at xX xA ⊢
       clear cv fv zv q0 q1 q2 zq e0 e1 e2 e3 e4 e5 e6 ze hwd 
       obtain ⟨cv, fv, zv, -⟩ := xX.cell (i := 0) (j := a) rfl (by omega) (lvs_at (by rw [HLS.out.1]; omega))
       go_upto_region 9 with fail
       obtain ⟨w7, hwn⟩ : ∃ W, w6.setCell ⟨gX, a, none⟩ (.int .i64 (x - d0)) = W := ⟨_, rfl⟩
       have yX := xX.putX a (x - d0)
       have yA := xA.far (p := ⟨gX, a, none⟩) HGG.out.1 (.int .i64 (x - d0))
       rw [hwn] at yX yA ⊢
       have HX7 := Lib.hid yX; have HA7 := Lib.hid yA
       clear hwn xX xA yX yA cv fv zv HX5 HA5
       obtain ⟨cv, fv, zv, -⟩ := HX7.out.cell (i := 0) (j := qr) rfl (by omega) (lvs_at (by rw [List.length_set, HLS.out.1]; omega))
       rw [hOf_put (by rw [HLS.out.1]; omega), if_neg hqa, HXV.out.2.1] at cv
       obtain ⟨⟨q0, q1, q2⟩, -, zq⟩ := HA7.out.full3
       obtain ⟨e0, e1, e2, e3, e4, e5, e6⟩ := (HE2.out.below HX7.out.bel HE2.out.lt).at7
       have ze := (HE2.out.below HX7.out.bel HE2.out.lt).lt
       obtain ⟨c0, c1, c2, c3, c4, c5, c6, c7, c8⟩ := (HC2.out.below HX7.out.bel HC2.out.lt).at9
       obtain ⟨zt, ct⟩ := HCR.out _ HX7.out.bel
       go_upto_region 9 with fail
       go_still_tail 22, (by kernel_rfl)
       change wpList _ _ _ _ _ w7.drew
       have xX := HX7.out.drew 1
       have xA := HA7.out.below (Below.refl _ _).drew HA7.out.lt
       obtain ⟨w8, hwd⟩ : ∃ W, w7.drew = W := ⟨_, rfl⟩
       replace xX : Hx w2 w7.drew _ _ := xX
       rw [hwd] at xX xA ⊢
       clear cv fv zv q0 q1 q2 zq e0 e1 e2 e3 e4 e5 e6 ze hwd c0 c1 c2 c3 c4 c5 c6 c7 c8 zt ct
       obtain ⟨cv, fv, zv, -⟩ := xX.cell (i := 0) (j := qr) rfl (by omega) (lvs_at (by rw [List.length_set, HLS.out.1]; omega))
       go_upto_region 10 with fail
       obtain ⟨w9, hwn⟩ : ∃ W, w8.setCell ⟨gX, qr, none⟩ (.int .i64 (y + d0)) = W := ⟨_, rfl⟩
       have yX := xX.putX qr (y + d0)
       have yA := xA.far (p := ⟨gX, qr, none⟩) HGG.out.1 (.int .i64 (y + d0))
       rw [hwn] at yX yA ⊢
       have HX9 := Lib.hid yX; have HA9 := Lib.hid yA
       clear hwn xX xA yX yA cv fv zv HX7 HA7
       obtain ⟨cv, fv, zv, -⟩ := HX9.out.cell (i := 1) (j := u) rfl (by omega) (lvs_at (by rw [HLS.out.2.1]; omega))
       rw [HXV.out.2.2.1] at cv
       obtain ⟨⟨q0, q1, q2⟩, -, zq⟩ := HA9.out.full3
       obtain ⟨e0, e1, e2, e3, e4, e5, e6⟩ := (HE2.out.below HX9.out.bel HE2.out.lt).at7
       have ze := (HE2.out.below HX9.out.bel HE2.out.lt).lt
       go_upto_region 10 with fail
       go_still_tail 14, (by kernel_rfl)
       change wpList _ _ _ _ _ w9.drew
       have xX := HX9.out.drew 1
       have xA := HA9.out.below (Below.refl _ _).drew HA9.out.lt
       obtain ⟨w10, hwd⟩ : ∃ W, w9.drew = W := ⟨_, rfl⟩
       replace xX : Hx w2 w9.drew _ _ := xX
       rw [hwd] at xX xA ⊢
       clear cv fv zv q0 q1 q2 zq e0 e1 e2 e3 e4 e5 e6 ze hwd 
       obtain ⟨cv, fv, zv, -⟩ := xX.cell (i := 1) (j := u) rfl (by omega) (lvs_at (by rw [HLS.out.2.1]; omega))
       go_upto_region 11 with fail
       obtain ⟨w11, hwn⟩ : ∃ W, w10.setCell ⟨g1, u, none⟩ (.int .i64 (eu - d0)) = W := ⟨_, rfl⟩
       have yX := xX.putE u (eu - d0)
       have yA := xA.far (p := ⟨g1, u, none⟩) HGG.out.2 (.int .i64 (eu - d0))
       rw [hwn] at yX yA ⊢
       have HX11 := Lib.hid yX; have HA11 := Lib.hid yA
       clear hwn xX xA yX yA cv fv zv HX9 HA9
       obtain ⟨cv, fv, zv, -⟩ := HX11.out.cell (i := 1) (j := vv) rfl (by omega) (lvs_at (by rw [List.length_set, HLS.out.2.1]; omega))
       rw [hOf_put (by rw [HLS.out.2.1]; omega), if_neg huv, HXV.out.2.2.2] at cv
       obtain ⟨⟨q0, q1, q2⟩, -, zq⟩ := HA11.out.full3
       obtain ⟨e0, e1, e2, e3, e4, e5, e6⟩ := (HE2.out.below HX11.out.bel HE2.out.lt).at7
       have ze := (HE2.out.below HX11.out.bel HE2.out.lt).lt
       obtain ⟨c0, c1, c2, c3, c4, c5, c6, c7, c8⟩ := (HC2.out.below HX11.out.bel HC2.out.lt).at9
       obtain ⟨zt, ct⟩ := HCH.out _ HX11.out.bel
       go_upto_region 11 with fail
       go_still_tail 22, (by kernel_rfl)
       change wpList _ _ _ _ _ w11.drew
       have xX := HX11.out.drew 1
       have xA := HA11.out.below (Below.refl _ _).drew HA11.out.lt
       obtain ⟨w12, hwd⟩ : ∃ W, w11.drew = W := ⟨_, rfl⟩
       replace xX : Hx w2 w11.drew _ _ := xX
       rw [hwd] at xX xA ⊢
       clear cv fv zv q0 q1 q2 zq e0 e1 e2 e3 e4 e5 e6 ze hwd c0 c1 c2 c3 c4 c5 c6 c7 c8 zt ct
       obtain ⟨cv, fv, zv, -⟩ := xX.cell (i := 1) (j := vv) rfl (by omega) (lvs_at (by rw [List.length_set, HLS.out.2.1]; omega))
       go_upto_region 12 with fail
       obtain ⟨w13, hwn⟩ : ∃ W, w12.setCell ⟨g1, vv, none⟩ (.int .i64 (ev + d0)) = W := ⟨_, rfl⟩
       have yX := xX.putE vv (ev + d0)
       have yA := xA.far (p := ⟨g1, vv, none⟩) HGG.out.2 (.int .i64 (ev + d0))
       rw [hwn] at yX yA ⊢
       have HX13 := Lib.hid yX; have HA13 := Lib.hid yA
       clear hwn xX xA yX yA cv fv zv HX11 HA11
       have RR := Lib.hid (HR2.out.below HX13.out.bel HR2.out.lt)
       obtain ⟨⟨q0, q1, q2⟩, -, zq⟩ := HA13.out.full3
       obtain ⟨⟨r0, r1, r2⟩, ⟨f0, f1, f2⟩, hz⟩ := RR.out.full3
       go_wp2_with fail
       have HXW := (HX13.out.low (base' := w.heap.size) (w1 := w) HB2.out.size HB2.out).put3 (x := .slice (some ⟨gX, 0, none⟩) M k0) (y := .slice (some ⟨g1, 0, none⟩) N k1) (z := .slice (some ⟨g2, 0, none⟩) N k2) RR.out pst_ne (by omega)
       have R11 := RR.out.put3 (x := .slice (some ⟨gX, 0, none⟩) M k0) (y := .slice (some ⟨g1, 0, none⟩) N k1) (z := .slice (some ⟨g2, 0, none⟩) N k2)
       obtain ⟨⟨k0', k1', k2'⟩, -, -⟩ := R11.full3
       refine bodyPost_ret (v := .tuple #[.agg #[.slice (some ⟨gX, 0, none⟩) M k0, .slice (some ⟨g1, 0, none⟩) N k1, .slice (some ⟨g2, 0, none⟩) N k2], .int .i64 0]) (by simp [results, Try.results14, go_sem, k0', k1', k2']) rfl ⟨⟨(some ⟨gX, 0, none⟩), k0, some ⟨g1, 0, none⟩, k1, some ⟨g2, 0, none⟩, k2⟩, rfl, HXW.bel, ?_, .inr HXW.offP⟩
       have hst := HXW.st (by rw [List.length_set, List.length_set]; exact HLS.out.1) (by rw [List.length_set, List.length_set]; exact HLS.out.2.1) HLS.out.2.2
       rw [HYS.out.1, HYS.out.2.1, HYS.out.2.2]
       unfold movX movE movH
       rw [if_neg (show ¬ (1 : Int) = 2 by decide), if_neg (show ¬ (1 : Int) = 2 by decide), if_neg (show ¬ (1 : Int) = 2 by decide)]
       dsimp only
       rw [Int.toNat_natCast, ← HMX.out.1, ← HMX.out.2]
       exact hst
     · dsimp only at hw
       subst hw
       obtain ⟨hv, hp⟩ := legI_lift HLI.out rfl
       obtain ⟨⟨hv1, hv2⟩, -, -⟩ := hv
       dsimp only at hv1 hv2
       obtain ⟨u, hu⟩ := Int.eq_ofNat_of_zero_le hv1
       subst hu
       have huN : (u : Int) < (N : Int) := hv2
       have hu0 : (0 : Int) ≤ (u : Int) := hv1
       clear hv1 hv2 hp hX0
       have hgg : g9 ≠ g2 := fun e => own_apart (HX5.out.held.own 2 _ rfl) HA5.out (show (3 : TypeId) ≠ 29 by decide) e
       obtain ⟨cv, fv, zv, -⟩ := HX5.out.cell (i := 2) (j := u) rfl (by omega) (lvs_at (by rw [HLS.out.2.2]; omega))
       obtain ⟨⟨q0, q1, q2⟩, -, zq⟩ := HA5.out.full3
       obtain ⟨e0, e1, e2, e3, e4, e5, e6⟩ := (HE2.out.below HX5.out.bel HE2.out.lt).at7
       have ze := (HE2.out.below HX5.out.bel HE2.out.lt).lt
       go_upto_region 7 with fail
       obtain ⟨w6, hw6⟩ : ∃ W, w5.setCell ⟨g2, u, none⟩ (.int .i64 h0) = W := ⟨_, rfl⟩
       have yX := HX5.out.putH u h0
       have yA := HA5.out.far (p := ⟨g2, u, none⟩) hgg (.int .i64 h0)
       rw [hw6] at yX yA ⊢
       have HX6 := Lib.hid yX; have HA6 := Lib.hid yA
       clear hw6 yX yA cv fv zv q0 q1 q2 zq e0 e1 e2 e3 e4 e5 e6 ze HX5 HA5
       have RR := Lib.hid (HR2.out.below HX6.out.bel HR2.out.lt)
       obtain ⟨⟨q0, q1, q2⟩, -, zq⟩ := HA6.out.full3
       obtain ⟨⟨r0, r1, r2⟩, ⟨f0, f1, f2⟩, hz⟩ := RR.out.full3
       go_wp2_with fail
       have HXW := (HX6.out.low (base' := w.heap.size) (w1 := w) HB2.out.size HB2.out).put3 (x := .slice A0 M k0) (y := .slice (some ⟨g1, 0, none⟩) N k1) (z := .slice (some ⟨g2, 0, none⟩) N k2) RR.out pst_ne (by omega)
       have R11 := RR.out.put3 (x := .slice A0 M k0) (y := .slice (some ⟨g1, 0, none⟩) N k1) (z := .slice (some ⟨g2, 0, none⟩) N k2)
       obtain ⟨⟨k0', k1', k2'⟩, -, -⟩ := R11.full3
       refine bodyPost_ret (v := .tuple #[.agg #[.slice A0 M k0, .slice (some ⟨g1, 0, none⟩) N k1, .slice (some ⟨g2, 0, none⟩) N k2], .int .i64 0]) (by simp [results, Try.results14, go_sem, k0', k1', k2']) rfl ⟨⟨A0, k0, some ⟨g1, 0, none⟩, k1, some ⟨g2, 0, none⟩, k2⟩, rfl, HXW.bel, ?_, .inr HXW.offP⟩
       have hst := HXW.st HLS.out.1 HLS.out.2.1 (by rw [List.length_set]; exact HLS.out.2.2)
       rw [HYS.out.1, HYS.out.2.1, HYS.out.2.2]
       unfold movX movE movH
       rw [if_pos rfl, if_pos rfl, if_pos rfl]
       exact hst
  · have hr1 : (r != 0) = true := by simpa using hr0
    have HSQ := Lib.hid (HNO.out hr0)
    clear HNO HYES HLEN hr0
    go_wp2_with fail
    have R11 := HR2.out.put3 (x := .slice AX M cX) (y := .slice AE N cE) (z := .slice AHH N cHH)
    obtain ⟨⟨k0, k1, k2⟩, -, -⟩ := R11.full3
    have BW := below_put3 (g := w.heap.size + 1 + 1 + 1) (x := .slice AX M cX) (y := .slice AE N cE) (z := .slice AHH N cHH) HB2.out (by omega)
    refine bodyPost_ret (v := .tuple #[.agg #[.slice AX M cX, .slice AE N cE, .slice AHH N cHH], .int .i64 r]) (by simp [results, Try.results14, go_sem, k0, k1, k2]) rfl ⟨⟨AX, cX, AE, cE, AHH, cHH⟩, rfl, BW, HSQ.out _ BW, .inl rfl⟩

theorem tmove_is (N M s t : Nat) (K : CsrS) (Q : PreS) (fst hd rv ai : Nat → Nat) (cp : Nat → Int) (bk : Nat → Bool) (X E H : List Int) (ev : EvS) (w : World) (hG : PNet N M s t fst hd rv ai cp bk) (hI : GridIn w w.heap.size N M K fst hd rv) (hQ : StIn w w.heap.size M N N Q X E H) (hS : SndIs N M s t hd rv cp X E H) :
    Calls Try.prog 14 #[csrW N M s t K, preW M N N Q, evW ev] w (RetMove N M s t fst hd rv X E H ev w) := by
  refine (tmoveX_is N M s t K Q fst hd rv ai cp bk X E H ev w hG hI hQ hS).mono fun e w' h => ?_
  obtain ⟨Q', h1, h2, h3, -⟩ := h
  exact ⟨Q', h1, h2, h3⟩
end Go.Proofs.Ytanifbofjecpmaa

/-! Trun -/
namespace Go.Proofs.Ytanifbofjecpmaa
open Go.RowKit Go.Shelf
set_option maxRecDepth 100000

set_option maxHeartbeats 16000000 in
theorem trun_is (N M s t n c : Nat) (K : CsrS) (Q : PreS) (AL : Option Addr) (l : List EvS) (fst hd rv ai : Nat → Nat) (cp : Nat → Int) (bk : Nat → Bool) (X E H : List Int) (w : World) (hG : PNet N M s t fst hd rv ai cp bk) (hI : GridIn w w.heap.size N M K fst hd rv) (hQ : StIn w w.heap.size M N N Q X E H) (hS : SndIs N M s t hd rv cp X E H) (hL : Evs w w.heap.size AL n l) (hn : n ≤ 1000000) :
    Calls Try.prog 20 #[csrW N M s t K, preW M N N Q, .slice AL n c] w (RetRun M N (runTo N s t fst hd rv l X E H) w) := by
  have hmo := fun (Q : PreS) X E H ev W (hb : Below w.heap.size w W) (hq : StIn W W.heap.size M N N Q X E H) hs => tmove_is N M s t K Q fst hd rv ai cp bk X E H ev W hG (hI.on hb) hq hs
  have HMO := Lib.hid hmo; have HG := Lib.hid hG; have HL := Lib.hid hL
  obtain ⟨R, hR⟩ : ∃ R, runTo N s t fst hd rv l X E H = R := ⟨_, rfl⟩
  rw [hR]
  have HR := Lib.hid hR
  unfold RetRun
  obtain ⟨AF, cF, AH, cH, AR, cR, AC, cC, AA, cA, AB, cB⟩ := K
  obtain ⟨AX, cX, AE, cE, AHH, cHH⟩ := Q
  dsimp only [csrW, preW, evW] at HMO ⊢
  go_enter Try.func20, Try.ntmps20
  go_upto_region 1 with fail
  obtain ⟨w1, hw1⟩ : ∃ w1, (((w.alloc (.cells #[.int .i64 (N : Int), .int .i64 (s : Int), .int .i64 (t : Int), .slice AF (N + 1) cF, .slice AH M cH, .slice AR M cR, .slice AC M cC, .slice AA M cA, .slice AB M cB] 32)).alloc (.cells #[.slice AX M cX, .slice AE N cE, .slice AHH N cHH] 29)).alloc (.cells #[.slice none 0 0, .slice none 0 0, .slice none 0 0] 29)) = w1 := ⟨_, rfl⟩
  have B1 : Below w.heap.size w w1 := by rw [← hw1]; exact (((Below.refl _ w).alloc (Nat.le_refl _) _).alloc (by simp) _).alloc (by simp; omega) _
  have C1 : Blk w1 w.heap.size 32 #[.int .i64 (N : Int), .int .i64 (s : Int), .int .i64 (t : Int), .slice AF (N + 1) cF, .slice AH M cH, .slice AR M cR, .slice AC M cC, .slice AA M cA, .slice AB M cB] := by rw [← hw1]; exact ((Blk.new rfl).alloc _).alloc _
  have P1 : Blk w1 (w.heap.size + 1) 29 #[.slice AX M cX, .slice AE N cE, .slice AHH N cHH] := by rw [← hw1]; exact (Blk.new (by simp)).alloc _
  have R1 : Blk w1 (w.heap.size + 1 + 1) 29 #[.slice none 0 0, .slice none 0 0, .slice none 0 0] := by rw [← hw1]; exact Blk.new (by simp)
  have V1 : LpI w N M s t ⟨AF, cF, AH, cH, AR, cR, AC, cC, AA, cA, AB, cB⟩ hd rv cp w.heap.size (w.heap.size + 1) ⟨AX, cX, AE, cE, AHH, cHH⟩ X E H w1 := ⟨B1, C1, P1, hQ.on B1, hS⟩
  rw [hw1]
  clear hw1 hG hI hQ hS hL hmo hR B1 C1 P1
  go_wp2_with fail
  go_loopw [9, 10, 11] (fun i _ _ wr => ∃ (k : Nat) (Q : PreS) (X E H : List Int), k ≤ n ∧ i = .int .i64 k ∧ LpI w N M s t ⟨AF, cF, AH, cH, AR, cR, AC, cC, AA, cA, AB, cB⟩ hd rv cp w.heap.size (w.heap.size + 1) Q X E H wr ∧ Blk wr (w.heap.size + 1 + 1) 29 #[.slice none 0 0, .slice none 0 0, .slice none 0 0] ∧ (runTo N s t fst hd rv (l.drop k) X E H).up k = R) (fun i _ _ _ => n - (intOf i).toNat)
  case atStart => exact ⟨0, ⟨AX, cX, AE, cE, AHH, cHH⟩, X, E, H, Nat.zero_le _, rfl, V1, R1, by rw [← HR.out]; rfl⟩
  case round =>
    clear V1 R1 HR
    obtain ⟨k, Q, X, E, H, hk, rfl, V, R1, hR⟩ := hrel
    obtain ⟨AX, cX, AE, cE, AHH, cHH⟩ := Q
    have HV := Lib.hid V; have HR1 := Lib.hid R1; have HRR := Lib.hid hR
    clear V R1 hR
    by_cases hlt : k < n
    · skip
      obtain ⟨b2, off, ⟨who, what, eu, arc, d0, h0, low⟩, rfl, hb2, hla, e0, e1, e2, e3, e4, e5, e6⟩ := evs_at (HL.out.below HV.out.bel) hlt
      dsimp only at e0 e1 e2 e3 e4 e5 e6
      have zb : b2 < wr.heap.size := by have := HV.out.bel.size; omega
      have hkeep : ∀ W', Below wr.heap.size wr W' → W'.cell? ⟨w.heap.size, 0, none⟩ = some (.int .i64 (N : Int)) ∧ W'.cell? ⟨w.heap.size, 1, none⟩ = some (.int .i64 (s : Int)) ∧ W'.cell? ⟨w.heap.size, 2, none⟩ = some (.int .i64 (t : Int)) ∧ W'.cell? ⟨w.heap.size, 3, none⟩ = some (.slice AF (N + 1) cF) ∧ W'.cell? ⟨w.heap.size, 4, none⟩ = some (.slice AH M cH) ∧ W'.cell? ⟨w.heap.size, 5, none⟩ = some (.slice AR M cR) ∧ W'.cell? ⟨w.heap.size, 6, none⟩ = some (.slice AC M cC) ∧ W'.cell? ⟨w.heap.size, 7, none⟩ = some (.slice AA M cA) ∧ W'.cell? ⟨w.heap.size, 8, none⟩ = some (.slice AB M cB) ∧ W'.cell? ⟨w.heap.size + 1, 0, none⟩ = some (.slice AX M cX) ∧ W'.cell? ⟨w.heap.size + 1, 1, none⟩ = some (.slice AE N cE) ∧ W'.cell? ⟨w.heap.size + 1, 2, none⟩ = some (.slice AHH N cHH) ∧ W'.cell? ⟨b2, off + k * 7, none⟩ = some (.int .i64 who) ∧ W'.cell? ⟨b2, off + k * 7 + 1, none⟩ = some (.int .u8 what) ∧ W'.cell? ⟨b2, off + k * 7 + 2, none⟩ = some (.int .i64 eu) ∧ W'.cell? ⟨b2, off + k * 7 + 3, none⟩ = some (.int .i64 arc) ∧ W'.cell? ⟨b2, off + k * 7 + 4, none⟩ = some (.int .i64 d0) ∧ W'.cell? ⟨b2, off + k * 7 + 5, none⟩ = some (.int .i64 h0) ∧ W'.cell? ⟨b2, off + k * 7 + 6, none⟩ = some (.int .i64 low) := fun W' hb => by
        obtain ⟨c0, c1, c2, c3, c4, c5, c6, c7, c8⟩ := (HV.out.c.below hb HV.out.c.lt).at9
        obtain ⟨⟨p0, p1, p2⟩, -, -⟩ := (HV.out.p.below hb HV.out.p.lt).full3
        exact ⟨c0, c1, c2, c3, c4, c5, c6, c7, c8, p0, p1, p2, (hb.cell (p := ⟨b2, off + k * 7, none⟩) zb).trans e0, (hb.cell (p := ⟨b2, off + k * 7 + 1, none⟩) zb).trans e1, (hb.cell (p := ⟨b2, off + k * 7 + 2, none⟩) zb).trans e2, (hb.cell (p := ⟨b2, off + k * 7 + 3, none⟩) zb).trans e3, (hb.cell (p := ⟨b2, off + k * 7 + 4, none⟩) zb).trans e4, (hb.cell (p := ⟨b2, off + k * 7 + 5, none⟩) zb).trans e5, (hb.cell (p := ⟨b2, off + k * 7 + 6, none⟩) zb).trans e6⟩
      have HKEEP := Lib.hid hkeep; have HLA := Lib.hid hla
      clear hkeep e0 e1 e2 e3 e4 e5 e6 hb2 hla
      go_upto_region 4 with fail
      refine wp_region_held_drew (S := fun W' => W'.cell? ⟨w.heap.size, 0, none⟩ = some (.int .i64 (N : Int)) ∧ W'.cell? ⟨w.heap.size, 1, none⟩ = some (.int .i64 (s : Int)) ∧ W'.cell? ⟨w.heap.size, 2, none⟩ = some (.int .i64 (t : Int)) ∧ W'.cell? ⟨w.heap.size, 3, none⟩ = some (.slice AF (N + 1) cF) ∧ W'.cell? ⟨w.heap.size, 4, none⟩ = some (.slice AH M cH) ∧ W'.cell? ⟨w.heap.size, 5, none⟩ = some (.slice AR M cR) ∧ W'.cell? ⟨w.heap.size, 6, none⟩ = some (.slice AC M cC) ∧ W'.cell? ⟨w.heap.size, 7, none⟩ = some (.slice AA M cA) ∧ W'.cell? ⟨w.heap.size, 8, none⟩ = some (.slice AB M cB) ∧ W'.cell? ⟨w.heap.size + 1, 0, none⟩ = some (.slice AX M cX) ∧ W'.cell? ⟨w.heap.size + 1, 1, none⟩ = some (.slice AE N cE) ∧ W'.cell? ⟨w.heap.size + 1, 2, none⟩ = some (.slice AHH N cHH) ∧ W'.cell? ⟨b2, off + k * 7, none⟩ = some (.int .i64 who) ∧ W'.cell? ⟨b2, off + k * 7 + 1, none⟩ = some (.int .u8 what) ∧ W'.cell? ⟨b2, off + k * 7 + 2, none⟩ = some (.int .i64 eu) ∧ W'.cell? ⟨b2, off + k * 7 + 3, none⟩ = some (.int .i64 arc) ∧ W'.cell? ⟨b2, off + k * 7 + 4, none⟩ = some (.int .i64 d0) ∧ W'.cell? ⟨b2, off + k * 7 + 5, none⟩ = some (.int .i64 h0) ∧ W'.cell? ⟨b2, off + k * 7 + 6, none⟩ = some (.int .i64 low)) (by kernel_rfl) (HKEEP.out _ (Below.refl _ _).drew) (fun hS0 => ?_)
      obtain ⟨W, hW⟩ : ∃ W, wr.drew = W := ⟨_, rfl⟩
      have B : Below wr.heap.size wr W := by rw [← hW]; exact (Below.refl _ _).drew
      rw [hW] at hS0 ⊢
      clear hW
      refine tk (v := ?_) 0 19 rfl ?_ ?_
      rotate_left
      · (intro W hSw; obtain ⟨c0, c1, c2, c3, c4, c5, c6, c7, c8, p0, p1, p2, e0, e1, e2, e3, e4, e5, e6⟩ := hSw; go_simp; try with_reducible rfl)
      simp only [Act.put, pa, pz, ps]
      refine tk (v := ?_) 1 20 rfl ?_ ?_
      rotate_left
      · (intro W hSw; obtain ⟨c0, c1, c2, c3, c4, c5, c6, c7, c8, p0, p1, p2, e0, e1, e2, e3, e4, e5, e6⟩ := hSw; go_simp; try with_reducible rfl)
      simp only [Act.put, pa, pz, ps]
      refine tk (v := ?_) 2 21 rfl ?_ ?_
      rotate_left
      · (intro W hSw; obtain ⟨c0, c1, c2, c3, c4, c5, c6, c7, c8, p0, p1, p2, e0, e1, e2, e3, e4, e5, e6⟩ := hSw; go_simp; try with_reducible rfl)
      simp only [Act.put, pa, pz, ps]
      refine tk (v := ?_) 3 22 rfl ?_ ?_
      rotate_left
      · (intro W hSw; obtain ⟨c0, c1, c2, c3, c4, c5, c6, c7, c8, p0, p1, p2, e0, e1, e2, e3, e4, e5, e6⟩ := hSw; go_simp; try with_reducible rfl)
      simp only [Act.put, pa, pz, ps]
      refine tk (v := ?_) 4 23 rfl ?_ ?_
      rotate_left
      · (intro W hSw; obtain ⟨c0, c1, c2, c3, c4, c5, c6, c7, c8, p0, p1, p2, e0, e1, e2, e3, e4, e5, e6⟩ := hSw; go_simp; try with_reducible rfl)
      simp only [Act.put, pa, pz, ps]
      refine tk (v := ?_) 5 24 rfl ?_ ?_
      rotate_left
      · (intro W hSw; obtain ⟨c0, c1, c2, c3, c4, c5, c6, c7, c8, p0, p1, p2, e0, e1, e2, e3, e4, e5, e6⟩ := hSw; go_simp; try with_reducible rfl)
      simp only [Act.put, pa, pz, ps]
      refine (have k11 : Hid ?Tk11 := ?pk11; ?mk11)
      case mk11 =>
       refine (have k10 : Hid ?Tk10 := ?pk10; ?mk10)
       case mk10 =>
        refine (have k01 : Hid ?Tk01 := ?pk01; ?mk01)
        case mk01 =>
         refine wpAnyH_ready (rs := [6, 10]) (by kernel_rfl) (by simp) ?_
         refine (AllReadyH.cons rfl (fun K hK => ?_) (AllReadyH.cons rfl (fun K hK => ?_) AllReadyH.nil))
         · skip
           go_simp
           refine (HMO.out ⟨AX, cX, AE, cE, AHH, cHH⟩ X E H ⟨who, what, eu, arc, d0, h0, low⟩ W (HV.out.on B).bel (HV.out.on B).st HV.out.snd).mono ?_
           rintro e V ⟨⟨A4, d4, A5, d5, A6, d6⟩, rfl, B9, xst9⟩
           have xB := below_step B B9
           refine hK.out _ _ (HKEEP.out _ xB) (fun hSx => ?_)
           clear hK K
           try simp only [Act.put, pa, pz, ps]
           refine tk (v := ?_) 7 18 rfl ?_ ?_
           rotate_left
           · (intro W hSw; obtain ⟨c0, c1, c2, c3, c4, c5, c6, c7, c8, p0, p1, p2, e0, e1, e2, e3, e4, e5, e6⟩ := hSw; go_simp; try with_reducible rfl)
           simp only [Act.put, pa, pz, ps]
           refine tk (v := ?_) 8 26 rfl ?_ ?_
           rotate_left
           · (intro W hSw; obtain ⟨c0, c1, c2, c3, c4, c5, c6, c7, c8, p0, p1, p2, e0, e1, e2, e3, e4, e5, e6⟩ := hSw; go_simp; try with_reducible rfl)
           simp only [Act.put, pa, pz, ps]
           refine tk (v := ?_) 9 27 rfl ?_ ?_
           rotate_left
           · (intro W hSw; obtain ⟨c0, c1, c2, c3, c4, c5, c6, c7, c8, p0, p1, p2, e0, e1, e2, e3, e4, e5, e6⟩ := hSw; go_simp; try with_reducible rfl)
           simp only [Act.put, pa, pz, ps]
           clear hSx B9 
           obtain ⟨W, rfl⟩ : ∃ W, W = V := ⟨_, rfl⟩
           have B := xB
           clear xB
           have st9 := xst9
           clear xst9
           revert st9
           revert B
           revert W
           revert d6
           revert A6
           revert d5
           revert A5
           revert d4
           revert A4
           exact k10.out
         · skip
           go_simp
           obtain ⟨gA, hgn⟩ : ∃ g, W.heap.size = g := ⟨_, rfl⟩
           obtain ⟨V, hV⟩ : ∃ V, W.alloc (.cells #[.slice none 0 0, .slice none 0 0, .slice none 0 0] 29) = V := ⟨_, rfl⟩
           have hba : Below W.heap.size W V := by rw [← hV]; exact below_alloc _
           have xHA : Blk V gA 29 #[.slice none 0 0, .slice none 0 0, .slice none 0 0] := by rw [← hV]; exact Blk.new hgn
           have xlA : wr.heap.size ≤ gA := by rw [← hgn]; exact B.size
           have xB := below_step B hba
           refine hK.out _ _ (by rw [hV]; exact HKEEP.out _ xB) (fun hSx => ?_)
           clear hK K hSx 
           try simp only [Act.put, pa, pz, ps]
           rw [hV]
           rw [hgn]
           clear hV hba hgn
           obtain ⟨W, rfl⟩ : ∃ W, W = V := ⟨_, rfl⟩
           have B := xB
           clear xB
           have lA := xlA
           clear xlA
           have HA := xHA
           clear xHA
           revert HA
           revert lA
           revert B
           revert W
           revert gA
           exact k01.out
        case pk01 =>
         refine Lib.hid ?_
         intro gA W B lA HA
         have hS0 := HKEEP.out _ B
         refine wpAnyH_ready (rs := [6]) (by kernel_rfl) (by simp) ?_
         refine (AllReadyH.cons rfl (fun K hK => ?_) AllReadyH.nil)
         · skip
           go_simp
           refine (HMO.out ⟨AX, cX, AE, cE, AHH, cHH⟩ X E H ⟨who, what, eu, arc, d0, h0, low⟩ W (HV.out.on B).bel (HV.out.on B).st HV.out.snd).mono ?_
           rintro e V ⟨⟨A4, d4, A5, d5, A6, d6⟩, rfl, B9, xst9⟩
           have xB := below_step B B9
           have xHA := HA.below B9 HA.lt
           have xlA := lA
           refine hK.out _ _ (HKEEP.out _ xB) (fun hSx => ?_)
           clear hK K
           try simp only [Act.put, pa, pz, ps]
           refine tk (v := ?_) 7 18 rfl ?_ ?_
           rotate_left
           · (intro W hSw; obtain ⟨c0, c1, c2, c3, c4, c5, c6, c7, c8, p0, p1, p2, e0, e1, e2, e3, e4, e5, e6⟩ := hSw; go_simp; try with_reducible rfl)
           simp only [Act.put, pa, pz, ps]
           refine tk (v := ?_) 8 26 rfl ?_ ?_
           rotate_left
           · (intro W hSw; obtain ⟨c0, c1, c2, c3, c4, c5, c6, c7, c8, p0, p1, p2, e0, e1, e2, e3, e4, e5, e6⟩ := hSw; go_simp; try with_reducible rfl)
           simp only [Act.put, pa, pz, ps]
           refine tk (v := ?_) 9 27 rfl ?_ ?_
           rotate_left
           · (intro W hSw; obtain ⟨c0, c1, c2, c3, c4, c5, c6, c7, c8, p0, p1, p2, e0, e1, e2, e3, e4, e5, e6⟩ := hSw; go_simp; try with_reducible rfl)
           simp only [Act.put, pa, pz, ps]
           clear hSx B9 hS0 B lA HA
           clear W
           obtain ⟨W, rfl⟩ : ∃ W, W = V := ⟨_, rfl⟩
           have B := xB
           clear xB
           have st9 := xst9
           clear xst9
           have lA := xlA
           clear xlA
           have HA := xHA
           clear xHA
           revert HA
           revert lA
           revert st9
           revert B
           revert W
           revert gA
           revert d6
           revert A6
           revert d5
           revert A5
           revert d4
           revert A4
           exact k11.out
       case pk10 =>
        refine Lib.hid ?_
        intro A4 d4 A5 d5 A6 d6 W B st9
        have hS0 := HKEEP.out _ B
        refine wpAnyH_ready (rs := [10]) (by kernel_rfl) (by simp) ?_
        refine (AllReadyH.cons rfl (fun K hK => ?_) AllReadyH.nil)
        · skip
          go_simp
          obtain ⟨gA, hgn⟩ : ∃ g, W.heap.size = g := ⟨_, rfl⟩
          obtain ⟨V, hV⟩ : ∃ V, W.alloc (.cells #[.slice none 0 0, .slice none 0 0, .slice none 0 0] 29) = V := ⟨_, rfl⟩
          have hba : Below W.heap.size W V := by rw [← hV]; exact below_alloc _
          have xHA : Blk V gA 29 #[.slice none 0 0, .slice none 0 0, .slice none 0 0] := by rw [← hV]; exact Blk.new hgn
          have xlA : wr.heap.size ≤ gA := by rw [← hgn]; exact B.size
          have xB := below_step B hba
          have xst9 := st9.on hba
          refine hK.out _ _ (by rw [hV]; exact HKEEP.out _ xB) (fun hSx => ?_)
          clear hK K hSx hS0 B st9
          try simp only [Act.put, pa, pz, ps]
          rw [hV]
          rw [hgn]
          clear hV hba hgn
          clear W
          obtain ⟨W, rfl⟩ : ∃ W, W = V := ⟨_, rfl⟩
          have B := xB
          clear xB
          have st9 := xst9
          clear xst9
          have lA := xlA
          clear xlA
          have HA := xHA
          clear xHA
          revert HA
          revert lA
          revert st9
          revert B
          revert W
          revert gA
          revert d6
          revert A6
          revert d5
          revert A5
          revert d4
          revert A4
          exact k11.out
      case pk11 =>
       refine Lib.hid ?_
       intro A4 d4 A5 d5 A6 d6 gA W B st9 lA HA
       have hS0 := HKEEP.out _ B
       obtain ⟨⟨z0, z1, z2⟩, ⟨f0, f1, f2⟩, hz⟩ := HA.full3
       refine wpAnyH_ready (rs := [11]) (by kernel_rfl) (by simp) ?_
       refine AllReadyH.cons rfl (fun K hK => ?_) AllReadyH.nil
       go_simp
       have xB : Below wr.heap.size wr (put3 W gA (.slice A4 M d4) (.slice A5 N d5) (.slice A6 N d6)) := below_put3 B lA
       have xS : StIn (put3 W gA (.slice A4 M d4) (.slice A5 N d5) (.slice A6 N d6)) (put3 W gA (.slice A4 M d4) (.slice A5 N d5) (.slice A6 N d6)).heap.size M N N ⟨A4, d4, A5, d5, A6, d6⟩ (nxX N s t fst rv X E H ⟨who, what, eu, arc, d0, h0, low⟩) (nxE N s t fst hd rv X E H ⟨who, what, eu, arc, d0, h0, low⟩) (nxH N s t fst X E H ⟨who, what, eu, arc, d0, h0, low⟩) := ⟨by simpa using ints_far3 st9.iX HA, by simpa using ints_far3 st9.iE HA, by simpa using ints_far3 st9.iH HA⟩
       have xA : Blk (put3 W gA (.slice A4 M d4) (.slice A5 N d5) (.slice A6 N d6)) gA 29 #[.slice A4 M d4, .slice A5 N d5, .slice A6 N d6] := HA.put3
       refine hK.out _ _ (HKEEP.out _ xB) (fun hSx => ?_)
       clear hK K hS0 z0 z1 z2 f0 f1 f2 hz HA B st9
       dsimp only [put3] at xB xS xA hSx
       generalize ((W.setCell ⟨gA, 0, none⟩ (.slice A4 M d4)).setCell ⟨gA, 1, none⟩ (.slice A5 N d5)).setCell ⟨gA, 2, none⟩ (.slice A6 N d6) = w8 at *
       try simp only [Act.put, pa, pz, ps]
       refine tk (v := ?_) 12 11 rfl ?_ ?_
       rotate_left
       · (intro W hSw; obtain ⟨c0, c1, c2, c3, c4, c5, c6, c7, c8, p0, p1, p2, e0, e1, e2, e3, e4, e5, e6⟩ := hSw; go_simp; try with_reducible rfl)
       simp only [Act.put, pa, pz, ps]
       clear hSx
       refine wpAnyH_done (by kernel_rfl) ?_ _
       obtain ⟨r, hr⟩ : ∃ r, legI N s t fst X E H ⟨who, what, eu, arc, d0, h0, low⟩ = r := ⟨_, rfl⟩
       rw [hr]
       have HV8 := Lib.hid (HV.out.on xB); have HR8 := Lib.hid (HR1.out.below xB HR1.out.lt); have HS8 := Lib.hid xS; have HA8 := Lib.hid xA
       have HLG : Hid (w.heap.size + 1 + 1 < gA) := Lib.hid (by have := HR1.out.lt; omega)
       clear xB xS xA lA HKEEP HV HR1 zb
       obtain ⟨⟨p0, p1, p2⟩, ⟨pf0, pf1, pf2⟩, zp⟩ := HV8.out.p.full3
       obtain ⟨⟨q0, q1, q2⟩, ⟨f0, f1, f2⟩, hz5⟩ := HR8.out.full3
       obtain ⟨⟨a0, a1, a2⟩, -, za⟩ := HA8.out.full3
       by_cases hr0 : r = 0
       · subst hr0
         have hgo := run_go (rv := rv) (hd := hd) HLA.out hr
         rw [HRR.out] at hgo
         have hx : ((nxX N s t fst rv X E H ⟨who, what, eu, arc, d0, h0, low⟩), (nxE N s t fst hd rv X E H ⟨who, what, eu, arc, d0, h0, low⟩), (nxH N s t fst X E H ⟨who, what, eu, arc, d0, h0, low⟩)) = (movX rv X ⟨who, what, eu, arc, d0, h0, low⟩, movE hd rv E ⟨who, what, eu, arc, d0, h0, low⟩, movH H ⟨who, what, eu, arc, d0, h0, low⟩) := by unfold nxX nxE nxH; rw [if_pos hr, if_pos hr, if_pos hr]
         simp only [Prod.mk.injEq] at hx
         have hs8 := HS8.out
         rw [hx.1, hx.2.1, hx.2.2] at hs8
         have hsn := HV8.out.snd.move HG.out hr
         have V9 := HV8.out.put (Q' := ⟨A4, d4, A5, d5, A6, d6⟩) (by omega) (by omega) hs8 hsn
         have R9 := HR8.out.far3 (g := w.heap.size + 1) (x := .slice A4 M d4) (y := .slice A5 N d5) (z := .slice A6 N d6) (by omega)
         have HV9 := Lib.hid V9; have HR9 := Lib.hid R9; have HGO := Lib.hid hgo.symm
         clear V9 R9 hgo hs8 hsn hx hr
         go_wp2_with fail
         go_roundw
         case rel => exact ⟨k + 1, ⟨A4, d4, A5, d5, A6, d6⟩, _, _, _, by omega, by go_num, HV9.out, HR9.out, HGO.out⟩
         case measure => simp [intOf]; omega
       · have hno := run_no (rv := rv) (hd := hd) HLA.out (by rw [hr]; exact hr0)
         rw [HRR.out, hr] at hno
         have hr1 : (r != 0) = true := by simpa using hr0
         have HNO := Lib.hid hno
         clear hno hr hr0
         go_wp2_with fail
         have BW := below_put3 (g := w.heap.size + 1 + 1) (x := .slice AX M cX) (y := .slice AE N cE) (z := .slice AHH N cHH) HV8.out.bel (by omega)
         have R11 := HR8.out.put3 (x := .slice AX M cX) (y := .slice AE N cE) (z := .slice AHH N cHH)
         have SW : StIn (put3 _ (w.heap.size + 1 + 1) (.slice AX M cX) (.slice AE N cE) (.slice AHH N cHH)) _ M N N ⟨AX, cX, AE, cE, AHH, cHH⟩ X E H := ⟨ints_far3 HV8.out.st.iX HR8.out, ints_far3 HV8.out.st.iE HR8.out, ints_far3 HV8.out.st.iH HR8.out⟩
         obtain ⟨⟨k0, k1, k2⟩, -, -⟩ := R11.full3
         refine bodyPost_ret (v := .tuple #[.agg #[.slice AX M cX, .slice AE N cE, .slice AHH N cHH], .int .i64 (k : Int), .int .i64 r]) (by simp [results, Try.results20, go_sem, k0, k1, k2]) rfl ⟨⟨AX, cX, AE, cE, AHH, cHH⟩, by rw [HNO.out], BW, ?_⟩
         rw [HNO.out]
         simpa using SW
    · skip
      have hkn : k = n := by omega
      have hno := run_end (N := N) (s := s) (t := t) (fst := fst) (hd := hd) (rv := rv) (X := X) (E := E) (H := H) (l := l) (k := k) (by rw [HL.out.len, hkn])
      rw [HRR.out] at hno
      have HV8 := HV; have HR8 := HR1
      have HNO := Lib.hid hno
      clear hno HV HR1
      obtain ⟨⟨p0, p1, p2⟩, ⟨pf0, pf1, pf2⟩, zp⟩ := HV8.out.p.full3
      obtain ⟨⟨q0, q1, q2⟩, ⟨f0, f1, f2⟩, hz5⟩ := HR8.out.full3
      go_wp2_with fail
      have BW := below_put3 (g := w.heap.size + 1 + 1) (x := .slice AX M cX) (y := .slice AE N cE) (z := .slice AHH N cHH) HV8.out.bel (by omega)
      have R11 := HR8.out.put3 (x := .slice AX M cX) (y := .slice AE N cE) (z := .slice AHH N cHH)
      have SW : StIn (put3 _ (w.heap.size + 1 + 1) (.slice AX M cX) (.slice AE N cE) (.slice AHH N cHH)) _ M N N ⟨AX, cX, AE, cE, AHH, cHH⟩ X E H := ⟨ints_far3 HV8.out.st.iX HR8.out, ints_far3 HV8.out.st.iE HR8.out, ints_far3 HV8.out.st.iH HR8.out⟩
      obtain ⟨⟨k0, k1, k2⟩, -, -⟩ := R11.full3
      refine bodyPost_ret (v := .tuple #[.agg #[.slice AX M cX, .slice AE N cE, .slice AHH N cHH], .int .i64 (n : Int), .int .i64 0]) (by simp [results, Try.results20, go_sem, k0, k1, k2]) rfl ⟨⟨AX, cX, AE, cE, AHH, cHH⟩, by rw [HNO.out]; rw [hkn], BW, ?_⟩
      rw [HNO.out]
      simpa using SW
end Go.Proofs.Ytanifbofjecpmaa
