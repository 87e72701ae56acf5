/- Layer 9: Move. -/
import Derived.Test.YtanifbofjecpmaaRld
namespace Go.Proofs.Ytanifbofjecpmaa
open Go.RowKit Go.Shelf
set_option maxRecDepth 100000

/-- The call returned the state behind a move, or the state itself, and what is wrong. -/
def RetMove (N M s t : Nat) (fst hd rv : Nat → Nat) (X E H : List Int) (ev : EvS) (w : World) (e : Ending) (w' : World) : Prop :=
  ∃ Q, e = .returned (.tuple #[preW M N N Q, .int .i64 (legI N s t fst X E H ev)]) ∧ Below w.heap.size w w' ∧ StIn w' w'.heap.size M N N Q (nxX N s t fst rv X E H ev) (nxE N s t fst hd rv X E H ev) (nxH N s t fst X E H ev)

set_option maxHeartbeats 4000000 in
theorem rmove_is (N M s t : Nat) (K : CsrS) (Q : PreS) (fst hd rv ai : Nat → Nat) (cp : Nat → Int) (bk : Nat → Bool) (X E H : List Int) (ev : EvS) (w : World) (hG : PNet N M s t fst hd rv ai cp bk) (hI : GridIn w w.heap.size N M K fst hd rv) (hQ : StIn w w.heap.size M N N Q X E H) (hS : SndIs N M s t hd rv cp X E H) :
    Calls Try.prog 13 #[csrW N M s t K, preW M N N Q, evW ev] w (RetMove N M s t fst hd rv X E H ev w) := by
  have hN := hG.nN; have hM := hG.nM
  have hlg := fun W (hb : Below w.heap.size w W) => rlegal_is N M s t K Q fst hd rv X E H ev W hG.g (hI.on hb) (hQ.on hb) hN
  have HLG := Lib.hid hlg
  have htw := fun W (hb : Below w.heap.size w W) => twin_is M N N Q X E H W (hQ.on hb) (by omega) (by omega) (by omega)
  have HT := Lib.hid htw
  have hat := fun (Q2 : PreS) W => at_is N M s t K M N N Q2 W
  have HA := Lib.hid hat
  have hap := fun g b base Q2 w0 W (hl : legI N s t fst X E H ev = 0) hIb hMc hx => apply_is g b N M s t base K Q2 fst hd rv ai cp bk X E H ev w0 W hG hIb hMc hx hS hl
  have HAP := Lib.hid hap
  have hno : legI N s t fst X E H ev ≠ 0 → ∀ W, Below w.heap.size w W → StIn W W.heap.size M N N Q (nxX N s t fst rv X E H ev) (nxE N s t fst hd rv X E H ev) (nxH N s t fst X E H ev) := fun h W hb => by
    unfold nxX nxE nxH
    rw [if_neg h, if_neg h, if_neg h]
    exact hQ.on hb
  have HNO := Lib.hid hno
  have hyes : legI N s t fst X E H ev = 0 → nxX N s t fst rv X E H ev = movX rv X ev ∧ nxE N s t fst hd rv X E H ev = movE hd rv E ev ∧ nxH N s t fst X E H ev = movH H ev := fun h => by
    unfold nxX nxE nxH
    rw [if_pos h, if_pos h, if_pos h]
    exact ⟨rfl, rfl, rfl⟩
  have HYES := Lib.hid hyes
  have hlen : legI N s t fst X E H ev = 0 → (movX rv X ev).length = M ∧ (movE hd rv E ev).length = N ∧ (movH H ev).length = N := fun h => by
    have := hS.move hG h
    exact ⟨this.bal.1, this.le, this.lh⟩
  have HLEN := Lib.hid hlen
  have HI := Lib.hid hI
  unfold RetMove
  obtain ⟨r, hr⟩ : ∃ r, legI N s t fst X E H ev = r := ⟨_, rfl⟩
  rw [hr] at HLG HAP HNO HYES HLEN ⊢
  clear hr hG hI hQ hS hlg htw hat hap hno hyes hlen hM hN
  obtain ⟨nX, hnX⟩ : ∃ nX, nxX N s t fst rv X E H ev = nX := ⟨_, rfl⟩
  obtain ⟨nE, hnE⟩ : ∃ nE, nxE N s t fst hd rv X E H ev = nE := ⟨_, rfl⟩
  obtain ⟨nH, hnH⟩ : ∃ nH, nxH N s t fst X E H ev = nH := ⟨_, rfl⟩
  rw [hnX, hnE, hnH] at HNO HYES
  simp only [hnX, hnE, hnH]
  clear hnX hnE hnH
  obtain ⟨AF, cF, AH, cH, AR, cR, AC, cC, AA, cA, AB, cB⟩ := K
  obtain ⟨AX, cX, AE, cE, AHH, cHH⟩ := Q
  obtain ⟨who, what, eu, arc, d0, h0, low⟩ := ev
  dsimp only [evW, csrW, preW] at HLG HT HA HAP HNO ⊢
  go_enter Try.func13, Try.ntmps13
  go_wp2_with fail
  obtain ⟨w1, hw1⟩ : ∃ w1, ((((w.alloc (.cells #[.int .i64 (N : Int), .int .i64 (s : Int), .int .i64 (t : Int), .slice AF (N + 1) cF, .slice AH M cH, .slice AR M cR, .slice AC M cC, .slice AA M cA, .slice AB M cB] 32)).alloc (.cells #[.slice AX M cX, .slice AE N cE, .slice AHH N cHH] 29)).alloc (.cells #[.int .i64 who, .int .u8 what, .int .i64 eu, .int .i64 arc, .int .i64 d0, .int .i64 h0, .int .i64 low] 39)).alloc (.cells #[.slice none 0 0, .slice none 0 0, .slice none 0 0] 29)) = w1 := ⟨_, rfl⟩
  have B1 : Below w.heap.size w w1 := by rw [← hw1]; exact ((((Below.refl _ w).alloc (Nat.le_refl _) _).alloc (by simp) _).alloc (by simp; omega) _).alloc (by simp; omega) _
  have C1 : Blk w1 w.heap.size 32 #[.int .i64 (N : Int), .int .i64 (s : Int), .int .i64 (t : Int), .slice AF (N + 1) cF, .slice AH M cH, .slice AR M cR, .slice AC M cC, .slice AA M cA, .slice AB M cB] := by rw [← hw1]; exact (((Blk.new rfl).alloc _).alloc _).alloc _
  have P1 : Blk w1 (w.heap.size + 1) 29 #[.slice AX M cX, .slice AE N cE, .slice AHH N cHH] := by rw [← hw1]; exact ((Blk.new (by simp)).alloc _).alloc _
  have E1 : Blk w1 (w.heap.size + 1 + 1) 39 #[.int .i64 who, .int .u8 what, .int .i64 eu, .int .i64 arc, .int .i64 d0, .int .i64 h0, .int .i64 low] := by rw [← hw1]; exact (Blk.new (by simp)).alloc _
  have R1 : Blk w1 (w.heap.size + 1 + 1 + 1) 29 #[.slice none 0 0, .slice none 0 0, .slice none 0 0] := by rw [← hw1]; exact Blk.new (by simp)
  rw [hw1]
  clear hw1
  refine (HLG.out _ B1).mono ?_
  rintro e w2 ⟨rfl, B2⟩
  have C2 := C1.below B2 C1.lt; have P2 := P1.below B2 P1.lt; have E2 := E1.below B2 E1.lt; have R2 := R1.below B2 R1.lt
  have B2' := below_step B1 B2
  clear C1 P1 E1 R1 B1 B2 HLG
  have hkeep : ∀ W', Below w2.heap.size w2 W' → Below w2.heap.size w2 W' ∧ W'.cell? ⟨w.heap.size, 0, none⟩ = some (.int .i64 (N : Int)) ∧ W'.cell? ⟨w.heap.size, 1, none⟩ = some (.int .i64 (s : Int)) ∧ W'.cell? ⟨w.heap.size, 2, none⟩ = some (.int .i64 (t : Int)) ∧ W'.cell? ⟨w.heap.size, 3, none⟩ = some (.slice AF (N + 1) cF) ∧ W'.cell? ⟨w.heap.size, 4, none⟩ = some (.slice AH M cH) ∧ W'.cell? ⟨w.heap.size, 5, none⟩ = some (.slice AR M cR) ∧ W'.cell? ⟨w.heap.size, 6, none⟩ = some (.slice AC M cC) ∧ W'.cell? ⟨w.heap.size, 7, none⟩ = some (.slice AA M cA) ∧ W'.cell? ⟨w.heap.size, 8, none⟩ = some (.slice AB M cB) ∧ W'.cell? ⟨w.heap.size + 1, 0, none⟩ = some (.slice AX M cX) ∧ W'.cell? ⟨w.heap.size + 1, 1, none⟩ = some (.slice AE N cE) ∧ W'.cell? ⟨w.heap.size + 1, 2, none⟩ = some (.slice AHH N cHH) := fun W' hb => by
    obtain ⟨a0, a1, a2, a3, a4, a5, a6, a7, a8⟩ := (C2.below hb C2.lt).at9
    obtain ⟨⟨p0, p1, p2⟩, -, -⟩ := (P2.below hb P2.lt).full3
    exact ⟨hb, a0, a1, a2, a3, a4, a5, a6, a7, a8, p0, p1, p2⟩
  have HKEEP := Lib.hid hkeep
  have HB2 := Lib.hid B2'
  obtain ⟨-, a0, a1, a2, a3, a4, a5, a6, a7, a8, p0, p1, p2⟩ := hkeep _ (Below.refl _ _)
  obtain ⟨⟨q0, q1, q2⟩, ⟨f0, f1, f2⟩, hz⟩ := R2.full3
  have HE2 := Lib.hid E2; have HR2 := Lib.hid R2
  clear hkeep C2 P2 E2 R2 B2'
  by_cases hr0 : r = 0
  · subst hr0
    have HYS := Lib.hid (HYES.out rfl)
    have HLN := Lib.hid (HLEN.out rfl)
    clear HNO HYES HLEN
    go_wp2_with fail
    clear q0 q1 q2 f0 f1 f2 a0 a1 a2 a3 a4 a5 a6 a7 a8 p0 p1 p2
    refine wp_region_held_drew (S := fun W' => Below w2.heap.size w2 W' ∧ W'.cell? ⟨w.heap.size, 0, none⟩ = some (.int .i64 (N : Int)) ∧ W'.cell? ⟨w.heap.size, 1, none⟩ = some (.int .i64 (s : Int)) ∧ W'.cell? ⟨w.heap.size, 2, none⟩ = some (.int .i64 (t : Int)) ∧ W'.cell? ⟨w.heap.size, 3, none⟩ = some (.slice AF (N + 1) cF) ∧ W'.cell? ⟨w.heap.size, 4, none⟩ = some (.slice AH M cH) ∧ W'.cell? ⟨w.heap.size, 5, none⟩ = some (.slice AR M cR) ∧ W'.cell? ⟨w.heap.size, 6, none⟩ = some (.slice AC M cC) ∧ W'.cell? ⟨w.heap.size, 7, none⟩ = some (.slice AA M cA) ∧ W'.cell? ⟨w.heap.size, 8, none⟩ = some (.slice AB M cB) ∧ W'.cell? ⟨w.heap.size + 1, 0, none⟩ = some (.slice AX M cX) ∧ W'.cell? ⟨w.heap.size + 1, 1, none⟩ = some (.slice AE N cE) ∧ W'.cell? ⟨w.heap.size + 1, 2, none⟩ = some (.slice AHH N cHH)) (by kernel_rfl) (HKEEP.out _ (Below.refl _ _).drew) (fun hS0 => ?_)
    refine tk (v := ?_) 0 18 rfl ?_ ?_
    rotate_left
    · (intro W hSw; obtain ⟨-, a0, a1, a2, a3, a4, a5, a6, a7, a8, p0, p1, p2⟩ := hSw; go_simp; try with_reducible rfl)
    simp only [Act.put, pa, pz, ps]
    refine tk (v := ?_) 1 19 rfl ?_ ?_
    rotate_left
    · (intro W hSw; obtain ⟨-, a0, a1, a2, a3, a4, a5, a6, a7, a8, p0, p1, p2⟩ := hSw; go_simp; try with_reducible rfl)
    simp only [Act.put, pa, pz, ps]
    refine wpAnyH_ready (rs := [2]) (by kernel_rfl) (by simp) ?_
    refine AllReadyH.cons rfl (fun K hK => ?_) AllReadyH.nil
    go_simp
    first
      | (go_at_call 37; ((with_reducible refine (HT.out _ (below_step HB2.out hS0.1)).mono ?_); rintro e W8 ⟨Q2, rfl, hR8⟩; have B8 := hR8.bel); refine hK.out _ _ (HKEEP.out _ (below_step hS0.1 B8)) (fun hS3 => ?_))
    clear hK K
    try simp only [Act.put, pa, pz, ps]
    refine wpAnyH_ready (rs := [3]) (by kernel_rfl) (by simp) ?_
    refine AllReadyH.cons rfl (fun K hK => ?_) AllReadyH.nil
    go_simp
    first
      | (go_at_call 36; ((with_reducible refine (HA.out _ _).mono ?_); rintro e W9 ⟨g, b, rfl, hMc, hg, hbb, B9⟩); refine hK.out _ _ (HKEEP.out _ (below_step hS3.1 B9)) (fun hS4 => ?_))
    clear hK K
    try simp only [Act.put, pa, pz, ps]
    refine tk (v := ?_) 4 9 rfl ?_ ?_
    rotate_left
    · (intro W hSw; obtain ⟨-, a0, a1, a2, a3, a4, a5, a6, a7, a8, p0, p1, p2⟩ := hSw; go_simp; try with_reducible rfl)
    simp only [Act.put, pa, pz, ps]
    refine wpAnyH_done (by kernel_rfl) ?_ _
    have hX9 := (hR8.on B9).low (base' := w2.heap.size) (w1 := w2) (Nat.le_refl _) (below_drewN' (Below.refl _ _) 1)
    have I9 := (HI.out.below (below_step HB2.out hS4.1)).more (y := w2.heap.size) HB2.out.size
    have E9 := HE2.out.below hS4.1 HE2.out.lt
    have HX9 := Lib.hid hX9; have HI9 := Lib.hid I9; have HM9 := Lib.hid hMc
    obtain ⟨e0, e1, e2, e3, e4, e5, e6⟩ := E9.at7
    clear hS0 hS3 hS4 hR8 B8 B9 hg hbb hX9 I9 hMc E9
    go_wp2_with fail
    refine (HAP.out g b w2.heap.size Q2 w2 _ trivial HI9.out HM9.out HX9.out).mono ?_
    rintro e W10 ⟨⟨v, rfl⟩, M10, X10, hz10⟩
    have R10 := HR2.out.below X10.bel HR2.out.lt
    obtain ⟨⟨q0, q1, q2⟩, ⟨f0, f1, f2⟩, hz11⟩ := R10.full3
    obtain ⟨m0, m1, m2, m3, m4, m5, m6, m7, m8, m9, m10, m11, m12⟩ := M10.box.at13
    have hzg := M10.box.lt
    have HX10 := Lib.hid X10; have HR10 := Lib.hid R10
    clear X10 M10 R10 e0 e1 e2 e3 e4 e5 e6 hz10
    obtain ⟨AX2, cX2, AE2, cE2, AH2, cH2⟩ := Q2
    dsimp only at m9 m10 m11
    go_wp2_with fail
    have HXW := (HX10.out.low (base' := w.heap.size) (w1 := w) HB2.out.size HB2.out).put3 (x := .slice AX2 M cX2) (y := .slice AE2 N cE2) (z := .slice AH2 N cH2) HR10.out pst_ne (by omega)
    have R11 := HR10.out.put3 (x := .slice AX2 M cX2) (y := .slice AE2 N cE2) (z := .slice AH2 N cH2)
    obtain ⟨⟨k0, k1, k2⟩, -, -⟩ := R11.full3
    refine bodyPost_ret (v := .tuple #[.agg #[.slice AX2 M cX2, .slice AE2 N cE2, .slice AH2 N cH2], .int .i64 0]) (by simp [results, Try.results13, go_sem, k0, k1, k2]) rfl ⟨⟨AX2, cX2, AE2, cE2, AH2, cH2⟩, rfl, HXW.bel, ?_⟩
    have hst := HXW.st HLN.out.1 HLN.out.2.1 HLN.out.2.2
    rw [HYS.out.1, HYS.out.2.1, HYS.out.2.2]
    exact hst
  · have hr1 : (r != 0) = true := by simpa using hr0
    have HSQ := Lib.hid (HNO.out hr0)
    clear HNO HYES HLEN hr0
    go_wp2_with fail
    have R11 := HR2.out.put3 (x := .slice AX M cX) (y := .slice AE N cE) (z := .slice AHH N cHH)
    obtain ⟨⟨k0, k1, k2⟩, -, -⟩ := R11.full3
    have BW := below_put3 (g := w.heap.size + 1 + 1 + 1) (x := .slice AX M cX) (y := .slice AE N cE) (z := .slice AHH N cHH) HB2.out (by omega)
    refine bodyPost_ret (v := .tuple #[.agg #[.slice AX M cX, .slice AE N cE, .slice AHH N cHH], .int .i64 r]) (by simp [results, Try.results13, go_sem, k0, k1, k2]) rfl ⟨⟨AX, cX, AE, cE, AHH, cHH⟩, rfl, BW, HSQ.out _ BW⟩
end Go.Proofs.Ytanifbofjecpmaa

