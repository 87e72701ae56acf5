/- Layer 8: Run. (Written by wip/gen_frun.py.) -/
import Derived.Test.YtfcjmhihheeifaaStar
import Derived.Test.YtfcjmhihheeifaaSame
import Derived.Test.YtfcjmhihheeifaaRigo
namespace Go.Proofs.Ytfcjmhihheeifaa
open Go.RowKit Go.Shelf Go.Conc
set_option maxRecDepth 100000
attribute [local go_sem] Oper.semAt_some

theorem Hx.front {w0 w : World} {base : Nat} {rs : List Rw} {r : Rw} (h : Hx w0 w base (rs ++ [r])) : Hx w0 w base rs := by
  have key : ∀ (i : Nat) (x : Rw), rs[i]? = some x → (rs ++ [r])[i]? = some x := fun i x hi => by
    rw [List.getElem?_append_left (List.getElem?_eq_some_iff.1 hi).1]; exact hi
  exact ⟨⟨fun i x hi => h.held.own i x (key i x hi), fun i j x y hij hi hj => h.held.ne i j x y hij (key i x hi) (key j y hj)⟩, h.bas, h.bel⟩
theorem st_inr {N M s t : Nat} {fst hd rv ai : Nat → Nat} {cp : Nat → Int} {bk : Nat → Bool} {X E H : List Int} (hG : PNet N M s t fst hd rv ai cp bk) (h : StIs N M s t hd rv cp X E H) : (∀ x ∈ X, InR x) ∧ (∀ x ∈ E, InR x) ∧ ∀ x ∈ H, InR x := by
  have hN := hG.nN
  refine ⟨fun x hx => ?_, fun x hx => ?_, fun x hx => ?_⟩
  · obtain ⟨i, hi⟩ := List.getElem?_of_mem hx
    have hl := (List.getElem?_eq_some_iff.1 hi).1
    have := h.bal.le hG (a := i) (by have := h.bal.1; omega)
    rw [hOf_at hi] at this
    unfold maxSum at this
    unfold InR; omega
  · obtain ⟨i, hi⟩ := List.getElem?_of_mem hx
    have hl := (List.getElem?_eq_some_iff.1 hi).1
    have h1 := h.exc i (by have := h.le; omega)
    have h2 := hG.big _ h.bal i (by have := h.le; omega)
    rw [hOf_at hi] at h1
    unfold maxSum at h2
    unfold InR; omega
  · obtain ⟨i, hi⟩ := List.getElem?_of_mem hx
    have hl := (List.getElem?_eq_some_iff.1 hi).1
    have := h.bnd i (by have := h.lh; omega)
    rw [hOf_at hi] at this
    unfold InR; omega
theorem runMax_ok {N M C : Nat} (hN : N ≤ 4096) (hM : M ≤ 32768) (hC : C ≤ 8192) : runMax N M C < 4611686018427387904 := by
  have h1 : (M : Int) * N ≤ 32768 * 4096 := Int.mul_le_mul (by omega) (by omega) (by omega) (by omega)
  have h2 : liftsMax N ≤ 4096 * 8192 := by
    unfold liftsMax
    by_cases h : (2 : Int) ≤ N
    · exact Int.mul_le_mul (by omega) (by omega) (by omega) (by omega)
    · have : N = 0 ∨ N = 1 := by omega
      rcases this with rfl | rfl <;> simp
  have h3 : (N : Int) * (1 + C + liftsMax N) ≤ 4096 * (1 + 8192 + 4096 * 8192) := by
    have h4 := Int.mul_le_mul_of_nonneg_left (show (1 + C + liftsMax N : Int) ≤ 1 + 8192 + 4096 * 8192 by omega) (show (0 : Int) ≤ (N : Int) by omega)
    have h5 := Int.mul_le_mul_of_nonneg_right (show (N : Int) ≤ 4096 by omega) (show (0 : Int) ≤ 1 + 8192 + 4096 * 8192 by omega)
    omega
  unfold runMax
  omega

theorem wk_ne {nX nE nH : Nat} {Q : PreS} {X E H : List Int} : ∀ r ∈ pstR nX nE nH Q X E H, r.t ≠ 31 := by
  intro r hr
  simp only [pstR, List.mem_cons, List.not_mem_nil, or_false] at hr
  rcases hr with rfl | rfl | rfl
  · exact (show (2 : TypeId) ≠ 31 by decide)
  · exact (show (2 : TypeId) ≠ 31 by decide)
  · exact (show (3 : TypeId) ≠ 31 by decide)
/-- What Run answers. -/
def RetFin (N M s t : Nat) (fst hd rv : Nat → Nat) (cp : Nat → Int) (C : Nat) (X E H : List Int) (w : World) (e : Ending) (w' : World) : Prop :=
  ∃ (Q : PreS) (σ : FS), e = .returned (.tuple #[preW M N N Q, .agg #[.int .i64 (σ.P : Int), .int .i64 (σ.L : Int)]]) ∧ Fin N s t fst hd rv (fs0 s t N fst X E H) σ ∧ σ.q = [] ∧ HeadS N M s t fst hd rv cp C (hsum N H) σ ∧ Hx w w' w.heap.size (pstR M N N Q σ.X σ.E σ.H)

set_option maxHeartbeats 16000000 in
theorem frun_is (N M s t C gF gHd gR gC gA gB : Nat) (l : List ArcN) (Q : PreS) (fst hd rv ai : Nat → Nat) (cp : Nat → Int) (bk : Nat → Bool) (X E H : List Int) (w : World) (hA : CsrAt w w.heap.size N l gF gHd gR gC gA gB) (hc : checkF N s t l = 0) (hMe : firstOf l N = M)
    (hG : PNet N M s t fst hd rv ai cp bk) (hI : ∀ (W : World) (n0 gF gH gR gC gA gB : Nat), CsrAt W n0 N l gF gH gR gC gA gB → PIn W n0 N M (csrK N M gF gH gR gC gA gB) fst hd rv ai cp bk)
    (hQ : StIn w w.heap.size M N N Q X E H) (hS : StIs N M s t hd rv cp X E H) (hC : ∀ v, v < N → actB s t E v = true → hOf H v ≤ C) (hC2 : C ≤ 8192) :
    Calls Try.prog 18 #[csrV N M s t gF gHd gR gC gA gB, preW M N N Q] w (RetFin N M s t fst hd rv cp C X E H w) := by
  have hM := hG.nM; have hN := hG.nN; have hn2 := hG.n2
  obtain ⟨rX, rE, rH⟩ := st_inr hG hS
  have hhead := head_start hG hS hC
  have hLs := (hsum_le hG hS).1
  have hB := runMax_ok hN hM hC2
  have hmd := fun W (hb : Below w.heap.size w W) => made_is N M s t gF gHd gR gC gA gB l W (hA.on hb) hc hMe (by omega)
  have hpi := fun W (hb : Below w.heap.size w W) => hI W W.heap.size gF gHd gR gC gA gB (hA.on hb)
  have hrt := fun W (hb : Below w.heap.size w W) => pright_is N M s t M N N (csrK N M gF gHd gR gC gA gB) Q fst hd rv ai cp bk X E H W hG (hpi W hb) (hQ.on hb) rX rH true ⟨fun _ => ⟨rfl, rfl, rfl, hS⟩, fun _ => rfl⟩
  have hst := fun W (hb : Below w.heap.size w W) => fstart_is N M s t (csrK N M gF gHd gR gC gA gB) Q fst hd rv ai cp bk X E H W hG (hpi W hb) (hQ.on hb) hS
  have hfi := fun W0 W base g ch AX cX gE cE gH cH gn cn (hp : PIn W0 base N M (csrK N M gF gHd gR gC gA gB) fst hd rv ai cp bk) (hr : RunQ W0 W base g ch N M s t (csrK N M gF gHd gR gC gA gB) AX cX gE cE gH cH gn cn (fs0 s t N fst X E H)) => ffinish_is base g ch N M s t C (hsum N H) (csrK N M gF gHd gR gC gA gB) fst hd rv ai cp bk AX cX gE cE gH cH gn cn (fs0 s t N fst X E H) W0 W hG hp hr hhead hLs hB
  have HMD := Lib.hid hmd; have HPI := Lib.hid hpi; have HRT := Lib.hid hrt; have HST := Lib.hid hst; have HFI := Lib.hid hfi
  have HQX := Lib.hid hQ
  obtain ⟨AX, cX, AE, cE, AHH, cHH⟩ := Q
  dsimp only [csrW, preW, csrV] at HMD HRT HST ⊢
  clear rX rE rH hhead hLs hB hmd hpi hrt hst hfi hA hc hMe hG hI hQ hS hC hC2
  go_enter Try.func18, Try.ntmps18
  go_wp2_with fail
  obtain ⟨w0, hw0⟩ : ∃ w0, ((((w.alloc (.cells #[.int .i64 (N : Int), .int .i64 (s : Int), .int .i64 (t : Int), .slice (some ⟨gF, 0, none⟩) (N + 1) (N + 1), .slice (some ⟨gHd, 0, none⟩) M M, .slice (some ⟨gR, 0, none⟩) M M, .slice (some ⟨gC, 0, none⟩) M M, .slice (some ⟨gA, 0, none⟩) M M, .slice (some ⟨gB, 0, none⟩) M M] 45)).alloc (.cells #[.slice AX M cX, .slice AE N cE, .slice AHH N cHH] 49)).alloc (.cells #[.slice none 0 0, .slice none 0 0, .slice none 0 0] 49)).alloc (.cells #[.int .i64 0, .int .i64 0] 31)) = w0 := ⟨_, rfl⟩
  have B0 : Below w.heap.size w w0 := by rw [← hw0]; exact (((below_alloc _).alloc (by simp) _).alloc (by simp; omega) _).alloc (by simp; omega) _
  have K0 : Blk w0 w.heap.size 45 #[.int .i64 (N : Int), .int .i64 (s : Int), .int .i64 (t : Int), .slice (some ⟨gF, 0, none⟩) (N + 1) (N + 1), .slice (some ⟨gHd, 0, none⟩) M M, .slice (some ⟨gR, 0, none⟩) M M, .slice (some ⟨gC, 0, none⟩) M M, .slice (some ⟨gA, 0, none⟩) M M, .slice (some ⟨gB, 0, none⟩) M M] := by rw [← hw0]; exact (((Blk.new rfl).alloc _).alloc _).alloc _
  have D0 : Blk w0 (w.heap.size + 1) 49 #[.slice AX M cX, .slice AE N cE, .slice AHH N cHH] := by rw [← hw0]; exact ((Blk.new (by simp)).alloc _).alloc _
  have E0 : Blk w0 (w.heap.size + 2) 49 #[.slice none 0 0, .slice none 0 0, .slice none 0 0] := by rw [← hw0]; exact (Blk.new (by simp)).alloc _
  have F0 : Blk w0 (w.heap.size + 3) 31 #[.int .i64 0, .int .i64 0] := by rw [← hw0]; exact Blk.new (by simp)
  first | rw [hw0] | (simp only [Nat.add_assoc, Nat.reduceAdd] at hw0 ⊢; rw [hw0])
  clear hw0
  refine (HMD.out _ B0).mono ?_
  rintro e w1 ⟨rfl, X1⟩
  have B1 := below_step B0 X1; have K1 := K0.below X1 K0.lt; have D1 := D0.below X1 D0.lt; have E1 := E0.below X1 E0.lt; have F1 := F0.below X1 F0.lt
  obtain ⟨a0, a1, a2, a3, a4, a5, a6, a7, a8⟩ := K1.at9
  obtain ⟨⟨q0, q1, q2⟩, ⟨g0, g1, g2⟩, hz2⟩ := D1.full3
  have hz1 := K1.lt; have hz3 := E1.lt; have hz4 := F1.lt
  clear B0 K0 D0 E0 F0 X1
  go_wp2_with fail
  refine (HRT.out _ B1).mono ?_
  rintro e w2 ⟨rfl, X2⟩
  have B2 := below_step B1 X2; have K2 := K1.below X2 K1.lt; have D2 := D1.below X2 D1.lt; have E2 := E1.below X2 E1.lt; have F2 := F1.below X2 F1.lt
  clear a0 a1 a2 a3 a4 a5 a6 a7 a8 q0 q1 q2 g0 g1 g2 hz1 hz2 hz3 hz4
  obtain ⟨a0, a1, a2, a3, a4, a5, a6, a7, a8⟩ := K2.at9
  obtain ⟨⟨q0, q1, q2⟩, ⟨g0, g1, g2⟩, hz2⟩ := D2.full3
  have hz1 := K2.lt; have hz3 := E2.lt; have hz4 := F2.lt
  clear B1 K1 D1 E1 F1 X2
  go_wp2_with fail
  refine (HST.out _ B2).mono ?_
  rintro e w3 ⟨g, ch, AX2, cX2, gE, cE2, gH, cH2, gn, cn, rfl, R3⟩
  have X3 := R3.bel
  have hp3 := HPI.out _ B2
  have HB2 := Lib.hid B2; have HE2 := Lib.hid E2; have HFF2 := Lib.hid F2
  have B3 := below_step B2 X3; have K3 := K2.below X3 K2.lt; have D3 := D2.below X3 D2.lt; have E3 := E2.below X3 E2.lt; have F3 := F2.below X3 F2.lt
  clear a0 a1 a2 a3 a4 a5 a6 a7 a8 q0 q1 q2 g0 g1 g2 hz1 hz2 hz3 hz4
  obtain ⟨a0, a1, a2, a3, a4, a5, a6, a7, a8⟩ := K3.at9
  obtain ⟨⟨q0, q1, q2⟩, ⟨g0, g1, g2⟩, hz2⟩ := D3.full3
  have hz1 := K3.lt; have hz3 := E3.lt; have hz4 := F3.lt
  clear B2 K2 D2 E2 F2 X3
  have hcal := HFI.out _ _ _ _ _ _ _ _ _ _ _ _ _ hp3 R3
  have HCAL := Lib.hid hcal; have HR3 := Lib.hid R3
  have hzz := R3.kr.lt
  clear hcal R3 hp3
  go_wp2_with (go_at_call 45; refine HCAL.out.mono ?_; rintro e w4 ⟨⟨v4, rfl⟩, σ, h1, h2, R4, h4⟩; have HR4 := Lib.hid R4; have HF1 := Lib.hid h1; have HF2 := Lib.hid h2; have HF4 := Lib.hid h4; clear h1 h2 R4 h4)

  have hX4 := (Hx.front (rs := pstR M N N ⟨AX2, cX2, some ⟨gE, 0, none⟩, cE2, some ⟨gH, 0, none⟩, cH2⟩ σ.X σ.E σ.H) HR4.out.hx).low (base' := w.heap.size) (w1 := w) HB2.out.size HB2.out
  obtain ⟨w5, hw5⟩ : ∃ w5, w4.drew = w5 := ⟨_, rfl⟩
  have h45 : Below w4.heap.size w4 w5 := by rw [← hw5]; exact (Below.refl _ w4).drew
  have E4 := HE2.out.below HR4.out.bel HE2.out.lt; have F4 := HFF2.out.below HR4.out.bel HFF2.out.lt
  have E5 := E4.below h45 E4.lt; have F5 := F4.below h45 F4.lt
  have hX5 := hX4.on h45
  have R5 := HR4.out.on h45
  obtain ⟨-, ⟨c9, c10, c11⟩, ⟨c12, c13, -, -⟩, -, hzg⟩ := R5.cells
  have hgg : w2.heap.size ≤ g := R5.gb
  have hz2 := HFF2.out.lt
  have HGE := Lib.hid (show g ≠ w.heap.size + 2 ∧ g ≠ w.heap.size + 3 by omega)
  have HE5 := Lib.hid E5; have HF5 := Lib.hid F5; have HX5 := Lib.hid hX5; have HR5 := Lib.hid R5
  have hkeep : ∀ W, Blk W g 97 (runV N M s t (csrK N M gF gHd gR gC gA gB) AX2 cX2 gE cE2 gH cH2 σ.P σ.L ch gn cn) → W.cell? ⟨g, 9, none⟩ = some (.slice AX2 M cX2) ∧ W.cell? ⟨g, 10, none⟩ = some (.slice (some ⟨gE, 0, none⟩) N cE2) ∧ W.cell? ⟨g, 11, none⟩ = some (.slice (some ⟨gH, 0, none⟩) N cH2) ∧ W.cell? ⟨g, 12, none⟩ = some (.int .i64 (σ.P : Int)) ∧ W.cell? ⟨g, 13, none⟩ = some (.int .i64 (σ.L : Int)) := fun W h => ⟨h.cell 9, h.cell 10, h.cell 11, h.cell 12, h.cell 13⟩
  have HKEEP := Lib.hid hkeep
  clear hkeep E4 F4 E5 F5 hX4 hX5 R5 h45 c9 c10 c11 c12 c13 a0 a1 a2 a3 a4 a5 a6 a7 a8 q0 q1 q2 g0 g1 g2 hz1 hz3 hz4
  refine wp_region_held_drew (S := fun W => W.cell? ⟨g, 9, none⟩ = some (.slice AX2 M cX2) ∧ W.cell? ⟨g, 10, none⟩ = some (.slice (some ⟨gE, 0, none⟩) N cE2) ∧ W.cell? ⟨g, 11, none⟩ = some (.slice (some ⟨gH, 0, none⟩) N cH2) ∧ W.cell? ⟨g, 12, none⟩ = some (.int .i64 (σ.P : Int)) ∧ W.cell? ⟨g, 13, none⟩ = some (.int .i64 (σ.L : Int))) (by kernel_rfl) (by rw [hw5]; exact HKEEP.out _ HR5.out.kr) (fun hS0 => ?_)
  rw [hw5] at hS0 ⊢
  clear hw5
  simp only [Nat.add_assoc, Nat.reduceAdd]
  refine tk (v := ?_) 0 23 rfl ?_ ?_
  rotate_left
  · (intro W hSw; obtain ⟨c9, c10, c11, c12, c13⟩ := hSw; go_simp; try with_reducible rfl)
  simp only [Act.put, pa, pz, ps]
  refine tk (v := ?_) 1 24 rfl ?_ ?_
  rotate_left
  · (intro W hSw; obtain ⟨c9, c10, c11, c12, c13⟩ := hSw; go_simp; try with_reducible rfl)
  simp only [Act.put, pa, pz, ps]
  refine tk (v := ?_) 2 25 rfl ?_ ?_
  rotate_left
  · (intro W hSw; obtain ⟨c9, c10, c11, c12, c13⟩ := hSw; go_simp; try with_reducible rfl)
  simp only [Act.put, pa, pz, ps]
  refine tk (v := ?_) 3 26 rfl ?_ ?_
  rotate_left
  · (intro W hSw; obtain ⟨c9, c10, c11, c12, c13⟩ := hSw; go_simp; try with_reducible rfl)
  simp only [Act.put, pa, pz, ps]
  refine tk (v := ?_) 4 27 rfl ?_ ?_
  rotate_left
  · (intro W hSw; obtain ⟨c9, c10, c11, c12, c13⟩ := hSw; go_simp; try with_reducible rfl)
  simp only [Act.put, pa, pz, ps]
  refine tk (v := ?_) 5 28 rfl ?_ ?_
  rotate_left
  · (intro W hSw; obtain ⟨c9, c10, c11, c12, c13⟩ := hSw; go_simp; try with_reducible rfl)
  simp only [Act.put, pa, pz, ps]
  refine tk (v := ?_) 6 29 rfl ?_ ?_
  rotate_left
  · (intro W hSw; obtain ⟨c9, c10, c11, c12, c13⟩ := hSw; go_simp; try with_reducible rfl)
  simp only [Act.put, pa, pz, ps]
  refine tk (v := ?_) 7 30 rfl ?_ ?_
  rotate_left
  · (intro W hSw; obtain ⟨c9, c10, c11, c12, c13⟩ := hSw; go_simp; try with_reducible rfl)
  simp only [Act.put, pa, pz, ps]
  refine (have tail : Hid ?T := ?tailp; ?main)
  case main =>
    have hX := HX5.out; have hE := HE5.out; have hF := HF5.out; have hK0 := HR5.out.kr
    have hzw := hF.lt
    obtain ⟨⟨e0, e1, e2⟩, ⟨f0, f1, f2⟩, hze⟩ := hE.full3
    have p0 := hF.cell 0; have p1 := hF.cell 1; have r0 := hF.frozen 0; have r1 := hF.frozen 1
    simp only [List.getElem?_toArray, List.getElem?_cons_zero, List.getElem?_cons_succ] at p0 p1
    refine wpAnyH_ready (rs := [8]) (by kernel_rfl) (by simp) ?_
    refine AllReadyH.cons rfl (fun K hK => ?_) (AllReadyH.nil)
    · go_simp
      have hXn := hX.put3 (x := .slice AX2 M cX2) (y := .slice (some ⟨gE, 0, none⟩) N cE2) (z := .slice (some ⟨gH, 0, none⟩) N cH2) hE pst_ne (by omega)
      have hEn := hE.put3 (x := .slice AX2 M cX2) (y := .slice (some ⟨gE, 0, none⟩) N cE2) (z := .slice (some ⟨gH, 0, none⟩) N cH2)
      have hFn := hF.far3 (g := w.heap.size + 2) (x := .slice AX2 M cX2) (y := .slice (some ⟨gE, 0, none⟩) N cE2) (z := .slice (some ⟨gH, 0, none⟩) N cH2) (by omega)
      have hKn := hK0.far3 (g := w.heap.size + 2) (x := .slice AX2 M cX2) (y := .slice (some ⟨gE, 0, none⟩) N cE2) (z := .slice (some ⟨gH, 0, none⟩) N cH2) HGE.out.1
      refine hK.out _ _ (HKEEP.out _ hKn) (fun hSm => ?_)
      clear hK K
      clear hX hE hF hK0 hSm e0 e1 e2 f0 f1 f2 hze p0 p1 r0 r1 hzw
      dsimp only [put3] at hXn hEn hFn hKn
      have hX := hXn; have hE := hEn; have hF := hFn; have hK0 := hKn; clear hXn hEn hFn hKn
      have hzw := hF.lt
      generalize ((w5.setCell ⟨w.heap.size + 2, 0, none⟩ (.slice AX2 M cX2)).setCell ⟨w.heap.size + 2, 1, none⟩ (.slice (some ⟨gE, 0, none⟩) N cE2)).setCell ⟨w.heap.size + 2, 2, none⟩ (.slice (some ⟨gH, 0, none⟩) N cH2) = W6 at *
      obtain ⟨⟨e0, e1, e2⟩, ⟨f0, f1, f2⟩, hze⟩ := hE.full3
      have p0 := hF.cell 0; have p1 := hF.cell 1; have r0 := hF.frozen 0; have r1 := hF.frozen 1
      simp only [List.getElem?_toArray, List.getElem?_cons_zero, List.getElem?_cons_succ] at p0 p1
      refine wpAnyH_ready (rs := [9]) (by kernel_rfl) (by simp) ?_
      refine AllReadyH.cons rfl (fun K hK => ?_) (AllReadyH.nil)
      · go_simp
        have hXn := (hX.far hF wk_ne (by omega) 0 (.int .i64 (σ.P : Int))).far (hF.set 0 _) wk_ne (by omega) 1 (.int .i64 (σ.L : Int))
        have hFn : Blk _ _ _ #[.int .i64 (σ.P : Int), .int .i64 (σ.L : Int)] := (hF.set 0 (.int .i64 (σ.P : Int))).set 1 (.int .i64 (σ.L : Int))
        have hEn := (hE.far (p := ⟨w.heap.size + 3, 0, none⟩) (show w.heap.size + 2 ≠ w.heap.size + 3 by omega) (.int .i64 (σ.P : Int))).far (p := ⟨w.heap.size + 3, 1, none⟩) (show w.heap.size + 2 ≠ w.heap.size + 3 by omega) (.int .i64 (σ.L : Int))
        have hKn := (hK0.far (p := ⟨w.heap.size + 3, 0, none⟩) HGE.out.2 (.int .i64 (σ.P : Int))).far (p := ⟨w.heap.size + 3, 1, none⟩) HGE.out.2 (.int .i64 (σ.L : Int))
        refine hK.out _ _ (HKEEP.out _ hKn) (fun hSm => ?_)
        clear hK K
        clear hX hE hF hK0 hSm e0 e1 e2 f0 f1 f2 hze p0 p1 r0 r1 hzw
        have hX := hXn; have hE := hEn; have hF := hFn; have hK0 := hKn; clear hXn hEn hFn hKn
        have hzw := hF.lt
        generalize (W6.setCell ⟨w.heap.size + 3, 0, none⟩ (.int .i64 (σ.P : Int))).setCell ⟨w.heap.size + 3, 1, none⟩ (.int .i64 (σ.L : Int)) = W7 at *
        clear hK0 hzw
        revert hF
        revert hE
        revert hX
        revert W7
        exact tail.out
  case tailp =>
    refine Lib.hid ?_
    intro W hX hE hF
    obtain ⟨⟨e0, e1, e2⟩, -, -⟩ := hE.full3
    have p0 := hF.cell 0; have p1 := hF.cell 1
    simp only [List.getElem?_toArray, List.getElem?_cons_zero, List.getElem?_cons_succ] at p0 p1
    refine wpAnyH_done (by kernel_rfl) ?_ _
    go_wp2_with fail
    refine bodyPost_ret (v := .tuple #[.agg #[.slice AX2 M cX2, .slice (some ⟨gE, 0, none⟩) N cE2, .slice (some ⟨gH, 0, none⟩) N cH2], .agg #[.int .i64 (σ.P : Int), .int .i64 (σ.L : Int)]]) (by simp [results, Try.results18, go_sem, e0, e1, e2, p0, p1]) rfl ?_
    exact ⟨⟨AX2, cX2, some ⟨gE, 0, none⟩, cE2, some ⟨gH, 0, none⟩, cH2⟩, σ, rfl, HF1.out, HF2.out, HF4.out, hX⟩

end Go.Proofs.Ytfcjmhihheeifaa
