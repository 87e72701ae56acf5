/- Layer 7: Right. -/
import Derived.Test.YtanifbofjecpmaaActo
namespace Go.Proofs.Ytanifbofjecpmaa
open Go.RowKit
set_option maxRecDepth 100000

/-- Whether v is as it should be. -/
def vOk (N M s : Nat) (fst hd rv : Nat → Nat) (cp : Nat → Int) (X E H : List Int) (v : Nat) : Prop := (hOf E v = exT M hd rv cp X v ∧ (0 ≤ exT M hd rv cp X v ∨ v = s)) ∧ RhOk N fst hd X H v

theorem plus1_in {y : Int} (h0 : 0 ≤ y) (h1 : y < 100000000) : plus1 y = y + 1 := wrap_in (by omega) (by omega)
theorem vOk_all {N M s t : Nat} {fst hd rv ai : Nat → Nat} {cp : Nat → Int} {bk : Nat → Bool} {X E H : List Int} (hG : PNet N M s t fst hd rv ai cp bk) (hb : Bal M rv cp X) (hE : E.length = N) (hH : H.length = N) (hs : hOf H s = N) (ht : hOf H t = 0) :
    (∀ v, v < N → vOk N M s fst hd rv cp X E H v) ↔ StIs N M s t hd rv cp X E H := by
  have hN := hG.nN
  constructor
  · intro h
    refine ⟨hb, hE, hH, fun v hv => (h v hv).1.1, fun v hv hne => ?_, hs, ht, fun v hv => ⟨(h v hv).2.1, (h v hv).2.2.1⟩, fun a ha h0 => ?_⟩
    · have := (h v hv).1
      rcases this.2 with h2 | h2
      · omega
      · exact absurd h2 hne
    · have hr := hG.g.row ha
      have h1 := (h (hd (rv a)) (hG.mN ha)).2.2.2 a hr.1 hr.2.1 (opn_iff.2 h0)
      have h2 := (h (hd a) (hG.g.hdl a ha)).2
      rw [plus1_in h2.1 (by have := h2.2.1; omega)] at h1
      exact h1
  · intro h v hv
    refine ⟨⟨h.exc v hv, ?_⟩, (h.bnd v hv).1, (h.bnd v hv).2, fun a h1 h2 h3 => ?_⟩
    · by_cases e : v = s
      · exact .inr e
      · have := h.neg v hv e
        have := h.exc v hv
        exact .inl (by omega)
    · have hf := hG.g.fle (v := v + 1) (by omega)
      have ha : a < M := by omega
      have h4 := h.arc a ha (opn_iff.1 h3)
      rw [hG.g.tail v a hv h1 h2] at h4
      have h5 := h.bnd (hd a) (hG.g.hdl a ha)
      rw [plus1_in h5.1 (by omega)]
      exact h4

set_option maxHeartbeats 2000000 in
theorem rgt1_is (N M s t v g1 g2 : Nat) (K : CsrS) (Q : PreS) (fst hd rv ai : Nat → Nat) (cp : Nat → Int) (bk : Nat → Bool) (X E H : List Int) (w : World) (hG : PNet N M s t fst hd rv ai cp bk) (hI : PIn w w.heap.size N M K fst hd rv ai cp bk)
    (hC : Blk w g1 32 #[.int .i64 (N : Int), .int .i64 (s : Int), .int .i64 (t : Int), .slice K.AF (N + 1) K.cF, .slice K.AH M K.cH, .slice K.AR M K.cR, .slice K.AC M K.cC, .slice K.AA M K.cA, .slice K.AB M K.cB])
    (hP : Blk w g2 29 #[.slice Q.AX M Q.cX, .slice Q.AE N Q.cE, .slice Q.AH N Q.cH]) (hQ : StIn w w.heap.size M N N Q X E H) (hb : Bal M rv cp X) (hH : ∀ x ∈ H, InR x) (hv : v < N) (r : Bool) (hr : r = false ↔ vOk N M s fst hd rv cp X E H v) :
    Calls Try.prog 52 #[.int .i64 (v : Int), .pointer (some ⟨g1, 0, none⟩), .pointer (some ⟨g2, 0, none⟩)] w fun e w' => e = .returned (.bool r) ∧ Below w.heap.size w w' := by
  classical
  obtain ⟨r1, hr1⟩ : ∃ b : Bool, b = true ↔ (hOf E v = exT M hd rv cp X v ∧ (0 ≤ exT M hd rv cp X v ∨ v = s)) := ⟨decide _, decide_eq_true_iff⟩
  obtain ⟨r2, hr2⟩ : ∃ b : Bool, b = true ↔ RhOk N fst hd X H v := ⟨decide _, decide_eq_true_iff⟩
  have hrr : r = (!r1 || !r2) := by
    unfold vOk at hr
    rw [← hr1, ← hr2] at hr
    cases r1 <;> cases r2 <;> cases r <;> simp_all
  have HRR := Lib.hid hrr
  have hM := hG.nM; have hN := hG.nN
  have h1 := rx_is N M s t v N K Q fst hd rv ai cp bk X E H w hG hI hQ hb hv r1 hr1
  have h2 := fun W (hw : Below w.heap.size w W) => rh_is N M s t v N K Q fst hd rv X E H W hG.g (hI.gi.on hw) (hQ.on hw) hv (by omega) hN hH r2 hr2
  have H1 := Lib.hid h1; have H2 := Lib.hid h2
  clear h1 h2 hr1 hr2 hrr hr hG hI hQ hb hH
  obtain ⟨AF, cF, AH, cH, AR, cR, AC, cC, AA, cA, AB, cB⟩ := K
  obtain ⟨AX, cX, AE, cE, AHH, cHH⟩ := Q
  dsimp only [csrW, preW] at H1 H2 hC hP ⊢
  obtain ⟨a0, a1, a2, a3, a4, a5, a6, a7, a8⟩ := hC.at9
  have p0 := hP.cell 0; have p1 := hP.cell 1; have p2 := hP.cell 2
  simp only [List.getElem?_toArray, List.getElem?_cons_zero, List.getElem?_cons_succ] at p0 p1 p2
  have hz1 := hC.lt; have hz2 := hP.lt
  have HC := Lib.hid hC; have HP := Lib.hid hP
  clear hC hP
  go_enter Try.func52, Try.ntmps52
  go_wp2_with fail
  refine H1.out.mono ?_
  rintro e w2 ⟨rfl, B2⟩
  cases r1 with
  | false =>
    go_wp2_with fail
    go_ret
    exact ⟨ret_bool (by rw [HRR.out]; rfl), B2⟩
  | true =>
    have C2 := HC.out.below B2 HC.out.lt
    have P2 := HP.out.below B2 HP.out.lt
    clear a0 a1 a2 a3 a4 a5 a6 a7 a8 p0 p1 p2 hz1 hz2
    obtain ⟨a0, a1, a2, a3, a4, a5, a6, a7, a8⟩ := C2.at9
    have p0 := P2.cell 0; have p1 := P2.cell 1; have p2 := P2.cell 2
    simp only [List.getElem?_toArray, List.getElem?_cons_zero, List.getElem?_cons_succ] at p0 p1 p2
    have hz1 := C2.lt; have hz2 := P2.lt
    clear C2 P2 HC HP
    go_wp2_with fail
    refine (H2.out w2 B2).mono ?_
    rintro e w3 ⟨rfl, B3⟩
    go_wp2_with fail
    go_ret
    exact ⟨ret_bool (by rw [HRR.out]; cases r2 <;> rfl), below_step B2 B3⟩

set_option maxHeartbeats 16000000 in
theorem pright_is (N M s t nX nE nH : Nat) (K : CsrS) (Q : PreS) (fst hd rv ai : Nat → Nat) (cp : Nat → Int) (bk : Nat → Bool) (X E H : List Int) (w : World) (hG : PNet N M s t fst hd rv ai cp bk) (hI : PIn w w.heap.size N M K fst hd rv ai cp bk) (hQ : StIn w w.heap.size nX nE nH Q X E H)
    (hX : ∀ x ∈ X, InR x) (hH : ∀ x ∈ H, InR x) (r : Bool) (hr : r = true ↔ nX = M ∧ nE = N ∧ nH = N ∧ StIs N M s t hd rv cp X E H) :
    Calls Try.prog 23 #[csrW N M s t K, preW nX nE nH Q] w fun e w' => e = .returned (.bool r) ∧ Below w.heap.size w w' := by
  classical
  have hM := hG.nM; have hN := hG.nN; have hsN := hG.hs; have htN := hG.ht
  obtain ⟨fb, hfb⟩ : ∃ fb, decide (nX = M ∧ nE = N ∧ nH = N) = fb := ⟨_, rfl⟩
  have hfit := fun W (hb : Below w.heap.size w W) => pfit_is N M s t K nX nE nH Q fst hd rv W hG.g (hI.gi.on hb) hG.hs hG.ht hN (by omega) fb hfb
  have HF := Lib.hid hfit; have HG := Lib.hid hG; have HI := Lib.hid hI; have HQ := Lib.hid hQ; have HX := Lib.hid hX; have HH := Lib.hid hH; have HR := Lib.hid hr
  obtain ⟨wb, hwb⟩ : ∃ b : Bool, b = true ↔ Bal M rv cp X := ⟨decide _, decide_eq_true_iff⟩
  have hwith := fun (hx : nX = M) W (hb : Below w.heap.size w W) => within_is N M s t K fst hd rv ai cp bk Q.AX Q.cX X wb W hG (hI.on hb) (by rw [← hx]; exact (hQ.on hb).iX) hX hwb
  have HW := Lib.hid hwith; have HWB := Lib.hid hwb
  have hvt := fun (hx : nX = M) (he : nE = N) (hh : nH = N) (hbl : Bal M rv cp X) (p : Nat → Bool) (hp : ∀ v, p v = false ↔ vOk N M s fst hd rv cp X E H v) W (hb : Below w.heap.size w W) g1 g2 (hC : Blk W g1 32 #[.int .i64 (N : Int), .int .i64 (s : Int), .int .i64 (t : Int), .slice K.AF (N + 1) K.cF, .slice K.AH M K.cH, .slice K.AR M K.cR, .slice K.AC M K.cC, .slice K.AA M K.cA, .slice K.AB M K.cB])
    (hP : Blk W g2 29 #[.slice Q.AX M Q.cX, .slice Q.AE N Q.cE, .slice Q.AH N Q.cH]) => verts_is N M s t K 52 #[.pointer (some ⟨g1, 0, none⟩), .pointer (some ⟨g2, 0, none⟩)] p W (by omega)
      (fun k W2 hk hb2 => rgt1_is N M s t k g1 g2 K Q fst hd rv ai cp bk X E H W2 hG ((hI.on hb).on hb2) (hC.below hb2 hC.lt) (hP.below hb2 hP.lt) (by subst hx; subst he; subst hh; exact (hQ.on hb).on hb2) hbl hH hk _ (hp k)) (enters_of Try.func52 (by kernel_rfl) rfl)
  have HV := Lib.hid hvt
  obtain ⟨AF, cF, AH, cH, AR, cR, AC, cC, AA, cA, AB, cB⟩ := K
  obtain ⟨AX, cX, AE, cE, AHH, cHH⟩ := Q
  dsimp only [csrW, preW] at HF HV HW ⊢
  clear hfit hvt hwith hI hQ hG hX hH hr hwb
  go_enter Try.func23, Try.ntmps23
  go_wp2_with fail
  obtain ⟨w1, hw1⟩ : ∃ w1, ((w.alloc (.cells #[.int .i64 (N : Int), .int .i64 (s : Int), .int .i64 (t : Int), .slice AF (N + 1) cF, .slice AH M cH, .slice AR M cR, .slice AC M cC, .slice AA M cA, .slice AB M cB] 32)).alloc (.cells #[.slice AX nX cX, .slice AE nE cE, .slice AHH nH cHH] 29)) = w1 := ⟨_, rfl⟩
  have B1 : Below w.heap.size w w1 := by rw [← hw1]; exact ((Below.refl _ w).alloc (Nat.le_refl _) _).alloc (by simp) _
  have C1 : Blk w1 w.heap.size 32 #[.int .i64 (N : Int), .int .i64 (s : Int), .int .i64 (t : Int), .slice AF (N + 1) cF, .slice AH M cH, .slice AR M cR, .slice AC M cC, .slice AA M cA, .slice AB M cB] := by rw [← hw1]; exact (Blk.new rfl).alloc _
  have P1 : Blk w1 (w.heap.size + 1) 29 #[.slice AX nX cX, .slice AE nE cE, .slice AHH nH cHH] := by rw [← hw1]; exact Blk.new (by simp)
  rw [hw1]
  clear hw1
  have hkeep : ∀ W', Below w1.heap.size w1 W' → Below w1.heap.size w1 W' ∧ W'.cell? ⟨w.heap.size, 0, none⟩ = some (.int .i64 (N : Int)) ∧ W'.cell? ⟨w.heap.size, 1, none⟩ = some (.int .i64 (s : Int)) ∧ W'.cell? ⟨w.heap.size, 2, none⟩ = some (.int .i64 (t : Int)) ∧ W'.cell? ⟨w.heap.size, 3, none⟩ = some (.slice AF (N + 1) cF) ∧ W'.cell? ⟨w.heap.size, 4, none⟩ = some (.slice AH M cH) ∧ W'.cell? ⟨w.heap.size, 5, none⟩ = some (.slice AR M cR) ∧ W'.cell? ⟨w.heap.size, 6, none⟩ = some (.slice AC M cC) ∧ W'.cell? ⟨w.heap.size, 7, none⟩ = some (.slice AA M cA) ∧ W'.cell? ⟨w.heap.size, 8, none⟩ = some (.slice AB M cB) ∧ W'.cell? ⟨w.heap.size + 1, 0, none⟩ = some (.slice AX nX cX) ∧ W'.cell? ⟨w.heap.size + 1, 1, none⟩ = some (.slice AE nE cE) ∧ W'.cell? ⟨w.heap.size + 1, 2, none⟩ = some (.slice AHH nH cHH) := by
    intro W' hb
    have C2 := C1.below hb C1.lt
    have P2 := P1.below hb P1.lt
    obtain ⟨a0, a1, a2, a3, a4, a5, a6, a7, a8⟩ := C2.at9
    have p0 := P2.cell 0; have p1 := P2.cell 1; have p2 := P2.cell 2
    simp only [List.getElem?_toArray, List.getElem?_cons_zero, List.getElem?_cons_succ] at p0 p1 p2
    exact ⟨hb, a0, a1, a2, a3, a4, a5, a6, a7, a8, p0, p1, p2⟩
  have HKEEP := Lib.hid hkeep
  have hf2 := fun W (hb : Below w1.heap.size w1 W) => HF.out W (below_step B1 hb)
  have HF2 := Lib.hid hf2
  have HB1 := Lib.hid B1; have HC1 := Lib.hid C1; have HP1 := Lib.hid P1
  have hst1 := fun (hx : nX = M) (he : nE = N) (hh : nH = N) => (show StIn w1 w1.heap.size M N N ⟨AX, cX, AE, cE, AHH, cHH⟩ X E H by subst hx; subst he; subst hh; exact HQ.out.on B1)
  have HST := Lib.hid hst1
  have HFB := Lib.hid hfb
  clear hkeep C1 P1 HF hf2 B1 hst1 hfb
  cases fb with
  | false =>
    have hrf : r = false := by
      cases r with
      | false => rfl
      | true => have := HR.out.1 rfl; exact absurd ⟨this.1, this.2.1, this.2.2.1⟩ (of_decide_eq_false HFB.out)
    subst hrf
    clear HV HW HST
    refine wp_region_held_drew (S := fun W' => Below w1.heap.size w1 W' ∧ W'.cell? ⟨w.heap.size, 0, none⟩ = some (.int .i64 (N : Int)) ∧ W'.cell? ⟨w.heap.size, 1, none⟩ = some (.int .i64 (s : Int)) ∧ W'.cell? ⟨w.heap.size, 2, none⟩ = some (.int .i64 (t : Int)) ∧ W'.cell? ⟨w.heap.size, 3, none⟩ = some (.slice AF (N + 1) cF) ∧ W'.cell? ⟨w.heap.size, 4, none⟩ = some (.slice AH M cH) ∧ W'.cell? ⟨w.heap.size, 5, none⟩ = some (.slice AR M cR) ∧ W'.cell? ⟨w.heap.size, 6, none⟩ = some (.slice AC M cC) ∧ W'.cell? ⟨w.heap.size, 7, none⟩ = some (.slice AA M cA) ∧ W'.cell? ⟨w.heap.size, 8, none⟩ = some (.slice AB M cB) ∧ W'.cell? ⟨w.heap.size + 1, 0, none⟩ = some (.slice AX nX cX) ∧ W'.cell? ⟨w.heap.size + 1, 1, none⟩ = some (.slice AE nE cE) ∧ W'.cell? ⟨w.heap.size + 1, 2, none⟩ = some (.slice AHH nH cHH)) (by kernel_rfl) (HKEEP.out _ (Below.refl _ _).drew) (fun hS0 => ?_)
    refine tk (v := ?_) 0 6 rfl ?_ ?_
    rotate_left
    · (intro W hSw; go_split_ands; go_simp; try with_reducible rfl)
    simp only [Act.put, pa, pz, ps]
    refine tk (v := ?_) 1 7 rfl ?_ ?_
    rotate_left
    · (intro W hSw; go_split_ands; go_simp; try with_reducible rfl)
    simp only [Act.put, pa, pz, ps]
    refine wpAnyH_ready (rs := [2]) (by kernel_rfl) (by simp) ?_
    refine AllReadyH.cons rfl (fun K hK => ?_) AllReadyH.nil
    go_simp
    first
      | (go_at_call 49; go_split_ands; ((with_reducible refine (HF2.out _ (by assumption)).mono ?_); rintro e W8 ⟨rfl, B8⟩); refine hK.out _ _ (HKEEP.out _ (by refine below_step ?_ B8; assumption)) (fun hS3 => ?_))
    clear hK K
    try simp only [Act.put, pa, pz, ps]
    refine tk (v := ?_) 3 9 rfl ?_ ?_
    rotate_left
    · (intro W hSw; go_split_ands; go_simp; try with_reducible rfl)
    simp only [Act.put, pa, pz, ps]
    refine tk (v := ?_) 4 10 rfl ?_ ?_
    rotate_left
    · (intro W hSw; go_split_ands; go_simp; try with_reducible rfl)
    simp only [Act.put, pa, pz, ps]
    first
      | (refine tk (v := ?_) 5 11 rfl ?_ ?_
         rotate_left
         · (intro W hSw; go_split_ands; go_simp; try with_reducible rfl))
      | (refine tu 5 11 rfl ?_)
    simp only [Act.put, pa, pz, ps]
    first
      | (refine tk (v := ?_) 6 12 rfl ?_ ?_
         rotate_left
         · (intro W hSw; go_split_ands; go_simp; try with_reducible rfl))
      | (refine tu 6 12 rfl ?_)
    simp only [Act.put, pa, pz, ps]
    first
      | (refine tk (v := ?_) 7 13 rfl ?_ ?_
         rotate_left
         · (intro W hSw; go_split_ands; go_simp; try with_reducible rfl))
      | (refine tu 7 13 rfl ?_)
    simp only [Act.put, pa, pz, ps]
    refine wpAnyH_ready (rs := [8]) (by kernel_rfl) (by simp) ?_
    refine AllReadyH.cons rfl (fun K hK => ?_) AllReadyH.nil
    go_simp
    first
      | (go_at_call 50; go_split_ands; ((with_reducible refine (HW2.out _ (by assumption)).mono ?_); rintro e W8 ⟨rfl, B8⟩); refine hK.out _ _ (HKEEP.out _ (by refine below_step ?_ B8; assumption)) (fun hS9 => ?_))
      | (refine hK.out _ _ (by assumption) (fun hS9 => ?_))
    clear hK K
    try simp only [Act.put, pa, pz, ps]
    first
      | (refine tk (v := ?_) 9 15 rfl ?_ ?_
         rotate_left
         · (intro W hSw; go_split_ands; go_simp; try with_reducible rfl))
      | (refine tu 9 15 rfl ?_)
    simp only [Act.put, pa, pz, ps]
    refine tk (v := ?_) 10 16 rfl ?_ ?_
    rotate_left
    · (intro W hSw; go_split_ands; go_simp; try with_reducible rfl)
    simp only [Act.put, pa, pz, ps]
    refine tk (v := ?_) 11 17 rfl ?_ ?_
    rotate_left
    · (intro W hSw; go_split_ands; go_simp; try with_reducible rfl)
    simp only [Act.put, pa, pz, ps]
    first
      | (refine tk (v := ?_) 12 18 rfl ?_ ?_
         rotate_left
         · (intro W hSw; go_split_ands; go_simp; try with_reducible rfl))
      | (refine tu 12 18 rfl ?_)
    simp only [Act.put, pa, pz, ps]
    first
      | (refine tk (v := ?_) 13 19 rfl ?_ ?_
         rotate_left
         · (intro W hSw; go_split_ands; go_simp; try with_reducible rfl))
      | (refine tu 13 19 rfl ?_)
    simp only [Act.put, pa, pz, ps]
    first
      | (refine tk (v := ?_) 14 20 rfl ?_ ?_
         rotate_left
         · (intro W hSw; go_split_ands; go_simp; try with_reducible rfl))
      | (refine tu 14 20 rfl ?_)
    simp only [Act.put, pa, pz, ps]
    first
      | (refine tk (v := ?_) 15 21 rfl ?_ ?_
         rotate_left
         · (intro W hSw; go_split_ands; go_simp; try with_reducible rfl))
      | (refine tu 15 21 rfl ?_)
    simp only [Act.put, pa, pz, ps]
    first
      | (refine tk (v := ?_) 16 22 rfl ?_ ?_
         rotate_left
         · (intro W hSw; go_split_ands; go_simp; try with_reducible rfl))
      | (refine tu 16 22 rfl ?_)
    simp only [Act.put, pa, pz, ps]
    first
      | (refine tk (v := ?_) 17 23 rfl ?_ ?_
         rotate_left
         · (intro W hSw; go_split_ands; go_simp; try with_reducible rfl))
      | (refine tu 17 23 rfl ?_)
    simp only [Act.put, pa, pz, ps]
    first
      | (refine tk (v := ?_) 18 24 rfl ?_ ?_
         rotate_left
         · (intro W hSw; go_split_ands; go_simp; try with_reducible rfl))
      | (refine tu 18 24 rfl ?_)
    simp only [Act.put, pa, pz, ps]
    first
      | (refine tk (v := ?_) 19 25 rfl ?_ ?_
         rotate_left
         · (intro W hSw; go_split_ands; go_simp; try with_reducible rfl))
      | (refine tu 19 25 rfl ?_)
    simp only [Act.put, pa, pz, ps]
    first
      | (refine tk (v := ?_) 20 26 rfl ?_ ?_
         rotate_left
         · (intro W hSw; go_split_ands; go_simp; try with_reducible rfl))
      | (refine tu 20 26 rfl ?_)
    simp only [Act.put, pa, pz, ps]
    refine tk (v := ?_) 21 27 rfl ?_ ?_
    rotate_left
    · (intro W hSw; go_split_ands; go_simp; try with_reducible rfl)
    simp only [Act.put, pa, pz, ps]
    refine tk (v := ?_) 22 28 rfl ?_ ?_
    rotate_left
    · (intro W hSw; go_split_ands; go_simp; try with_reducible rfl)
    simp only [Act.put, pa, pz, ps]
    first
      | (refine tk (v := ?_) 23 29 rfl ?_ ?_
         rotate_left
         · (intro W hSw; go_split_ands; go_simp; try with_reducible rfl))
      | (refine tu 23 29 rfl ?_)
    simp only [Act.put, pa, pz, ps]
    first
      | (refine tk (v := ?_) 24 30 rfl ?_ ?_
         rotate_left
         · (intro W hSw; go_split_ands; go_simp; try with_reducible rfl))
      | (refine tu 24 30 rfl ?_)
    simp only [Act.put, pa, pz, ps]
    first
      | (refine tk (v := ?_) 25 31 rfl ?_ ?_
         rotate_left
         · (intro W hSw; go_split_ands; go_simp; try with_reducible rfl))
      | (refine tu 25 31 rfl ?_)
    simp only [Act.put, pa, pz, ps]
    first
      | (refine tk (v := ?_) 26 32 rfl ?_ ?_
         rotate_left
         · (intro W hSw; go_split_ands; go_simp; try with_reducible rfl))
      | (refine tu 26 32 rfl ?_)
    simp only [Act.put, pa, pz, ps]
    first
      | (refine tk (v := ?_) 27 33 rfl ?_ ?_
         rotate_left
         · (intro W hSw; go_split_ands; go_simp; try with_reducible rfl))
      | (refine tu 27 33 rfl ?_)
    simp only [Act.put, pa, pz, ps]
    first
      | (refine tk (v := ?_) 28 34 rfl ?_ ?_
         rotate_left
         · (intro W hSw; go_split_ands; go_simp; try with_reducible rfl))
      | (refine tu 28 34 rfl ?_)
    simp only [Act.put, pa, pz, ps]
    first
      | (refine tk (v := ?_) 29 35 rfl ?_ ?_
         rotate_left
         · (intro W hSw; go_split_ands; go_simp; try with_reducible rfl))
      | (refine tu 29 35 rfl ?_)
    simp only [Act.put, pa, pz, ps]
    refine tk (v := ?_) 30 36 rfl ?_ ?_
    rotate_left
    · (intro W hSw; go_split_ands; go_simp; try with_reducible rfl)
    simp only [Act.put, pa, pz, ps]
    refine wpAnyH_done (by kernel_rfl) ?_ _
    go_wp2_with fail
    go_ret
    exact ⟨rfl, below_step HB1.out (by first | assumption | (go_split_ands; assumption))⟩
  | true =>
    obtain ⟨hx, he, hh⟩ := of_decide_eq_true HFB.out
    have hw2 := fun W (hb : Below w1.heap.size w1 W) => HW.out hx W (below_step HB1.out hb)
    have HW2 := Lib.hid hw2
    have hv2 := HV.out hx he hh
    have HV2 := Lib.hid hv2
    have hst := HST.out hx he hh
    have hr2 : r = true ↔ StIs N M s t hd rv cp X E H := HR.out.trans ⟨fun h => h.2.2.2, fun h => ⟨hx, he, hh, h⟩⟩
    have HR2 := Lib.hid hr2
    have hk2 : ∀ W', Below w1.heap.size w1 W' → Below w1.heap.size w1 W' ∧ W'.cell? ⟨w.heap.size, 0, none⟩ = some (.int .i64 (N : Int)) ∧ W'.cell? ⟨w.heap.size, 1, none⟩ = some (.int .i64 (s : Int)) ∧ W'.cell? ⟨w.heap.size, 2, none⟩ = some (.int .i64 (t : Int)) ∧ W'.cell? ⟨w.heap.size, 3, none⟩ = some (.slice AF (N + 1) cF) ∧ W'.cell? ⟨w.heap.size, 4, none⟩ = some (.slice AH M cH) ∧ W'.cell? ⟨w.heap.size, 5, none⟩ = some (.slice AR M cR) ∧ W'.cell? ⟨w.heap.size, 6, none⟩ = some (.slice AC M cC) ∧ W'.cell? ⟨w.heap.size, 7, none⟩ = some (.slice AA M cA) ∧ W'.cell? ⟨w.heap.size, 8, none⟩ = some (.slice AB M cB) ∧ W'.cell? ⟨w.heap.size + 1, 0, none⟩ = some (.slice AX M cX) ∧ W'.cell? ⟨w.heap.size + 1, 1, none⟩ = some (.slice AE N cE) ∧ W'.cell? ⟨w.heap.size + 1, 2, none⟩ = some (.slice AHH N cHH) := fun W' hb => by
      have h := HKEEP.out W' hb
      rw [hx, he, hh] at h
      exact h
    have HKEEPB := Lib.hid hk2
    have hP1 := HP1.out
    rw [hx, he, hh] at hP1
    have HP2 := Lib.hid hP1
    have hE := HQ.out.iE.len; have hL := HQ.out.iH.len
    rw [he] at hE
    rw [hh] at hL
    have HEL := Lib.hid hE; have HHL := Lib.hid hL
    clear HV HW HST hw2 hv2 hr2 HR hk2 HKEEP HP1 hP1 HFB HQ hE hL
    simp only [hx, he, hh] at HF2 ⊢
    clear hx he hh
    cases wb with
    | false =>
      have hrf : r = false := by
        cases r with
        | false => rfl
        | true => exact absurd (HWB.out.2 (HR2.out.1 rfl).bal) (by simp)
      subst hrf
      clear hst
      refine wp_region_held_drew (S := fun W' => Below w1.heap.size w1 W' ∧ W'.cell? ⟨w.heap.size, 0, none⟩ = some (.int .i64 (N : Int)) ∧ W'.cell? ⟨w.heap.size, 1, none⟩ = some (.int .i64 (s : Int)) ∧ W'.cell? ⟨w.heap.size, 2, none⟩ = some (.int .i64 (t : Int)) ∧ W'.cell? ⟨w.heap.size, 3, none⟩ = some (.slice AF (N + 1) cF) ∧ W'.cell? ⟨w.heap.size, 4, none⟩ = some (.slice AH M cH) ∧ W'.cell? ⟨w.heap.size, 5, none⟩ = some (.slice AR M cR) ∧ W'.cell? ⟨w.heap.size, 6, none⟩ = some (.slice AC M cC) ∧ W'.cell? ⟨w.heap.size, 7, none⟩ = some (.slice AA M cA) ∧ W'.cell? ⟨w.heap.size, 8, none⟩ = some (.slice AB M cB) ∧ W'.cell? ⟨w.heap.size + 1, 0, none⟩ = some (.slice AX M cX) ∧ W'.cell? ⟨w.heap.size + 1, 1, none⟩ = some (.slice AE N cE) ∧ W'.cell? ⟨w.heap.size + 1, 2, none⟩ = some (.slice AHH N cHH)) (by kernel_rfl) (HKEEPB.out _ (Below.refl _ _).drew) (fun hS0 => ?_)
      refine tk (v := ?_) 0 6 rfl ?_ ?_
      rotate_left
      · (intro W hSw; go_split_ands; go_simp; try with_reducible rfl)
      simp only [Act.put, pa, pz, ps]
      refine tk (v := ?_) 1 7 rfl ?_ ?_
      rotate_left
      · (intro W hSw; go_split_ands; go_simp; try with_reducible rfl)
      simp only [Act.put, pa, pz, ps]
      refine wpAnyH_ready (rs := [2]) (by kernel_rfl) (by simp) ?_
      refine AllReadyH.cons rfl (fun K hK => ?_) AllReadyH.nil
      go_simp
      first
        | (go_at_call 49; go_split_ands; ((with_reducible refine (HF2.out _ (by assumption)).mono ?_); rintro e W8 ⟨rfl, B8⟩); refine hK.out _ _ (HKEEPB.out _ (by refine below_step ?_ B8; assumption)) (fun hS3 => ?_))
      clear hK K
      try simp only [Act.put, pa, pz, ps]
      refine tk (v := ?_) 3 9 rfl ?_ ?_
      rotate_left
      · (intro W hSw; go_split_ands; go_simp; try with_reducible rfl)
      simp only [Act.put, pa, pz, ps]
      refine tk (v := ?_) 4 10 rfl ?_ ?_
      rotate_left
      · (intro W hSw; go_split_ands; go_simp; try with_reducible rfl)
      simp only [Act.put, pa, pz, ps]
      first
        | (refine tk (v := ?_) 5 11 rfl ?_ ?_
           rotate_left
           · (intro W hSw; go_split_ands; go_simp; try with_reducible rfl))
        | (refine tu 5 11 rfl ?_)
      simp only [Act.put, pa, pz, ps]
      first
        | (refine tk (v := ?_) 6 12 rfl ?_ ?_
           rotate_left
           · (intro W hSw; go_split_ands; go_simp; try with_reducible rfl))
        | (refine tu 6 12 rfl ?_)
      simp only [Act.put, pa, pz, ps]
      first
        | (refine tk (v := ?_) 7 13 rfl ?_ ?_
           rotate_left
           · (intro W hSw; go_split_ands; go_simp; try with_reducible rfl))
        | (refine tu 7 13 rfl ?_)
      simp only [Act.put, pa, pz, ps]
      refine wpAnyH_ready (rs := [8]) (by kernel_rfl) (by simp) ?_
      refine AllReadyH.cons rfl (fun K hK => ?_) AllReadyH.nil
      go_simp
      first
        | (go_at_call 50; go_split_ands; ((with_reducible refine (HW2.out _ (by assumption)).mono ?_); rintro e W8 ⟨rfl, B8⟩); refine hK.out _ _ (HKEEPB.out _ (by refine below_step ?_ B8; assumption)) (fun hS9 => ?_))
        | (refine hK.out _ _ (by assumption) (fun hS9 => ?_))
      clear hK K
      try simp only [Act.put, pa, pz, ps]
      first
        | (refine tk (v := ?_) 9 15 rfl ?_ ?_
           rotate_left
           · (intro W hSw; go_split_ands; go_simp; try with_reducible rfl))
        | (refine tu 9 15 rfl ?_)
      simp only [Act.put, pa, pz, ps]
      refine tk (v := ?_) 10 16 rfl ?_ ?_
      rotate_left
      · (intro W hSw; go_split_ands; go_simp; try with_reducible rfl)
      simp only [Act.put, pa, pz, ps]
      refine tk (v := ?_) 11 17 rfl ?_ ?_
      rotate_left
      · (intro W hSw; go_split_ands; go_simp; try with_reducible rfl)
      simp only [Act.put, pa, pz, ps]
      first
        | (refine tk (v := ?_) 12 18 rfl ?_ ?_
           rotate_left
           · (intro W hSw; go_split_ands; go_simp; try with_reducible rfl))
        | (refine tu 12 18 rfl ?_)
      simp only [Act.put, pa, pz, ps]
      first
        | (refine tk (v := ?_) 13 19 rfl ?_ ?_
           rotate_left
           · (intro W hSw; go_split_ands; go_simp; try with_reducible rfl))
        | (refine tu 13 19 rfl ?_)
      simp only [Act.put, pa, pz, ps]
      first
        | (refine tk (v := ?_) 14 20 rfl ?_ ?_
           rotate_left
           · (intro W hSw; go_split_ands; go_simp; try with_reducible rfl))
        | (refine tu 14 20 rfl ?_)
      simp only [Act.put, pa, pz, ps]
      first
        | (refine tk (v := ?_) 15 21 rfl ?_ ?_
           rotate_left
           · (intro W hSw; go_split_ands; go_simp; try with_reducible rfl))
        | (refine tu 15 21 rfl ?_)
      simp only [Act.put, pa, pz, ps]
      first
        | (refine tk (v := ?_) 16 22 rfl ?_ ?_
           rotate_left
           · (intro W hSw; go_split_ands; go_simp; try with_reducible rfl))
        | (refine tu 16 22 rfl ?_)
      simp only [Act.put, pa, pz, ps]
      first
        | (refine tk (v := ?_) 17 23 rfl ?_ ?_
           rotate_left
           · (intro W hSw; go_split_ands; go_simp; try with_reducible rfl))
        | (refine tu 17 23 rfl ?_)
      simp only [Act.put, pa, pz, ps]
      first
        | (refine tk (v := ?_) 18 24 rfl ?_ ?_
           rotate_left
           · (intro W hSw; go_split_ands; go_simp; try with_reducible rfl))
        | (refine tu 18 24 rfl ?_)
      simp only [Act.put, pa, pz, ps]
      first
        | (refine tk (v := ?_) 19 25 rfl ?_ ?_
           rotate_left
           · (intro W hSw; go_split_ands; go_simp; try with_reducible rfl))
        | (refine tu 19 25 rfl ?_)
      simp only [Act.put, pa, pz, ps]
      first
        | (refine tk (v := ?_) 20 26 rfl ?_ ?_
           rotate_left
           · (intro W hSw; go_split_ands; go_simp; try with_reducible rfl))
        | (refine tu 20 26 rfl ?_)
      simp only [Act.put, pa, pz, ps]
      refine tk (v := ?_) 21 27 rfl ?_ ?_
      rotate_left
      · (intro W hSw; go_split_ands; go_simp; try with_reducible rfl)
      simp only [Act.put, pa, pz, ps]
      refine tk (v := ?_) 22 28 rfl ?_ ?_
      rotate_left
      · (intro W hSw; go_split_ands; go_simp; try with_reducible rfl)
      simp only [Act.put, pa, pz, ps]
      first
        | (refine tk (v := ?_) 23 29 rfl ?_ ?_
           rotate_left
           · (intro W hSw; go_split_ands; go_simp; try with_reducible rfl))
        | (refine tu 23 29 rfl ?_)
      simp only [Act.put, pa, pz, ps]
      first
        | (refine tk (v := ?_) 24 30 rfl ?_ ?_
           rotate_left
           · (intro W hSw; go_split_ands; go_simp; try with_reducible rfl))
        | (refine tu 24 30 rfl ?_)
      simp only [Act.put, pa, pz, ps]
      first
        | (refine tk (v := ?_) 25 31 rfl ?_ ?_
           rotate_left
           · (intro W hSw; go_split_ands; go_simp; try with_reducible rfl))
        | (refine tu 25 31 rfl ?_)
      simp only [Act.put, pa, pz, ps]
      first
        | (refine tk (v := ?_) 26 32 rfl ?_ ?_
           rotate_left
           · (intro W hSw; go_split_ands; go_simp; try with_reducible rfl))
        | (refine tu 26 32 rfl ?_)
      simp only [Act.put, pa, pz, ps]
      first
        | (refine tk (v := ?_) 27 33 rfl ?_ ?_
           rotate_left
           · (intro W hSw; go_split_ands; go_simp; try with_reducible rfl))
        | (refine tu 27 33 rfl ?_)
      simp only [Act.put, pa, pz, ps]
      first
        | (refine tk (v := ?_) 28 34 rfl ?_ ?_
           rotate_left
           · (intro W hSw; go_split_ands; go_simp; try with_reducible rfl))
        | (refine tu 28 34 rfl ?_)
      simp only [Act.put, pa, pz, ps]
      first
        | (refine tk (v := ?_) 29 35 rfl ?_ ?_
           rotate_left
           · (intro W hSw; go_split_ands; go_simp; try with_reducible rfl))
        | (refine tu 29 35 rfl ?_)
      simp only [Act.put, pa, pz, ps]
      refine tk (v := ?_) 30 36 rfl ?_ ?_
      rotate_left
      · (intro W hSw; go_split_ands; go_simp; try with_reducible rfl)
      simp only [Act.put, pa, pz, ps]
      refine wpAnyH_done (by kernel_rfl) ?_ _
      go_wp2_with fail
      go_ret
      exact ⟨rfl, below_step HB1.out (by first | assumption | (go_split_ands; assumption))⟩
    | true =>
      have hbal := HWB.out.1 rfl
      obtain ⟨bH, oH, hHa⟩ := hst.iH.adr (by omega)
      dsimp only at hHa
      subst hHa
      obtain ⟨hbH, cs⟩ := hst.iH.cel (hOf_get hst.iH.len hsN)
      obtain ⟨-, ct⟩ := hst.iH.cel (hOf_get hst.iH.len htN)
      obtain ⟨ys, hys⟩ : ∃ y, hOf H s = y := ⟨_, rfl⟩
      obtain ⟨yt, hyt⟩ : ∃ y, hOf H t = y := ⟨_, rfl⟩
      rw [hys] at cs
      rw [hyt] at ct
      have hk2 : ∀ W', Below w1.heap.size w1 W' → Below w1.heap.size w1 W' ∧ W'.cell? ⟨w.heap.size, 0, none⟩ = some (.int .i64 (N : Int)) ∧ W'.cell? ⟨w.heap.size, 1, none⟩ = some (.int .i64 (s : Int)) ∧ W'.cell? ⟨w.heap.size, 2, none⟩ = some (.int .i64 (t : Int)) ∧ W'.cell? ⟨w.heap.size, 3, none⟩ = some (.slice AF (N + 1) cF) ∧ W'.cell? ⟨w.heap.size, 4, none⟩ = some (.slice AH M cH) ∧ W'.cell? ⟨w.heap.size, 5, none⟩ = some (.slice AR M cR) ∧ W'.cell? ⟨w.heap.size, 6, none⟩ = some (.slice AC M cC) ∧ W'.cell? ⟨w.heap.size, 7, none⟩ = some (.slice AA M cA) ∧ W'.cell? ⟨w.heap.size, 8, none⟩ = some (.slice AB M cB) ∧ W'.cell? ⟨w.heap.size + 1, 0, none⟩ = some (.slice AX M cX) ∧ W'.cell? ⟨w.heap.size + 1, 1, none⟩ = some (.slice AE N cE) ∧ W'.cell? ⟨w.heap.size + 1, 2, none⟩ = some (.slice (some ⟨bH, oH, none⟩) N cHH) ∧ W'.cell? ⟨bH, oH + s, none⟩ = some (.int .i64 ys) ∧ W'.cell? ⟨bH, oH + t, none⟩ = some (.int .i64 yt) := fun W' hb => by
        obtain ⟨b, a0, a1, a2, a3, a4, a5, a6, a7, a8, p0, p1, p2⟩ := HKEEPB.out W' hb
        exact ⟨b, a0, a1, a2, a3, a4, a5, a6, a7, a8, p0, p1, p2, (hb.cell hbH).trans cs, (hb.cell hbH).trans ct⟩
      have HKEEP2 := Lib.hid hk2
      have HYS := Lib.hid hys; have HYT := Lib.hid hyt; have HBAL := Lib.hid hbal
      clear hk2 hst cs ct hys hyt HKEEPB hbal
      by_cases hc1 : ys = (N : Int)
      · have hl1 : (ys != (N : Int)) = false := by simp [hc1]
        by_cases hc2 : yt = 0
        · have hl2 : (yt != (0 : Int)) = false := by simp [hc2]
          have hall := vOk_all HG.out HBAL.out HEL.out HHL.out (HYS.out.trans hc1) (HYT.out.trans hc2)
          have HALL := Lib.hid hall
          clear hc1 hc2 hall
          refine wp_region_held_drew (S := fun W' => Below w1.heap.size w1 W' ∧ W'.cell? ⟨w.heap.size, 0, none⟩ = some (.int .i64 (N : Int)) ∧ W'.cell? ⟨w.heap.size, 1, none⟩ = some (.int .i64 (s : Int)) ∧ W'.cell? ⟨w.heap.size, 2, none⟩ = some (.int .i64 (t : Int)) ∧ W'.cell? ⟨w.heap.size, 3, none⟩ = some (.slice AF (N + 1) cF) ∧ W'.cell? ⟨w.heap.size, 4, none⟩ = some (.slice AH M cH) ∧ W'.cell? ⟨w.heap.size, 5, none⟩ = some (.slice AR M cR) ∧ W'.cell? ⟨w.heap.size, 6, none⟩ = some (.slice AC M cC) ∧ W'.cell? ⟨w.heap.size, 7, none⟩ = some (.slice AA M cA) ∧ W'.cell? ⟨w.heap.size, 8, none⟩ = some (.slice AB M cB) ∧ W'.cell? ⟨w.heap.size + 1, 0, none⟩ = some (.slice AX M cX) ∧ W'.cell? ⟨w.heap.size + 1, 1, none⟩ = some (.slice AE N cE) ∧ W'.cell? ⟨w.heap.size + 1, 2, none⟩ = some (.slice (some ⟨bH, oH, none⟩) N cHH) ∧ W'.cell? ⟨bH, oH + s, none⟩ = some (.int .i64 ys) ∧ W'.cell? ⟨bH, oH + t, none⟩ = some (.int .i64 yt)) (by kernel_rfl) (HKEEP2.out _ (Below.refl _ _).drew) (fun hS0 => ?_)
          refine tk (v := ?_) 0 6 rfl ?_ ?_
          rotate_left
          · (intro W hSw; go_split_ands; go_simp; try with_reducible rfl)
          simp only [Act.put, pa, pz, ps]
          refine tk (v := ?_) 1 7 rfl ?_ ?_
          rotate_left
          · (intro W hSw; go_split_ands; go_simp; try with_reducible rfl)
          simp only [Act.put, pa, pz, ps]
          refine wpAnyH_ready (rs := [2]) (by kernel_rfl) (by simp) ?_
          refine AllReadyH.cons rfl (fun K hK => ?_) AllReadyH.nil
          go_simp
          first
            | (go_at_call 49; go_split_ands; ((with_reducible refine (HF2.out _ (by assumption)).mono ?_); rintro e W8 ⟨rfl, B8⟩); refine hK.out _ _ (HKEEP2.out _ (by refine below_step ?_ B8; assumption)) (fun hS3 => ?_))
          clear hK K
          try simp only [Act.put, pa, pz, ps]
          refine tk (v := ?_) 3 9 rfl ?_ ?_
          rotate_left
          · (intro W hSw; go_split_ands; go_simp; try with_reducible rfl)
          simp only [Act.put, pa, pz, ps]
          refine tk (v := ?_) 4 10 rfl ?_ ?_
          rotate_left
          · (intro W hSw; go_split_ands; go_simp; try with_reducible rfl)
          simp only [Act.put, pa, pz, ps]
          first
            | (refine tk (v := ?_) 5 11 rfl ?_ ?_
               rotate_left
               · (intro W hSw; go_split_ands; go_simp; try with_reducible rfl))
            | (refine tu 5 11 rfl ?_)
          simp only [Act.put, pa, pz, ps]
          first
            | (refine tk (v := ?_) 6 12 rfl ?_ ?_
               rotate_left
               · (intro W hSw; go_split_ands; go_simp; try with_reducible rfl))
            | (refine tu 6 12 rfl ?_)
          simp only [Act.put, pa, pz, ps]
          first
            | (refine tk (v := ?_) 7 13 rfl ?_ ?_
               rotate_left
               · (intro W hSw; go_split_ands; go_simp; try with_reducible rfl))
            | (refine tu 7 13 rfl ?_)
          simp only [Act.put, pa, pz, ps]
          refine wpAnyH_ready (rs := [8]) (by kernel_rfl) (by simp) ?_
          refine AllReadyH.cons rfl (fun K hK => ?_) AllReadyH.nil
          go_simp
          first
            | (go_at_call 50; go_split_ands; ((with_reducible refine (HW2.out _ (by assumption)).mono ?_); rintro e W8 ⟨rfl, B8⟩); refine hK.out _ _ (HKEEP2.out _ (by refine below_step ?_ B8; assumption)) (fun hS9 => ?_))
            | (refine hK.out _ _ (by assumption) (fun hS9 => ?_))
          clear hK K
          try simp only [Act.put, pa, pz, ps]
          first
            | (refine tk (v := ?_) 9 15 rfl ?_ ?_
               rotate_left
               · (intro W hSw; go_split_ands; go_simp; try with_reducible rfl))
            | (refine tu 9 15 rfl ?_)
          simp only [Act.put, pa, pz, ps]
          refine tk (v := ?_) 10 16 rfl ?_ ?_
          rotate_left
          · (intro W hSw; go_split_ands; go_simp; try with_reducible rfl)
          simp only [Act.put, pa, pz, ps]
          refine tk (v := ?_) 11 17 rfl ?_ ?_
          rotate_left
          · (intro W hSw; go_split_ands; go_simp; try with_reducible rfl)
          simp only [Act.put, pa, pz, ps]
          first
            | (refine tk (v := ?_) 12 18 rfl ?_ ?_
               rotate_left
               · (intro W hSw; go_split_ands; go_simp; try with_reducible rfl))
            | (refine tu 12 18 rfl ?_)
          simp only [Act.put, pa, pz, ps]
          first
            | (refine tk (v := ?_) 13 19 rfl ?_ ?_
               rotate_left
               · (intro W hSw; go_split_ands; go_simp; try with_reducible rfl))
            | (refine tu 13 19 rfl ?_)
          simp only [Act.put, pa, pz, ps]
          first
            | (refine tk (v := ?_) 14 20 rfl ?_ ?_
               rotate_left
               · (intro W hSw; go_split_ands; go_simp; try with_reducible rfl))
            | (refine tu 14 20 rfl ?_)
          simp only [Act.put, pa, pz, ps]
          first
            | (refine tk (v := ?_) 15 21 rfl ?_ ?_
               rotate_left
               · (intro W hSw; go_split_ands; go_simp; try with_reducible rfl))
            | (refine tu 15 21 rfl ?_)
          simp only [Act.put, pa, pz, ps]
          first
            | (refine tk (v := ?_) 16 22 rfl ?_ ?_
               rotate_left
               · (intro W hSw; go_split_ands; go_simp; try with_reducible rfl))
            | (refine tu 16 22 rfl ?_)
          simp only [Act.put, pa, pz, ps]
          first
            | (refine tk (v := ?_) 17 23 rfl ?_ ?_
               rotate_left
               · (intro W hSw; go_split_ands; go_simp; try with_reducible rfl))
            | (refine tu 17 23 rfl ?_)
          simp only [Act.put, pa, pz, ps]
          first
            | (refine tk (v := ?_) 18 24 rfl ?_ ?_
               rotate_left
               · (intro W hSw; go_split_ands; go_simp; try with_reducible rfl))
            | (refine tu 18 24 rfl ?_)
          simp only [Act.put, pa, pz, ps]
          first
            | (refine tk (v := ?_) 19 25 rfl ?_ ?_
               rotate_left
               · (intro W hSw; go_split_ands; go_simp; try with_reducible rfl))
            | (refine tu 19 25 rfl ?_)
          simp only [Act.put, pa, pz, ps]
          first
            | (refine tk (v := ?_) 20 26 rfl ?_ ?_
               rotate_left
               · (intro W hSw; go_split_ands; go_simp; try with_reducible rfl))
            | (refine tu 20 26 rfl ?_)
          simp only [Act.put, pa, pz, ps]
          refine tk (v := ?_) 21 27 rfl ?_ ?_
          rotate_left
          · (intro W hSw; go_split_ands; go_simp; try with_reducible rfl)
          simp only [Act.put, pa, pz, ps]
          refine tk (v := ?_) 22 28 rfl ?_ ?_
          rotate_left
          · (intro W hSw; go_split_ands; go_simp; try with_reducible rfl)
          simp only [Act.put, pa, pz, ps]
          first
            | (refine tk (v := ?_) 23 29 rfl ?_ ?_
               rotate_left
               · (intro W hSw; go_split_ands; go_simp; try with_reducible rfl))
            | (refine tu 23 29 rfl ?_)
          simp only [Act.put, pa, pz, ps]
          first
            | (refine tk (v := ?_) 24 30 rfl ?_ ?_
               rotate_left
               · (intro W hSw; go_split_ands; go_simp; try with_reducible rfl))
            | (refine tu 24 30 rfl ?_)
          simp only [Act.put, pa, pz, ps]
          first
            | (refine tk (v := ?_) 25 31 rfl ?_ ?_
               rotate_left
               · (intro W hSw; go_split_ands; go_simp; try with_reducible rfl))
            | (refine tu 25 31 rfl ?_)
          simp only [Act.put, pa, pz, ps]
          first
            | (refine tk (v := ?_) 26 32 rfl ?_ ?_
               rotate_left
               · (intro W hSw; go_split_ands; go_simp; try with_reducible rfl))
            | (refine tu 26 32 rfl ?_)
          simp only [Act.put, pa, pz, ps]
          first
            | (refine tk (v := ?_) 27 33 rfl ?_ ?_
               rotate_left
               · (intro W hSw; go_split_ands; go_simp; try with_reducible rfl))
            | (refine tu 27 33 rfl ?_)
          simp only [Act.put, pa, pz, ps]
          first
            | (refine tk (v := ?_) 28 34 rfl ?_ ?_
               rotate_left
               · (intro W hSw; go_split_ands; go_simp; try with_reducible rfl))
            | (refine tu 28 34 rfl ?_)
          simp only [Act.put, pa, pz, ps]
          first
            | (refine tk (v := ?_) 29 35 rfl ?_ ?_
               rotate_left
               · (intro W hSw; go_split_ands; go_simp; try with_reducible rfl))
            | (refine tu 29 35 rfl ?_)
          simp only [Act.put, pa, pz, ps]
          refine tk (v := ?_) 30 36 rfl ?_ ?_
          rotate_left
          · (intro W hSw; go_split_ands; go_simp; try with_reducible rfl)
          simp only [Act.put, pa, pz, ps]
          refine wpAnyH_done (by kernel_rfl) ?_ _
          obtain ⟨hbl, a0, a1, a2, a3, a4, a5, a6, a7, a8, p0, p1, p2, -, -⟩ := hS9
          have C8 := HC1.out.below hbl HC1.out.lt
          have P8 := HP2.out.below hbl HP2.out.lt
          have hz1 := C8.lt; have hz2 := P8.lt
          have Bw := below_step HB1.out hbl
          obtain ⟨p, hp⟩ : ∃ p : Nat → Bool, ∀ v, p v = false ↔ vOk N M s fst hd rv cp X E H v := ⟨fun v => decide (¬ vOk N M s fst hd rv cp X E H v), fun v => by simp⟩
          have hcall := HV2.out HBAL.out p hp W8 Bw _ _ C8 P8
          have HCALL := Lib.hid hcall
          have hrr : r = decide ((selTo p N).length = 0) := by
            have h1 : (selTo p N).length = 0 ↔ StIs N M s t hd rv cp X E H := by
              rw [← HALL.out]
              constructor
              · intro h v hv
                rw [← hp]
                cases hpv : p v
                · rfl
                · have : v ∈ selTo p N := sel_mem.2 ⟨hv, hpv⟩
                  rw [List.length_eq_zero_iff.1 h] at this
                  cases this
              · intro h
                rw [List.length_eq_zero_iff]
                refine List.eq_nil_iff_forall_not_mem.2 fun v hv => ?_
                have h2 := sel_mem.1 hv
                rw [(hp v).2 (h v h2.1)] at h2
                cases h2.2
            cases r with
            | true => exact (decide_eq_true (h1.2 (HR2.out.1 rfl))).symm
            | false => exact (decide_eq_false fun h => by cases HR2.out.2 (h1.1 h)).symm
          have HRR := Lib.hid hrr
          have hnl := sel_len p N
          clear hcall C8 P8 hrr HALL HV2 HF2 HW2 HKEEP2 HC1 HP2 hp
          go_wp2_with fail
          refine HCALL.out.mono ?_
          rintro e w3 ⟨A, c, rfl, hrow, B3⟩
          clear hrow
          obtain ⟨n, hn⟩ : ∃ n, (selTo p N).length = n := ⟨_, rfl⟩
          rw [hn] at HRR hnl ⊢
          clear hn
          by_cases h0 : n = 0
          · subst h0
            go_wp2_with fail
            go_ret
            exact ⟨ret_bool (by rw [HRR.out]; rfl), below_step Bw B3⟩
          · have h0' : ((n : Int) == 0) = false := by simp; omega
            go_wp2_with fail
            go_ret
            exact ⟨ret_bool (by rw [HRR.out, decide_eq_false h0]), below_step Bw B3⟩
        · have hl2 : (yt != (0 : Int)) = true := by simp [hc2]
          have hrf : r = false := by
            cases r with
            | false => rfl
            | true => exact absurd (HYT.out.symm.trans (HR2.out.1 rfl).snk) hc2
          subst hrf
          clear hc1 hc2
          refine wp_region_held_drew (S := fun W' => Below w1.heap.size w1 W' ∧ W'.cell? ⟨w.heap.size, 0, none⟩ = some (.int .i64 (N : Int)) ∧ W'.cell? ⟨w.heap.size, 1, none⟩ = some (.int .i64 (s : Int)) ∧ W'.cell? ⟨w.heap.size, 2, none⟩ = some (.int .i64 (t : Int)) ∧ W'.cell? ⟨w.heap.size, 3, none⟩ = some (.slice AF (N + 1) cF) ∧ W'.cell? ⟨w.heap.size, 4, none⟩ = some (.slice AH M cH) ∧ W'.cell? ⟨w.heap.size, 5, none⟩ = some (.slice AR M cR) ∧ W'.cell? ⟨w.heap.size, 6, none⟩ = some (.slice AC M cC) ∧ W'.cell? ⟨w.heap.size, 7, none⟩ = some (.slice AA M cA) ∧ W'.cell? ⟨w.heap.size, 8, none⟩ = some (.slice AB M cB) ∧ W'.cell? ⟨w.heap.size + 1, 0, none⟩ = some (.slice AX M cX) ∧ W'.cell? ⟨w.heap.size + 1, 1, none⟩ = some (.slice AE N cE) ∧ W'.cell? ⟨w.heap.size + 1, 2, none⟩ = some (.slice (some ⟨bH, oH, none⟩) N cHH) ∧ W'.cell? ⟨bH, oH + s, none⟩ = some (.int .i64 ys) ∧ W'.cell? ⟨bH, oH + t, none⟩ = some (.int .i64 yt)) (by kernel_rfl) (HKEEP2.out _ (Below.refl _ _).drew) (fun hS0 => ?_)
          refine tk (v := ?_) 0 6 rfl ?_ ?_
          rotate_left
          · (intro W hSw; go_split_ands; go_simp; try with_reducible rfl)
          simp only [Act.put, pa, pz, ps]
          refine tk (v := ?_) 1 7 rfl ?_ ?_
          rotate_left
          · (intro W hSw; go_split_ands; go_simp; try with_reducible rfl)
          simp only [Act.put, pa, pz, ps]
          refine wpAnyH_ready (rs := [2]) (by kernel_rfl) (by simp) ?_
          refine AllReadyH.cons rfl (fun K hK => ?_) AllReadyH.nil
          go_simp
          first
            | (go_at_call 49; go_split_ands; ((with_reducible refine (HF2.out _ (by assumption)).mono ?_); rintro e W8 ⟨rfl, B8⟩); refine hK.out _ _ (HKEEP2.out _ (by refine below_step ?_ B8; assumption)) (fun hS3 => ?_))
          clear hK K
          try simp only [Act.put, pa, pz, ps]
          refine tk (v := ?_) 3 9 rfl ?_ ?_
          rotate_left
          · (intro W hSw; go_split_ands; go_simp; try with_reducible rfl)
          simp only [Act.put, pa, pz, ps]
          refine tk (v := ?_) 4 10 rfl ?_ ?_
          rotate_left
          · (intro W hSw; go_split_ands; go_simp; try with_reducible rfl)
          simp only [Act.put, pa, pz, ps]
          first
            | (refine tk (v := ?_) 5 11 rfl ?_ ?_
               rotate_left
               · (intro W hSw; go_split_ands; go_simp; try with_reducible rfl))
            | (refine tu 5 11 rfl ?_)
          simp only [Act.put, pa, pz, ps]
          first
            | (refine tk (v := ?_) 6 12 rfl ?_ ?_
               rotate_left
               · (intro W hSw; go_split_ands; go_simp; try with_reducible rfl))
            | (refine tu 6 12 rfl ?_)
          simp only [Act.put, pa, pz, ps]
          first
            | (refine tk (v := ?_) 7 13 rfl ?_ ?_
               rotate_left
               · (intro W hSw; go_split_ands; go_simp; try with_reducible rfl))
            | (refine tu 7 13 rfl ?_)
          simp only [Act.put, pa, pz, ps]
          refine wpAnyH_ready (rs := [8]) (by kernel_rfl) (by simp) ?_
          refine AllReadyH.cons rfl (fun K hK => ?_) AllReadyH.nil
          go_simp
          first
            | (go_at_call 50; go_split_ands; ((with_reducible refine (HW2.out _ (by assumption)).mono ?_); rintro e W8 ⟨rfl, B8⟩); refine hK.out _ _ (HKEEP2.out _ (by refine below_step ?_ B8; assumption)) (fun hS9 => ?_))
            | (refine hK.out _ _ (by assumption) (fun hS9 => ?_))
          clear hK K
          try simp only [Act.put, pa, pz, ps]
          first
            | (refine tk (v := ?_) 9 15 rfl ?_ ?_
               rotate_left
               · (intro W hSw; go_split_ands; go_simp; try with_reducible rfl))
            | (refine tu 9 15 rfl ?_)
          simp only [Act.put, pa, pz, ps]
          refine tk (v := ?_) 10 16 rfl ?_ ?_
          rotate_left
          · (intro W hSw; go_split_ands; go_simp; try with_reducible rfl)
          simp only [Act.put, pa, pz, ps]
          refine tk (v := ?_) 11 17 rfl ?_ ?_
          rotate_left
          · (intro W hSw; go_split_ands; go_simp; try with_reducible rfl)
          simp only [Act.put, pa, pz, ps]
          first
            | (refine tk (v := ?_) 12 18 rfl ?_ ?_
               rotate_left
               · (intro W hSw; go_split_ands; go_simp; try with_reducible rfl))
            | (refine tu 12 18 rfl ?_)
          simp only [Act.put, pa, pz, ps]
          first
            | (refine tk (v := ?_) 13 19 rfl ?_ ?_
               rotate_left
               · (intro W hSw; go_split_ands; go_simp; try with_reducible rfl))
            | (refine tu 13 19 rfl ?_)
          simp only [Act.put, pa, pz, ps]
          first
            | (refine tk (v := ?_) 14 20 rfl ?_ ?_
               rotate_left
               · (intro W hSw; go_split_ands; go_simp; try with_reducible rfl))
            | (refine tu 14 20 rfl ?_)
          simp only [Act.put, pa, pz, ps]
          first
            | (refine tk (v := ?_) 15 21 rfl ?_ ?_
               rotate_left
               · (intro W hSw; go_split_ands; go_simp; try with_reducible rfl))
            | (refine tu 15 21 rfl ?_)
          simp only [Act.put, pa, pz, ps]
          first
            | (refine tk (v := ?_) 16 22 rfl ?_ ?_
               rotate_left
               · (intro W hSw; go_split_ands; go_simp; try with_reducible rfl))
            | (refine tu 16 22 rfl ?_)
          simp only [Act.put, pa, pz, ps]
          first
            | (refine tk (v := ?_) 17 23 rfl ?_ ?_
               rotate_left
               · (intro W hSw; go_split_ands; go_simp; try with_reducible rfl))
            | (refine tu 17 23 rfl ?_)
          simp only [Act.put, pa, pz, ps]
          first
            | (refine tk (v := ?_) 18 24 rfl ?_ ?_
               rotate_left
               · (intro W hSw; go_split_ands; go_simp; try with_reducible rfl))
            | (refine tu 18 24 rfl ?_)
          simp only [Act.put, pa, pz, ps]
          first
            | (refine tk (v := ?_) 19 25 rfl ?_ ?_
               rotate_left
               · (intro W hSw; go_split_ands; go_simp; try with_reducible rfl))
            | (refine tu 19 25 rfl ?_)
          simp only [Act.put, pa, pz, ps]
          first
            | (refine tk (v := ?_) 20 26 rfl ?_ ?_
               rotate_left
               · (intro W hSw; go_split_ands; go_simp; try with_reducible rfl))
            | (refine tu 20 26 rfl ?_)
          simp only [Act.put, pa, pz, ps]
          refine tk (v := ?_) 21 27 rfl ?_ ?_
          rotate_left
          · (intro W hSw; go_split_ands; go_simp; try with_reducible rfl)
          simp only [Act.put, pa, pz, ps]
          refine tk (v := ?_) 22 28 rfl ?_ ?_
          rotate_left
          · (intro W hSw; go_split_ands; go_simp; try with_reducible rfl)
          simp only [Act.put, pa, pz, ps]
          first
            | (refine tk (v := ?_) 23 29 rfl ?_ ?_
               rotate_left
               · (intro W hSw; go_split_ands; go_simp; try with_reducible rfl))
            | (refine tu 23 29 rfl ?_)
          simp only [Act.put, pa, pz, ps]
          first
            | (refine tk (v := ?_) 24 30 rfl ?_ ?_
               rotate_left
               · (intro W hSw; go_split_ands; go_simp; try with_reducible rfl))
            | (refine tu 24 30 rfl ?_)
          simp only [Act.put, pa, pz, ps]
          first
            | (refine tk (v := ?_) 25 31 rfl ?_ ?_
               rotate_left
               · (intro W hSw; go_split_ands; go_simp; try with_reducible rfl))
            | (refine tu 25 31 rfl ?_)
          simp only [Act.put, pa, pz, ps]
          first
            | (refine tk (v := ?_) 26 32 rfl ?_ ?_
               rotate_left
               · (intro W hSw; go_split_ands; go_simp; try with_reducible rfl))
            | (refine tu 26 32 rfl ?_)
          simp only [Act.put, pa, pz, ps]
          first
            | (refine tk (v := ?_) 27 33 rfl ?_ ?_
               rotate_left
               · (intro W hSw; go_split_ands; go_simp; try with_reducible rfl))
            | (refine tu 27 33 rfl ?_)
          simp only [Act.put, pa, pz, ps]
          first
            | (refine tk (v := ?_) 28 34 rfl ?_ ?_
               rotate_left
               · (intro W hSw; go_split_ands; go_simp; try with_reducible rfl))
            | (refine tu 28 34 rfl ?_)
          simp only [Act.put, pa, pz, ps]
          first
            | (refine tk (v := ?_) 29 35 rfl ?_ ?_
               rotate_left
               · (intro W hSw; go_split_ands; go_simp; try with_reducible rfl))
            | (refine tu 29 35 rfl ?_)
          simp only [Act.put, pa, pz, ps]
          refine tk (v := ?_) 30 36 rfl ?_ ?_
          rotate_left
          · (intro W hSw; go_split_ands; go_simp; try with_reducible rfl)
          simp only [Act.put, pa, pz, ps]
          refine wpAnyH_done (by kernel_rfl) ?_ _
          go_wp2_with fail
          go_ret
          exact ⟨rfl, below_step HB1.out (by first | assumption | (go_split_ands; assumption))⟩
      · have hl1 : (ys != (N : Int)) = true := by simp [hc1]
        have hrf : r = false := by
          cases r with
          | false => rfl
          | true => exact absurd (HYS.out.symm.trans (HR2.out.1 rfl).src) hc1
        subst hrf
        clear hc1
        refine wp_region_held_drew (S := fun W' => Below w1.heap.size w1 W' ∧ W'.cell? ⟨w.heap.size, 0, none⟩ = some (.int .i64 (N : Int)) ∧ W'.cell? ⟨w.heap.size, 1, none⟩ = some (.int .i64 (s : Int)) ∧ W'.cell? ⟨w.heap.size, 2, none⟩ = some (.int .i64 (t : Int)) ∧ W'.cell? ⟨w.heap.size, 3, none⟩ = some (.slice AF (N + 1) cF) ∧ W'.cell? ⟨w.heap.size, 4, none⟩ = some (.slice AH M cH) ∧ W'.cell? ⟨w.heap.size, 5, none⟩ = some (.slice AR M cR) ∧ W'.cell? ⟨w.heap.size, 6, none⟩ = some (.slice AC M cC) ∧ W'.cell? ⟨w.heap.size, 7, none⟩ = some (.slice AA M cA) ∧ W'.cell? ⟨w.heap.size, 8, none⟩ = some (.slice AB M cB) ∧ W'.cell? ⟨w.heap.size + 1, 0, none⟩ = some (.slice AX M cX) ∧ W'.cell? ⟨w.heap.size + 1, 1, none⟩ = some (.slice AE N cE) ∧ W'.cell? ⟨w.heap.size + 1, 2, none⟩ = some (.slice (some ⟨bH, oH, none⟩) N cHH) ∧ W'.cell? ⟨bH, oH + s, none⟩ = some (.int .i64 ys) ∧ W'.cell? ⟨bH, oH + t, none⟩ = some (.int .i64 yt)) (by kernel_rfl) (HKEEP2.out _ (Below.refl _ _).drew) (fun hS0 => ?_)
        refine tk (v := ?_) 0 6 rfl ?_ ?_
        rotate_left
        · (intro W hSw; go_split_ands; go_simp; try with_reducible rfl)
        simp only [Act.put, pa, pz, ps]
        refine tk (v := ?_) 1 7 rfl ?_ ?_
        rotate_left
        · (intro W hSw; go_split_ands; go_simp; try with_reducible rfl)
        simp only [Act.put, pa, pz, ps]
        refine wpAnyH_ready (rs := [2]) (by kernel_rfl) (by simp) ?_
        refine AllReadyH.cons rfl (fun K hK => ?_) AllReadyH.nil
        go_simp
        first
          | (go_at_call 49; go_split_ands; ((with_reducible refine (HF2.out _ (by assumption)).mono ?_); rintro e W8 ⟨rfl, B8⟩); refine hK.out _ _ (HKEEP2.out _ (by refine below_step ?_ B8; assumption)) (fun hS3 => ?_))
        clear hK K
        try simp only [Act.put, pa, pz, ps]
        refine tk (v := ?_) 3 9 rfl ?_ ?_
        rotate_left
        · (intro W hSw; go_split_ands; go_simp; try with_reducible rfl)
        simp only [Act.put, pa, pz, ps]
        refine tk (v := ?_) 4 10 rfl ?_ ?_
        rotate_left
        · (intro W hSw; go_split_ands; go_simp; try with_reducible rfl)
        simp only [Act.put, pa, pz, ps]
        first
          | (refine tk (v := ?_) 5 11 rfl ?_ ?_
             rotate_left
             · (intro W hSw; go_split_ands; go_simp; try with_reducible rfl))
          | (refine tu 5 11 rfl ?_)
        simp only [Act.put, pa, pz, ps]
        first
          | (refine tk (v := ?_) 6 12 rfl ?_ ?_
             rotate_left
             · (intro W hSw; go_split_ands; go_simp; try with_reducible rfl))
          | (refine tu 6 12 rfl ?_)
        simp only [Act.put, pa, pz, ps]
        first
          | (refine tk (v := ?_) 7 13 rfl ?_ ?_
             rotate_left
             · (intro W hSw; go_split_ands; go_simp; try with_reducible rfl))
          | (refine tu 7 13 rfl ?_)
        simp only [Act.put, pa, pz, ps]
        refine wpAnyH_ready (rs := [8]) (by kernel_rfl) (by simp) ?_
        refine AllReadyH.cons rfl (fun K hK => ?_) AllReadyH.nil
        go_simp
        first
          | (go_at_call 50; go_split_ands; ((with_reducible refine (HW2.out _ (by assumption)).mono ?_); rintro e W8 ⟨rfl, B8⟩); refine hK.out _ _ (HKEEP2.out _ (by refine below_step ?_ B8; assumption)) (fun hS9 => ?_))
          | (refine hK.out _ _ (by assumption) (fun hS9 => ?_))
        clear hK K
        try simp only [Act.put, pa, pz, ps]
        first
          | (refine tk (v := ?_) 9 15 rfl ?_ ?_
             rotate_left
             · (intro W hSw; go_split_ands; go_simp; try with_reducible rfl))
          | (refine tu 9 15 rfl ?_)
        simp only [Act.put, pa, pz, ps]
        refine tk (v := ?_) 10 16 rfl ?_ ?_
        rotate_left
        · (intro W hSw; go_split_ands; go_simp; try with_reducible rfl)
        simp only [Act.put, pa, pz, ps]
        refine tk (v := ?_) 11 17 rfl ?_ ?_
        rotate_left
        · (intro W hSw; go_split_ands; go_simp; try with_reducible rfl)
        simp only [Act.put, pa, pz, ps]
        first
          | (refine tk (v := ?_) 12 18 rfl ?_ ?_
             rotate_left
             · (intro W hSw; go_split_ands; go_simp; try with_reducible rfl))
          | (refine tu 12 18 rfl ?_)
        simp only [Act.put, pa, pz, ps]
        first
          | (refine tk (v := ?_) 13 19 rfl ?_ ?_
             rotate_left
             · (intro W hSw; go_split_ands; go_simp; try with_reducible rfl))
          | (refine tu 13 19 rfl ?_)
        simp only [Act.put, pa, pz, ps]
        first
          | (refine tk (v := ?_) 14 20 rfl ?_ ?_
             rotate_left
             · (intro W hSw; go_split_ands; go_simp; try with_reducible rfl))
          | (refine tu 14 20 rfl ?_)
        simp only [Act.put, pa, pz, ps]
        first
          | (refine tk (v := ?_) 15 21 rfl ?_ ?_
             rotate_left
             · (intro W hSw; go_split_ands; go_simp; try with_reducible rfl))
          | (refine tu 15 21 rfl ?_)
        simp only [Act.put, pa, pz, ps]
        first
          | (refine tk (v := ?_) 16 22 rfl ?_ ?_
             rotate_left
             · (intro W hSw; go_split_ands; go_simp; try with_reducible rfl))
          | (refine tu 16 22 rfl ?_)
        simp only [Act.put, pa, pz, ps]
        first
          | (refine tk (v := ?_) 17 23 rfl ?_ ?_
             rotate_left
             · (intro W hSw; go_split_ands; go_simp; try with_reducible rfl))
          | (refine tu 17 23 rfl ?_)
        simp only [Act.put, pa, pz, ps]
        first
          | (refine tk (v := ?_) 18 24 rfl ?_ ?_
             rotate_left
             · (intro W hSw; go_split_ands; go_simp; try with_reducible rfl))
          | (refine tu 18 24 rfl ?_)
        simp only [Act.put, pa, pz, ps]
        first
          | (refine tk (v := ?_) 19 25 rfl ?_ ?_
             rotate_left
             · (intro W hSw; go_split_ands; go_simp; try with_reducible rfl))
          | (refine tu 19 25 rfl ?_)
        simp only [Act.put, pa, pz, ps]
        first
          | (refine tk (v := ?_) 20 26 rfl ?_ ?_
             rotate_left
             · (intro W hSw; go_split_ands; go_simp; try with_reducible rfl))
          | (refine tu 20 26 rfl ?_)
        simp only [Act.put, pa, pz, ps]
        refine tk (v := ?_) 21 27 rfl ?_ ?_
        rotate_left
        · (intro W hSw; go_split_ands; go_simp; try with_reducible rfl)
        simp only [Act.put, pa, pz, ps]
        refine tk (v := ?_) 22 28 rfl ?_ ?_
        rotate_left
        · (intro W hSw; go_split_ands; go_simp; try with_reducible rfl)
        simp only [Act.put, pa, pz, ps]
        first
          | (refine tk (v := ?_) 23 29 rfl ?_ ?_
             rotate_left
             · (intro W hSw; go_split_ands; go_simp; try with_reducible rfl))
          | (refine tu 23 29 rfl ?_)
        simp only [Act.put, pa, pz, ps]
        first
          | (refine tk (v := ?_) 24 30 rfl ?_ ?_
             rotate_left
             · (intro W hSw; go_split_ands; go_simp; try with_reducible rfl))
          | (refine tu 24 30 rfl ?_)
        simp only [Act.put, pa, pz, ps]
        first
          | (refine tk (v := ?_) 25 31 rfl ?_ ?_
             rotate_left
             · (intro W hSw; go_split_ands; go_simp; try with_reducible rfl))
          | (refine tu 25 31 rfl ?_)
        simp only [Act.put, pa, pz, ps]
        first
          | (refine tk (v := ?_) 26 32 rfl ?_ ?_
             rotate_left
             · (intro W hSw; go_split_ands; go_simp; try with_reducible rfl))
          | (refine tu 26 32 rfl ?_)
        simp only [Act.put, pa, pz, ps]
        first
          | (refine tk (v := ?_) 27 33 rfl ?_ ?_
             rotate_left
             · (intro W hSw; go_split_ands; go_simp; try with_reducible rfl))
          | (refine tu 27 33 rfl ?_)
        simp only [Act.put, pa, pz, ps]
        first
          | (refine tk (v := ?_) 28 34 rfl ?_ ?_
             rotate_left
             · (intro W hSw; go_split_ands; go_simp; try with_reducible rfl))
          | (refine tu 28 34 rfl ?_)
        simp only [Act.put, pa, pz, ps]
        first
          | (refine tk (v := ?_) 29 35 rfl ?_ ?_
             rotate_left
             · (intro W hSw; go_split_ands; go_simp; try with_reducible rfl))
          | (refine tu 29 35 rfl ?_)
        simp only [Act.put, pa, pz, ps]
        refine tk (v := ?_) 30 36 rfl ?_ ?_
        rotate_left
        · (intro W hSw; go_split_ands; go_simp; try with_reducible rfl)
        simp only [Act.put, pa, pz, ps]
        refine wpAnyH_done (by kernel_rfl) ?_ _
        go_wp2_with fail
        go_ret
        exact ⟨rfl, below_step HB1.out (by first | assumption | (go_split_ands; assumption))⟩

end Go.Proofs.Ytanifbofjecpmaa
