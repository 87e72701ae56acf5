/- Layer 9: Run: moves made one after the other, up to the first one that may not be. -/
import Derived.Test.YtanifbofjecpmaaRle
namespace Go.Proofs.Ytanifbofjecpmaa
open Go.RowKit Go.Shelf
set_option maxRecDepth 100000

def evCells (e : EvS) : List Value := [.int .i64 e.who, .int .u8 e.what, .int .i64 e.u, .int .i64 e.arc, .int .i64 e.d, .int .i64 e.h, .int .i64 e.low]
abbrev Evs (w : World) (B : Nat) (A : Option Addr) (n : Nat) (l : List EvS) : Prop := RdBy evCells 7 w B A n l
theorem evs_at {w : World} {B n : Nat} {A : Option Addr} {l : List EvS} (h : Evs w B A n l) {k : Nat} (hk : k < n) :
    ∃ (b off : Nat) (e : EvS), A = some ⟨b, off, none⟩ ∧ b < B ∧ l[k]? = some e ∧ w.cell? ⟨b, off + k * 7, none⟩ = some (.int .i64 e.who) ∧ w.cell? ⟨b, off + k * 7 + 1, none⟩ = some (.int .u8 e.what) ∧ w.cell? ⟨b, off + k * 7 + 2, none⟩ = some (.int .i64 e.u) ∧
      w.cell? ⟨b, off + k * 7 + 3, none⟩ = some (.int .i64 e.arc) ∧ w.cell? ⟨b, off + k * 7 + 4, none⟩ = some (.int .i64 e.d) ∧ w.cell? ⟨b, off + k * 7 + 5, none⟩ = some (.int .i64 e.h) ∧ w.cell? ⟨b, off + k * 7 + 6, none⟩ = some (.int .i64 e.low) := by
  obtain ⟨a, ha⟩ := h.get hk
  obtain ⟨b, off, e, hb, hc⟩ := h.2 (by omega)
  refine ⟨b, off, a, e, hb, ha, by simpa using hc k a ha 0 _ rfl, by rw [Nat.add_assoc]; exact hc k a ha 1 _ rfl, by rw [Nat.add_assoc]; exact hc k a ha 2 _ rfl, by rw [Nat.add_assoc]; exact hc k a ha 3 _ rfl, by rw [Nat.add_assoc]; exact hc k a ha 4 _ rfl, by rw [Nat.add_assoc]; exact hc k a ha 5 _ rfl, by rw [Nat.add_assoc]; exact hc k a ha 6 _ rfl⟩

/-- What comes of a run: the numbers, how many moves were made, what stopped it. -/
structure RunS where
  X : List Int
  E : List Int
  H : List Int
  n : Nat
  why : Int
def runTo (N s t : Nat) (fst hd rv : Nat → Nat) : List EvS → List Int → List Int → List Int → RunS
  | [], X, E, H => ⟨X, E, H, 0, 0⟩
  | e :: l, X, E, H => if legI N s t fst X E H e = 0 then (let r := runTo N s t fst hd rv l (movX rv X e) (movE hd rv E e) (movH H e); ⟨r.X, r.E, r.H, r.n + 1, r.why⟩) else ⟨X, E, H, 0, legI N s t fst X E H e⟩
/-- k more moves ahead of it. -/
def RunS.up (r : RunS) (k : Nat) : RunS := ⟨r.X, r.E, r.H, r.n + k, r.why⟩
section
variable {N M s t : Nat} {fst hd rv ai : Nat → Nat} {cp : Nat → Int} {bk : Nat → Bool} {X E H : List Int} {e : EvS} {l : List EvS} {k : Nat}
theorem run_go (hk : l[k]? = some e) (h : legI N s t fst X E H e = 0) : (runTo N s t fst hd rv (l.drop k) X E H).up k = (runTo N s t fst hd rv (l.drop (k + 1)) (movX rv X e) (movE hd rv E e) (movH H e)).up (k + 1) := by
  obtain ⟨h1, h2⟩ := List.getElem?_eq_some_iff.1 hk
  rw [List.drop_eq_getElem_cons h1, h2]
  simp only [runTo, if_pos h, RunS.up, RunS.mk.injEq, true_and, and_true]
  omega
theorem run_no (hk : l[k]? = some e) (h : legI N s t fst X E H e ≠ 0) : (runTo N s t fst hd rv (l.drop k) X E H).up k = ⟨X, E, H, k, legI N s t fst X E H e⟩ := by
  obtain ⟨h1, h2⟩ := List.getElem?_eq_some_iff.1 hk
  rw [List.drop_eq_getElem_cons h1, h2]
  simp only [runTo, if_neg h, RunS.up, Nat.zero_add]
theorem run_end (hk : l.length = k) : (runTo N s t fst hd rv (l.drop k) X E H).up k = ⟨X, E, H, k, 0⟩ := by
  rw [List.drop_of_length_le (by omega)]
  simp only [runTo, RunS.up, Nat.zero_add]
theorem run_snd (hG : PNet N M s t fst hd rv ai cp bk) : ∀ {l : List EvS} {X E H : List Int}, SndIs N M s t hd rv cp X E H → SndIs N M s t hd rv cp (runTo N s t fst hd rv l X E H).X (runTo N s t fst hd rv l X E H).E (runTo N s t fst hd rv l X E H).H
  | [], _, _, _, h => h
  | e :: l, X, E, H, h => by
    simp only [runTo]
    split
    · exact run_snd hG (h.move hG ‹_›)
    · exact h
end
/-- The call returned the state, the number, the error. -/
def RetRun (M N : Nat) (R : RunS) (w : World) (e : Ending) (w' : World) : Prop :=
  ∃ Q, e = .returned (.tuple #[preW M N N Q, .int .i64 (R.n : Int), .int .i64 R.why]) ∧ Below w.heap.size w w' ∧ StIn w' w'.heap.size M N N Q R.X R.E R.H

set_option maxHeartbeats 8000000 in
theorem rrun_is (N M s t n c : Nat) (K : CsrS) (Q : PreS) (AL : Option Addr) (l : List EvS) (fst hd rv ai : Nat → Nat) (cp : Nat → Int) (bk : Nat → Bool) (X E H : List Int) (w : World) (hG : PNet N M s t fst hd rv ai cp bk) (hI : GridIn w w.heap.size N M K fst hd rv) (hQ : StIn w w.heap.size M N N Q X E H) (hS : SndIs N M s t hd rv cp X E H) (hL : Evs w w.heap.size AL n l) (hn : n ≤ 1000000) :
    Calls Try.prog 19 #[csrW N M s t K, preW M N N Q, .slice AL n c] w (RetRun M N (runTo N s t fst hd rv l X E H) w) := by
  have hN := hG.nN; have hM := hG.nM
  have htw := fun W (hb : Below w.heap.size w W) => twin_is M N N Q X E H W (hQ.on hb) (by omega) (by omega) (by omega)
  have HT := Lib.hid htw
  have hat := fun (Q2 : PreS) W => at_is N M s t K M N N Q2 W
  have HA := Lib.hid hat
  have hch := fun g b Q2 X E H ev W hIb hMc hq => check_is g b N M s t K Q2 fst hd rv X E H ev W hG.g hIb hMc hq hN
  have HCH := Lib.hid hch
  have hap := fun g b base Q2 X E H ev w0 W (hS : SndIs N M s t hd rv cp X E H) (hl : legI N s t fst X E H ev = 0) hIb hMc hx => apply_is g b N M s t base K Q2 fst hd rv ai cp bk X E H ev w0 W hG hIb hMc hx hS hl
  have HAP := Lib.hid hap
  have HI := Lib.hid hI; have HG := Lib.hid hG; have HS := Lib.hid hS; have HL := Lib.hid hL
  obtain ⟨R, hR⟩ : ∃ R, runTo N s t fst hd rv l X E H = R := ⟨_, rfl⟩
  rw [hR]
  have HR := Lib.hid hR
  unfold RetRun
  clear hG hI hQ hS hL htw hat hch hap hM hN hR
  obtain ⟨AF, cF, AH, cH, AR, cR, AC, cC, AA, cA, AB, cB⟩ := K
  obtain ⟨AX, cX, AE, cE, AHH, cHH⟩ := Q
  dsimp only [csrW, preW] at HT HA ⊢
  go_enter Try.func19, Try.ntmps19
  go_upto_region 1 with fail
  obtain ⟨w1, hw1⟩ : ∃ w1, (((w.alloc (.cells #[.int .i64 (N : Int), .int .i64 (s : Int), .int .i64 (t : Int), .slice AF (N + 1) cF, .slice AH M cH, .slice AR M cR, .slice AC M cC, .slice AA M cA, .slice AB M cB] 32)).alloc (.cells #[.slice AX M cX, .slice AE N cE, .slice AHH N cHH] 29)).alloc (.cells #[.slice none 0 0, .slice none 0 0, .slice none 0 0] 29)) = w1 := ⟨_, rfl⟩
  have B1 : Below w.heap.size w w1 := by rw [← hw1]; exact (((Below.refl _ w).alloc (Nat.le_refl _) _).alloc (by simp) _).alloc (by simp; omega) _
  have C1 : Blk w1 w.heap.size 32 #[.int .i64 (N : Int), .int .i64 (s : Int), .int .i64 (t : Int), .slice AF (N + 1) cF, .slice AH M cH, .slice AR M cR, .slice AC M cC, .slice AA M cA, .slice AB M cB] := by rw [← hw1]; exact ((Blk.new rfl).alloc _).alloc _
  have P1 : Blk w1 (w.heap.size + 1) 29 #[.slice AX M cX, .slice AE N cE, .slice AHH N cHH] := by rw [← hw1]; exact (Blk.new (by simp)).alloc _
  have R1 : Blk w1 (w.heap.size + 1 + 1) 29 #[.slice none 0 0, .slice none 0 0, .slice none 0 0] := by rw [← hw1]; exact Blk.new (by simp)
  rw [hw1]
  clear hw1
  have hkeep : ∀ W', Below w1.heap.size w1 W' → Below w1.heap.size w1 W' ∧ W'.cell? ⟨w.heap.size, 0, none⟩ = some (.int .i64 (N : Int)) ∧ W'.cell? ⟨w.heap.size, 1, none⟩ = some (.int .i64 (s : Int)) ∧ W'.cell? ⟨w.heap.size, 2, none⟩ = some (.int .i64 (t : Int)) ∧ W'.cell? ⟨w.heap.size, 3, none⟩ = some (.slice AF (N + 1) cF) ∧ W'.cell? ⟨w.heap.size, 4, none⟩ = some (.slice AH M cH) ∧ W'.cell? ⟨w.heap.size, 5, none⟩ = some (.slice AR M cR) ∧ W'.cell? ⟨w.heap.size, 6, none⟩ = some (.slice AC M cC) ∧ W'.cell? ⟨w.heap.size, 7, none⟩ = some (.slice AA M cA) ∧ W'.cell? ⟨w.heap.size, 8, none⟩ = some (.slice AB M cB) ∧ W'.cell? ⟨w.heap.size + 1, 0, none⟩ = some (.slice AX M cX) ∧ W'.cell? ⟨w.heap.size + 1, 1, none⟩ = some (.slice AE N cE) ∧ W'.cell? ⟨w.heap.size + 1, 2, none⟩ = some (.slice AHH N cHH) := fun W' hb => by
    obtain ⟨a0, a1, a2, a3, a4, a5, a6, a7, a8⟩ := (C1.below hb C1.lt).at9
    obtain ⟨⟨p0, p1, p2⟩, -, -⟩ := (P1.below hb P1.lt).full3
    exact ⟨hb, a0, a1, a2, a3, a4, a5, a6, a7, a8, p0, p1, p2⟩
  have HKEEP := Lib.hid hkeep
  have HB1 := Lib.hid B1
  have HR1 := Lib.hid R1
  clear hkeep C1 P1 B1 R1
  refine wp_region_held_drew (S := fun W' => Below w1.heap.size w1 W' ∧ W'.cell? ⟨w.heap.size, 0, none⟩ = some (.int .i64 (N : Int)) ∧ W'.cell? ⟨w.heap.size, 1, none⟩ = some (.int .i64 (s : Int)) ∧ W'.cell? ⟨w.heap.size, 2, none⟩ = some (.int .i64 (t : Int)) ∧ W'.cell? ⟨w.heap.size, 3, none⟩ = some (.slice AF (N + 1) cF) ∧ W'.cell? ⟨w.heap.size, 4, none⟩ = some (.slice AH M cH) ∧ W'.cell? ⟨w.heap.size, 5, none⟩ = some (.slice AR M cR) ∧ W'.cell? ⟨w.heap.size, 6, none⟩ = some (.slice AC M cC) ∧ W'.cell? ⟨w.heap.size, 7, none⟩ = some (.slice AA M cA) ∧ W'.cell? ⟨w.heap.size, 8, none⟩ = some (.slice AB M cB) ∧ W'.cell? ⟨w.heap.size + 1, 0, none⟩ = some (.slice AX M cX) ∧ W'.cell? ⟨w.heap.size + 1, 1, none⟩ = some (.slice AE N cE) ∧ W'.cell? ⟨w.heap.size + 1, 2, none⟩ = some (.slice AHH N cHH)) (by kernel_rfl) (HKEEP.out _ (Below.refl _ _).drew) (fun hS0 => ?_)
  refine tk (v := ?_) 0 13 rfl ?_ ?_
  rotate_left
  · (intro W hSw; obtain ⟨-, a0, a1, a2, a3, a4, a5, a6, a7, a8, p0, p1, p2⟩ := hSw; go_simp; try with_reducible rfl)
  simp only [Act.put, pa, pz, ps]
  refine tk (v := ?_) 1 14 rfl ?_ ?_
  rotate_left
  · (intro W hSw; obtain ⟨-, a0, a1, a2, a3, a4, a5, a6, a7, a8, p0, p1, p2⟩ := hSw; go_simp; try with_reducible rfl)
  simp only [Act.put, pa, pz, ps]
  refine wpAnyH_ready (rs := [2]) (by kernel_rfl) (by simp) ?_
  refine AllReadyH.cons rfl (fun K hK => ?_) AllReadyH.nil
  go_simp
  first
    | (go_at_call 37; ((with_reducible refine (HT.out _ (below_step HB1.out hS0.1)).mono ?_); rintro e W8 ⟨Q2, rfl, hR8⟩; have B8 := hR8.bel); refine hK.out _ _ (HKEEP.out _ (below_step hS0.1 B8)) (fun hS3 => ?_))
  clear hK K
  try simp only [Act.put, pa, pz, ps]
  refine wpAnyH_ready (rs := [3]) (by kernel_rfl) (by simp) ?_
  refine AllReadyH.cons rfl (fun K hK => ?_) AllReadyH.nil
  go_simp
  first
    | (go_at_call 36; ((with_reducible refine (HA.out _ _).mono ?_); rintro e W9 ⟨g, b, rfl, hMc, hg, hbb, B9⟩); refine hK.out _ _ (HKEEP.out _ (below_step hS3.1 B9)) (fun hS4 => ?_))
  clear hK K
  try simp only [Act.put, pa, pz, ps]
  refine tk (v := ?_) 4 9 rfl ?_ ?_
  rotate_left
  · (intro W hSw; obtain ⟨-, a0, a1, a2, a3, a4, a5, a6, a7, a8, p0, p1, p2⟩ := hSw; go_simp; try with_reducible rfl)
  simp only [Act.put, pa, pz, ps]
  refine wpAnyH_done (by kernel_rfl) ?_ _
  have hX9 := (hR8.on B9).low (base' := w1.heap.size) (w1 := w1) (Nat.le_refl _) (below_drewN' (Below.refl _ _) 1)
  have HIB := Lib.hid ((HI.out.below HB1.out).more (y := w1.heap.size) HB1.out.size)
  have HLB := Lib.hid ((HL.out.below HB1.out).more (B' := w1.heap.size) HB1.out.size)
  clear hS0 hS3 hS4 hR8 B8 B9 hg hbb HKEEP HT HA HI HL
  go_wp2_with fail
  go_loopw [10, 11, 12, 19] (fun _ _ _ i wr => ∃ (k : Nat) (X E H : List Int), k ≤ n ∧ i = .int .i64 k ∧ Mch wr g b N M s t ⟨AF, cF, AH, cH, AR, cR, AC, cC, AA, cA, AB, cB⟩ M N N Q2 ∧ Hx w1 wr w1.heap.size (pstR M N N Q2 X E H) ∧ SndIs N M s t hd rv cp X E H ∧ (runTo N s t fst hd rv (l.drop k) X E H).up k = R) (fun _ _ _ i _ => n - (intOf i).toNat)
  case atStart => exact ⟨0, X, E, H, Nat.zero_le _, rfl, hMc, hX9, HS.out, by rw [← HR.out]; rfl⟩
  case round =>
    clear hMc hX9 HS HR
    obtain ⟨k, X, E, H, hk, rfl, hMc, hX, hS, hR⟩ := hrel
    have R2 := HR1.out.below hX.bel HR1.out.lt
    by_cases hlt : k < n
    · obtain ⟨b2, off, ⟨who, what, eu, arc, d0, h0, low⟩, rfl, hb2, hla, e0, e1, e2, e3, e4, e5, e6⟩ := evs_at (HLB.out.below hX.bel) hlt
      dsimp only at e0 e1 e2 e3 e4 e5 e6
      have zb : b2 < wr.heap.size := by have := hX.bel.size; omega
      obtain ⟨wa, hwa⟩ : ∃ wa, wr.alloc (.cells #[.int .i64 who, .int .u8 what, .int .i64 eu, .int .i64 arc, .int .i64 d0, .int .i64 h0, .int .i64 low] 39) = wa := ⟨_, rfl⟩
      have Ba : Below wr.heap.size wr wa := by rw [← hwa]; exact below_alloc _
      have Ea : Blk wa wr.heap.size 39 #[.int .i64 who, .int .u8 what, .int .i64 eu, .int .i64 arc, .int .i64 d0, .int .i64 h0, .int .i64 low] := by rw [← hwa]; exact Blk.new rfl
      have hXa : Hx w1 wa w1.heap.size (pstR M N N Q2 X E H) := by rw [← hwa]; exact hX.alloc _
      have HXA := Lib.hid hXa; have HMA := Lib.hid (hMc.below Ba); have HSS := Lib.hid hS; have HRR := Lib.hid hR; have HLA := Lib.hid hla; have HEA := Lib.hid Ea
      clear hXa hMc hS hR hla hX R2 Ba hb2
      have HWA := Lib.hid hwa
      clear hwa
      go_wp2_with fail
      rw [HWA.out]
      clear HWA e0 e1 e2 e3 e4 e5 e6 zb
      refine (HCH.out g b Q2 X E H ⟨who, what, eu, arc, d0, h0, low⟩ wa ((HIB.out.below HXA.out.bel).more HXA.out.bel.size) HMA.out (HXA.out.st HSS.out.bal.1 HSS.out.le HSS.out.lh)).mono ?_
      rintro e w5 ⟨rfl, B5⟩
      obtain ⟨r, hr⟩ : ∃ r, legI N s t fst X E H ⟨who, what, eu, arc, d0, h0, low⟩ = r := ⟨_, rfl⟩
      rw [hr]
      have HX5 := Lib.hid (HXA.out.on B5); have HM5 := Lib.hid (HMA.out.below B5); have HE5 := Lib.hid (HEA.out.below B5 HEA.out.lt)
      clear HXA HMA HEA B5
      by_cases hr0 : r = 0
      · subst hr0
        have hgo := run_go (rv := rv) (hd := hd) HLA.out hr
        rw [HRR.out] at hgo
        have HGO := Lib.hid hgo.symm; have HR0 := Lib.hid hr
        clear hgo hr HRR
        obtain ⟨e0, e1, e2, e3, e4, e5, e6⟩ := HE5.out.at7
        have ze := HE5.out.lt
        go_wp2_with fail
        refine (HAP.out g b w1.heap.size Q2 X E H ⟨who, what, eu, arc, d0, h0, low⟩ w1 _ HSS.out HR0.out (HIB.out.below HX5.out.bel) HM5.out HX5.out).mono ?_
        rintro e w6 ⟨⟨v, rfl⟩, M6, X6, hz6⟩
        have HM6 := Lib.hid M6; have HX6 := Lib.hid X6; have HS6 := Lib.hid (HSS.out.move HG.out HR0.out)
        clear M6 X6 hz6 e0 e1 e2 e3 e4 e5 e6 ze HX5 HM5 HE5
        go_wp2_with fail
        go_roundw
        case rel => exact ⟨k + 1, _, _, _, by omega, by go_num, HM6.out, HX6.out, HS6.out, HGO.out⟩
        case measure => simp [intOf]; omega
      · have hno := run_no (rv := rv) (hd := hd) HLA.out (by rw [hr]; exact hr0)
        rw [HRR.out, hr] at hno
        have hr1 : (r != 0) = true := by simpa using hr0
        have R5 := HR1.out.below HX5.out.bel HR1.out.lt
        obtain ⟨⟨q0, q1, q2⟩, ⟨f0, f1, f2⟩, hz5⟩ := R5.full3
        obtain ⟨m0, m1, m2, m3, m4, m5, m6, m7, m8, m9, m10, m11, m12⟩ := HM5.out.box.at13
        have hzg := HM5.out.box.lt
        have HR5 := Lib.hid R5; have HNO := Lib.hid hno
        clear R5 hno hr HRR hr0
        obtain ⟨AX2, cX2, AE2, cE2, AH2, cH2⟩ := Q2
        dsimp only at m9 m10 m11
        go_wp2_with fail
        have HXW := (HX5.out.low (base' := w.heap.size) (w1 := w) HB1.out.size HB1.out).put3 (x := .slice AX2 M cX2) (y := .slice AE2 N cE2) (z := .slice AH2 N cH2) HR5.out pst_ne (by omega)
        have R11 := HR5.out.put3 (x := .slice AX2 M cX2) (y := .slice AE2 N cE2) (z := .slice AH2 N cH2)
        obtain ⟨⟨k0, k1, k2⟩, -, -⟩ := R11.full3
        refine bodyPost_ret (v := .tuple #[.agg #[.slice AX2 M cX2, .slice AE2 N cE2, .slice AH2 N cH2], .int .i64 (k : Int), .int .i64 r]) (by simp [results, Try.results19, go_sem, k0, k1, k2]) rfl ⟨⟨AX2, cX2, AE2, cE2, AH2, cH2⟩, by rw [HNO.out], HXW.bel, ?_⟩
        rw [HNO.out]
        exact HXW.st HSS.out.bal.1 HSS.out.le HSS.out.lh
    · have hkn : k = n := by omega
      have hno := run_end (N := N) (s := s) (t := t) (fst := fst) (hd := hd) (rv := rv) (X := X) (E := E) (H := H) (l := l) (k := k) (by rw [HLB.out.len, hkn])
      rw [hR] at hno
      obtain ⟨⟨q0, q1, q2⟩, ⟨f0, f1, f2⟩, hz5⟩ := R2.full3
      obtain ⟨m0, m1, m2, m3, m4, m5, m6, m7, m8, m9, m10, m11, m12⟩ := hMc.box.at13
      have hzg := hMc.box.lt
      have HR5 := Lib.hid R2; have HNO := Lib.hid hno; have HX5 := Lib.hid hX; have HSS := Lib.hid hS
      clear R2 hno hR hMc hX hS
      obtain ⟨AX2, cX2, AE2, cE2, AH2, cH2⟩ := Q2
      dsimp only at m9 m10 m11
      go_wp2_with fail
      have HXW := (HX5.out.low (base' := w.heap.size) (w1 := w) HB1.out.size HB1.out).put3 (x := .slice AX2 M cX2) (y := .slice AE2 N cE2) (z := .slice AH2 N cH2) HR5.out pst_ne (by omega)
      have R11 := HR5.out.put3 (x := .slice AX2 M cX2) (y := .slice AE2 N cE2) (z := .slice AH2 N cH2)
      obtain ⟨⟨k0, k1, k2⟩, -, -⟩ := R11.full3
      refine bodyPost_ret (v := .tuple #[.agg #[.slice AX2 M cX2, .slice AE2 N cE2, .slice AH2 N cH2], .int .i64 (n : Int), .int .i64 0]) (by simp [results, Try.results19, go_sem, k0, k1, k2]) rfl ⟨⟨AX2, cX2, AE2, cE2, AH2, cH2⟩, by rw [HNO.out, hkn], HXW.bel, ?_⟩
      rw [HNO.out]
      exact HXW.st HSS.out.bal.1 HSS.out.le HSS.out.lh
end Go.Proofs.Ytanifbofjecpmaa
