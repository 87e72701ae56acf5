/- RelaxedStrict: the walk. -/
import Derived.BigQuiet
import Derived.StillTailTactics
import Derived.Deep.DeepCutAuto
import Derived.Deep.CutRange
import Derived.Test.YtanifbofjecpmaaRsb
import Derived.Test.YtanifbofjecpmaaRsp
import Derived.Test.YtanifbofjecpmaaRaw
import Derived.Test.YtanifbofjecpmaaRle
import Derived.Test.YtanifbofjecpmaaOpen8
import Derived.Test.YtanifbofjecpmaaOpen9
namespace Go.Proofs.Ytanifbofjecpmaa
open Go.RowKit Go.Shelf
set_option maxRecDepth 100000

theorem str_leg {N s t : Nat} {fst hd : Nat → Nat} {X E H : List Int} {e : EvS} (h : strB N s t fst hd X E H e = true) : legI N s t fst X E H e = 0 := by
  unfold strB at h
  rw [Bool.and_eq_true] at h
  exact of_decide_eq_true h.1
/-- The first q of a slice of acts. -/
theorem acts_slice (A : Option Addr) (n c q : Nat) (hq : q ≤ c) (W : World) : (Instr.sliceAt 25 (.slice A n c) none (some (.int .i64 (q : Int))) none).run Try.prog W = .ok (.slice A q c) W := by
  have ht : Try.prog.underlying 25 = some (.slice (Try.prog.elem 25)) := by kernel_rfl
  have hs : ∃ s, ∀ W, (sizeOf (Try.prog.elem 25)).run Try.prog W = .ok s W := ⟨9, fun W => by kernel_rfl⟩
  obtain ⟨s, hs⟩ := hs
  rw [run_sliceAt_slice _ _ _ _ _ _ ht, run_slice_h _ _ _ _ _ ht _ _ (by omega) (by omega), hs]
  simp only [Result.andThen, sliced, Nat.zero_mul, Nat.sub_zero, Int.toNat_natCast]
  congr 2
  split
  · rfl
  · cases A with
    | none => rfl
    | some a => obtain ⟨b, o, s⟩ := a; cases s <;> simp [Addr.add]
theorem acts_short {w : World} {B n m : Nat} {A : Option Addr} {l : List ActS} (h : Acts w B A n l) (hm : m ≤ n) : Acts w B A m (l.take m) :=
  ⟨by rw [List.length_take, h.1]; omega, fun h0 => by
    obtain ⟨b, off, e, hb, hc⟩ := h.2 (by omega)
    refine ⟨b, off, e, hb, fun k a ha j u hu => hc k a ?_ j u hu⟩
    rw [List.getElem?_take] at ha
    split at ha
    · exact ha
    · cases ha⟩
theorem snd_inR {N M s t : Nat} {fst hd rv ai : Nat → Nat} {cp : Nat → Int} {bk : Nat → Bool} {X E H : List Int} (hG : PNet N M s t fst hd rv ai cp bk) (hS : SndIs N M s t hd rv cp X E H) : ∀ x ∈ X, InR x := by
  intro x hx
  obtain ⟨a, ha, rfl⟩ := List.mem_iff_getElem.1 hx
  have hl := hS.bal.1
  have e : hOf X a = X[a] := by unfold hOf; rw [List.getElem?_eq_getElem ha]; rfl
  have h1 := hS.bal.2 a (by omega)
  have hr := hG.g.rvl a (by omega)
  have h2 := hS.bal.2 (rv a) hr
  have h3 := hG.cp0 a (by omega); have h4 := hG.cp0 (rv a) hr
  have h5 := hG.bkr a (by omega)
  have h6 : cp a = 0 ∨ cp (rv a) = 0 := by
    cases hb : bk a with
    | true => exact .inl (hG.cpb a (by omega) hb)
    | false => rw [hb] at h5; exact .inr (hG.cpb (rv a) hr h5)
  unfold maxSum at h3 h4
  unfold InR
  rw [← e]
  omega
/-- A move stored. -/
abbrev put7 (w : World) (g : Nat) (y0 y1 y2 y3 y4 y5 y6 : Value) : World := ((((((w.setCell ⟨g, 0, none⟩ y0).setCell ⟨g, 1, none⟩ y1).setCell ⟨g, 2, none⟩ y2).setCell ⟨g, 3, none⟩ y3).setCell ⟨g, 4, none⟩ y4).setCell ⟨g, 5, none⟩ y5).setCell ⟨g, 6, none⟩ y6
section
variable {w w' : World} {g k B : Nat} {t : TypeId} {cs : Array Value} {x0 x1 x2 x3 x4 x5 x6 y0 y1 y2 y3 y4 y5 y6 : Value}
set_option maxHeartbeats 4000000 in
theorem Blk.put7 (h : Blk w g t #[x0, x1, x2, x3, x4, x5, x6]) : Blk (Proofs.Ytanifbofjecpmaa.put7 w g y0 y1 y2 y3 y4 y5 y6) g t #[y0, y1, y2, y3, y4, y5, y6] := ((((((h.set 0 y0).set 1 y1).set 2 y2).set 3 y3).set 4 y4).set 5 y5).set 6 y6
theorem Blk.far7 (h : Blk w k t cs) (hk : k ≠ g) : Blk (Proofs.Ytanifbofjecpmaa.put7 w g y0 y1 y2 y3 y4 y5 y6) k t cs := ((((((h.far (p := ⟨g, 0, none⟩) hk _).far (p := ⟨g, 1, none⟩) hk _).far (p := ⟨g, 2, none⟩) hk _).far (p := ⟨g, 3, none⟩) hk _).far (p := ⟨g, 4, none⟩) hk _).far (p := ⟨g, 5, none⟩) hk _).far (p := ⟨g, 6, none⟩) hk _
theorem below_put7 (h : Below B w w') (hg : B ≤ g) : Below B w (Proofs.Ytanifbofjecpmaa.put7 w' g y0 y1 y2 y3 y4 y5 y6) := ((((((h.setCell (p := ⟨g, 0, none⟩) hg _).setCell (p := ⟨g, 1, none⟩) hg _).setCell (p := ⟨g, 2, none⟩) hg _).setCell (p := ⟨g, 3, none⟩) hg _).setCell (p := ⟨g, 4, none⟩) hg _).setCell (p := ⟨g, 5, none⟩) hg _).setCell (p := ⟨g, 6, none⟩) hg _
theorem Blk.free7 (h : Blk w g t cs) : w.frozen? ⟨g, 0, none⟩ = false ∧ w.frozen? ⟨g, 1, none⟩ = false ∧ w.frozen? ⟨g, 2, none⟩ = false ∧ w.frozen? ⟨g, 3, none⟩ = false ∧ w.frozen? ⟨g, 4, none⟩ = false ∧ w.frozen? ⟨g, 5, none⟩ = false ∧ w.frozen? ⟨g, 6, none⟩ = false := ⟨h.frozen 0, h.frozen 1, h.frozen 2, h.frozen 3, h.frozen 4, h.frozen 5, h.frozen 6⟩
end

theorem StOff.low {b b' : Nat} {Q : PreS} (h : StOff b Q) (hb : b' ≤ b) : StOff b' Q := ⟨fun a e => Nat.le_trans hb (h.aX a e), fun a e => Nat.le_trans hb (h.aE a e), fun a e => Nat.le_trans hb (h.aH a e)⟩
/-- The event is that of a strict move, and the state the one behind it. -/
structure NxIs (N M s t : Nat) (fst hd rv : Nat → Nat) (cp : Nat → Int) (X E H : List Int) (ev : EvS) (X' E' H' : List Int) : Prop where
  leg : legI N s t fst X E H ev = 0
  str : strB N s t fst hd X E H ev = true
  nx : nxX N s t fst rv X E H ev = X'
  ne : nxE N s t fst hd rv X E H ev = E'
  nh : nxH N s t fst X E H ev = H'
  st : StIs N M s t hd rv cp X' E' H'

set_option maxHeartbeats 32000000 in
theorem rstrict_walk (N S T : Int) (A : Option Addr) (n c : Nat) (l : List ArcN) (AU : Option Addr) (nu cu : Nat) (U : List Int) (AL : Option Addr) (nl cl : Nat) (LL : List ActS) (w : World) (hA : Arcs w w.heap.size A n l) (hf : FitsAll l) (hnc : n ≤ c) (hU : Halves w w.heap.size AU nu U) (hUR : ∀ x ∈ U, 0 ≤ x ∧ x ≤ 65535) (hcu : nu ≤ cu) (hL : Acts w w.heap.size AL nl LL) :
    Calls Try.prog 6 #[.agg #[.int .i64 N, .int .i64 S, .int .i64 T, .slice A n c], .slice AU nu cu, .slice AL nl cl] w fun e w' => e = .returned (.bool true) ∧ Below w.heap.size w w' := by
  obtain ⟨N1, M, s, t, hso⟩ := some_begun N S T A n c 10 20 l w hA hf hnc (by omega) (by omega) (by omega)
  have HSO := Lib.hid hso; have HU := Lib.hid hU; have HL := Lib.hid hL; have HUR := Lib.hid hUR
  clear hso hU hA hf hL hUR
  go_enter Try.func6, Try.ntmps6
  go_wp2_with fail
  refine (HSO.out _ (below_alloc _)).mono ?_
  rintro e w1 ⟨v, rfl, B1, hbg⟩
  have HBG := Lib.hid hbg
  have B01 := below_step (below_alloc _) B1
  clear hbg HSO
  go_wp2_with fail
  refine (HBG.out _ (Below.refl _ _)).mono ?_
  rintro e w2 ⟨x0, K, Q, fst, hd, rv, ai, cp, bk, X, E, rfl, hP, hI, hR, hS, hx0, B2⟩
  have B02 := below_step B01 B2
  have hI2 := hI.more hR.bas
  have hN := hP.nN; have hM := hP.nM; have hn2 := hP.n2
  have HP := Lib.hid hP; have HI := Lib.hid hI2; have HB := Lib.hid B02
  clear hP hI hR hS hI2 B01 B02 B1 B2 HBG hx0
  obtain ⟨q, hq⟩ : ∃ q, min nu 80 = q := ⟨_, rfl⟩
  have HUQ := Lib.hid (RdBy.short (m := q) ((HU.out.below HB.out).more HB.out.size) (by omega))
  have HLQ := Lib.hid ((HL.out.below HB.out).more HB.out.size)
  have hlr : ∀ x ∈ U.take q, 0 ≤ x ∧ x ≤ 65535 := fun x hx => HUR.out x (List.mem_of_mem_take hx)
  have HLR := Lib.hid hlr
  obtain ⟨L, hL⟩ : ∃ L, U.take q = L := ⟨_, rfl⟩
  rw [hL] at HUQ HLR
  clear HU hL HL hlr HUR
  have hsl := halves_slice AU nu cu q (by omega)
  have hm1 : (if (nu : Int) < 80 then (nu : Int) else (80 : Int)) = (q : Int) := by rw [← hq]; split <;> omega
  have hm2 : (if nu < 80 then (nu : Int) else (80 : Int)) = (q : Int) := by rw [← hq]; split <;> omega
  have hm3 : min (nu : Int) 80 = (q : Int) := by omega
  have hm4 : (if (80 : Int) < (nu : Int) then (80 : Int) else (nu : Int)) = (q : Int) := by rw [← hq]; split <;> omega
  have hm5 : (if 80 < nu then (80 : Int) else (nu : Int)) = (q : Int) := by rw [← hq]; split <;> omega
  have h0q : (0 : Int) ≤ (q : Int) := by omega
  have hqc : (q : Int) ≤ (cu : Int) := by omega
  have hq80 : q ≤ 80 := by omega
  clear hq
  obtain ⟨AF, cF, AH, cH, AR, cR, AC, cC, AA, cA, AB, cB⟩ := K
  have hfi := fun (Q : PreS) X E H ev raw fit W (hb : Below w2.heap.size w2 W) (hq : StIn W W.heap.size M N1 N1 Q X E H) => fitted_is N1 M s t ⟨AF, cF, AH, cH, AR, cR, AC, cC, AA, cA, AB, cB⟩ Q fst hd rv X E H ev raw fit W HP.out.g ((HI.out.below hb).more hb.size).gi hq hN hn2 hM
  have hst := fun (Q : PreS) X E H ev W (hb : Below w2.heap.size w2 W) (hq : StIn W W.heap.size M N1 N1 Q X E H) hs => rstrict_is N1 M s t ⟨AF, cF, AH, cH, AR, cR, AC, cC, AA, cA, AB, cB⟩ Q fst hd rv ai cp bk X E H ev W HP.out ((HI.out.below hb).more hb.size).gi hq hs
  have hmo := fun (Q : PreS) X E H ev W (hb : Below w2.heap.size w2 W) (hq : StIn W W.heap.size M N1 N1 Q X E H) hs => rmove_is N1 M s t ⟨AF, cF, AH, cH, AR, cR, AC, cC, AA, cA, AB, cB⟩ Q fst hd rv ai cp bk X E H ev W HP.out ((HI.out.below hb).more hb.size).gi hq hs
  have hrt := fun (Q : PreS) X E H W (hb : Below w2.heap.size w2 W) (hq : StIn W W.heap.size M N1 N1 Q X E H) (hs : SndIs N1 M s t hd rv cp X E H) => rright_is N1 M s t M N1 N1 ⟨AF, cF, AH, cH, AR, cR, AC, cC, AA, cA, AB, cB⟩ Q fst hd rv ai cp bk X E H true W HP.out ((HI.out.below hb).more hb.size) hq (snd_inR HP.out hs) ⟨fun _ => ⟨rfl, rfl, rfl, hs⟩, fun _ => rfl⟩
  have hpr := fun (Q : PreS) X E H W (hb : Below w2.heap.size w2 W) (hq : StIn W W.heap.size M N1 N1 Q X E H) (hs : StIs N1 M s t hd rv cp X E H) => pright_is N1 M s t M N1 N1 ⟨AF, cF, AH, cH, AR, cR, AC, cC, AA, cA, AB, cB⟩ Q fst hd rv ai cp bk X E H W HP.out ((HI.out.below hb).more hb.size) hq (snd_inR HP.out hs.snd) (st_inR HP.out hs) true ⟨fun _ => ⟨rfl, rfl, rfl, hs⟩, fun _ => rfl⟩
  have hbe := fun W (hb : Below w2.heap.size w2 W) => begin7_is (K := ⟨AF, cF, AH, cH, AR, cR, AC, cC, AA, cA, AB, cB⟩) HP.out ((HI.out.below hb).more hb.size)
  have hma := fun (Q : PreS) X E H W (hb : Below w2.heap.size w2 W) (hq : StIn W W.heap.size M N1 N1 Q X E H) (hs : StIs N1 M s t hd rv cp X E H) => may7_is (K := ⟨AF, cF, AH, cH, AR, cR, AC, cC, AA, cA, AB, cB⟩) HP.out ((HI.out.below hb).more hb.size) hq hs
  have hsm := fun (Q R : PreS) X E H W (hq : StIn W W.heap.size M N1 N1 Q X E H) (hr : StIn W W.heap.size M N1 N1 R X E H) => rsame_is M N1 N1 M N1 N1 Q R X E H X E H true W hq hr (by omega) (by omega) (by omega) (by omega) (by omega) (by omega) (by simp)
  have HFI := Lib.hid hfi; have HST := Lib.hid hst; have HMO := Lib.hid hmo; have HRT := Lib.hid hrt; have HPR := Lib.hid hpr; have HBE := Lib.hid hbe; have HMA := Lib.hid hma; have HSM := Lib.hid hsm; have HSL := Lib.hid hsl
  clear hfi hst hmo hrt hpr hbe hma hsm hsl
  dsimp only [csrW, preW, actW, evW] at HFI HST HMO HRT HPR HBE HMA HSM ⊢
  go_upto_region 2 with fail
  obtain ⟨w3, hw3⟩ : ∃ w3, ((w2.alloc (.cells #[.int .i64 (N1 : Int), .int .i64 (s : Int), .int .i64 (t : Int), .slice AF (N1 + 1) cF, .slice AH M cH, .slice AR M cR, .slice AC M cC, .slice AA M cA, .slice AB M cB] 32)).alloc (.cells #[.slice Q.AX M Q.cX, .slice Q.AE N1 Q.cE, .slice Q.AH N1 Q.cH] 29)) = w3 := ⟨_, rfl⟩
  have B3 : Below w2.heap.size w2 w3 := by rw [← hw3]; exact (below_alloc _).alloc (by simp) _
  have C3 : Blk w3 w2.heap.size 32 #[.int .i64 (N1 : Int), .int .i64 (s : Int), .int .i64 (t : Int), .slice AF (N1 + 1) cF, .slice AH M cH, .slice AR M cR, .slice AC M cC, .slice AA M cA, .slice AB M cB] := by rw [← hw3]; exact (Blk.new rfl).alloc _
  rw [hw3]
  clear hw3
  obtain ⟨c0, c1, c2, c3, c4, c5, c6, c7, c8⟩ := C3.at9
  have zc := C3.lt
  have HB3 := Lib.hid B3; have HC3 := Lib.hid C3
  clear B3 C3
  go_wp2_with fail
  refine (HBE.out _ HB3.out).mono ?_
  rintro e w4 ⟨Q0, X, E, H, rfl, B4, st4, is4⟩
  have HB4 := Lib.hid (below_step HB3.out B4); have HC4 := Lib.hid (HC3.out.below B4 HC3.out.lt); have HST4 := Lib.hid st4; have HIS := Lib.hid is4
  clear st4 is4 HB3 HC3 B4 c0 c1 c2 c3 c4 c5 c6 c7 c8 zc HBE
  obtain ⟨c0, c1, c2, c3, c4, c5, c6, c7, c8⟩ := HC4.out.at9
  have zc := HC4.out.lt
  obtain ⟨gP, hgP⟩ : ∃ g, w4.heap.size = g := ⟨_, rfl⟩
  have hgC : w2.heap.size < gP := by omega
  go_upto_region 3 with fail
  obtain ⟨w5, hw5⟩ : ∃ w5, w4.alloc (.cells #[.slice Q0.AX M Q0.cX, .slice Q0.AE N1 Q0.cE, .slice Q0.AH N1 Q0.cH] 29) = w5 := ⟨_, rfl⟩
  have B5 : Below w4.heap.size w4 w5 := by rw [← hw5]; exact below_alloc _
  have V5 : LpI w2 N1 M s t ⟨AF, cF, AH, cH, AR, cR, AC, cC, AA, cA, AB, cB⟩ hd rv cp w2.heap.size gP Q0 X E H w5 := by
    refine ⟨below_step HB4.out B5, HC4.out.below B5 HC4.out.lt, ?_, HST4.out.on B5, HIS.out.snd⟩
    rw [← hw5]; exact Blk.new hgP
  rw [hw5]
  try rw [hgP]
  clear hw5 B5 hgP HST4 HC4 HB4 c0 c1 c2 c3 c4 c5 c6 c7 c8 zc
  obtain ⟨c0, c1, c2, c3, c4, c5, c6, c7, c8⟩ := V5.c.at9
  obtain ⟨⟨p0, p1, p2⟩, -, zp⟩ := V5.p.full3
  have zc := V5.c.lt
  have HV5 := Lib.hid V5
  clear V5
  go_wp2_with fail
  refine (HRT.out Q0 X E H _ HV5.out.bel HV5.out.st HV5.out.snd).mono ?_
  rintro e w6 ⟨rfl, B6⟩
  have V6 := HV5.out.on B6
  clear c0 c1 c2 c3 c4 c5 c6 c7 c8 p0 p1 p2 zp zc HV5 B6 HRT
  have HX := HSL.out
  go_wp2_with fail
  go_loopw [10, 11, 12, 13, 14, 15, 16, 17, 18, 19, 20, 21, 22, 23, 24, 25, 26, 27, 28, 47] (fun _ _ _ _ _ _ _ _ _ _ _ _ _ _ _ _ _ _ _ i wr => ∃ (k : Nat) (Q : PreS) (X E H : List Int), k ≤ q ∧ i = .int .i64 k ∧ LpI w2 N1 M s t ⟨AF, cF, AH, cH, AR, cR, AC, cC, AA, cA, AB, cB⟩ hd rv cp w2.heap.size gP Q X E H wr ∧ StIs N1 M s t hd rv cp X E H) (fun _ _ _ _ _ _ _ _ _ _ _ _ _ _ _ _ _ _ _ i _ => q - (intOf i).toNat)
  case atStart => exact ⟨0, Q0, X, E, H, Nat.zero_le _, rfl, V6, HIS.out⟩
  case round =>
    clear V6 HX HIS
    obtain ⟨k, Q, X, E, H, hk, rfl, V, hst⟩ := hrel
    obtain ⟨AX, cX, AE, cE, AHH, cHH⟩ := Q
    have HIS := Lib.hid hst
    clear hst
    by_cases hlt : k < q
    · skip
      obtain ⟨b, off, x, rfl, hbl, hla, a0⟩ := halves_at (HUQ.out.below V.bel) hlt
      obtain ⟨x, rfl⟩ := Int.eq_ofNat_of_zero_le (HLR.out _ (List.mem_of_getElem? hla)).1
      have hx5 := (HLR.out _ (List.mem_of_getElem? hla)).2
      have zb : b < wr.heap.size := by have := V.bel.size; omega
      have HV := Lib.hid V
      clear V hla
      go_upto_if 55 with fail
      go_cut [12, 13, 14] (fun _ _ _ wx => LpI w2 N1 M s t ⟨AF, cF, AH, cH, AR, cR, AC, cC, AA, cA, AB, cB⟩ hd rv cp w2.heap.size gP ⟨AX, cX, AE, cE, AHH, cHH⟩ X E H wx)
      case first =>
        by_cases hkl : k < nl
        · skip
          obtain ⟨bl, ol, ⟨⟨j0, j1, j2, j3, j4, j5, j6⟩, jr, jf⟩, rfl, hbL, -, a0, a1, a2, a3, a4, a5, a6, a7, a8⟩ := acts_at (HLQ.out.below HV.out.bel) hkl
          dsimp only at a0 a1 a2 a3 a4 a5 a6 a7 a8
          have zl : bl < wr.heap.size := by have := HV.out.bel.size; omega
          have hkeep : ∀ W', Below wr.heap.size wr W' → W'.cell? ⟨w2.heap.size, 0, none⟩ = some (.int .i64 (N1 : Int)) ∧ W'.cell? ⟨w2.heap.size, 1, none⟩ = some (.int .i64 (s : Int)) ∧ W'.cell? ⟨w2.heap.size, 2, none⟩ = some (.int .i64 (t : Int)) ∧ W'.cell? ⟨w2.heap.size, 3, none⟩ = some (.slice AF (N1 + 1) cF) ∧ W'.cell? ⟨w2.heap.size, 4, none⟩ = some (.slice AH M cH) ∧ W'.cell? ⟨w2.heap.size, 5, none⟩ = some (.slice AR M cR) ∧ W'.cell? ⟨w2.heap.size, 6, none⟩ = some (.slice AC M cC) ∧ W'.cell? ⟨w2.heap.size, 7, none⟩ = some (.slice AA M cA) ∧ W'.cell? ⟨w2.heap.size, 8, none⟩ = some (.slice AB M cB) ∧ W'.cell? ⟨gP, 0, none⟩ = some (.slice AX M cX) ∧ W'.cell? ⟨gP, 1, none⟩ = some (.slice AE N1 cE) ∧ W'.cell? ⟨gP, 2, none⟩ = some (.slice AHH N1 cHH) ∧ W'.cell? ⟨bl, ol + k * 9, none⟩ = some (.int .i64 j0) ∧ W'.cell? ⟨bl, ol + k * 9 + 1, none⟩ = some (.int .u8 j1) ∧ W'.cell? ⟨bl, ol + k * 9 + 2, none⟩ = some (.int .i64 j2) ∧ W'.cell? ⟨bl, ol + k * 9 + 3, none⟩ = some (.int .i64 j3) ∧ W'.cell? ⟨bl, ol + k * 9 + 4, none⟩ = some (.int .i64 j4) ∧ W'.cell? ⟨bl, ol + k * 9 + 5, none⟩ = some (.int .i64 j5) ∧ W'.cell? ⟨bl, ol + k * 9 + 6, none⟩ = some (.int .i64 j6) ∧ W'.cell? ⟨bl, ol + k * 9 + 7, none⟩ = some (.bool jr) ∧ W'.cell? ⟨bl, ol + k * 9 + 8, none⟩ = some (.int .u8 jf) := fun W' hb => by
            obtain ⟨c0, c1, c2, c3, c4, c5, c6, c7, c8⟩ := (HV.out.c.below hb HV.out.c.lt).at9
            obtain ⟨⟨p0, p1, p2⟩, -, -⟩ := (HV.out.p.below hb HV.out.p.lt).full3
            exact ⟨c0, c1, c2, c3, c4, c5, c6, c7, c8, p0, p1, p2, (hb.cell (p := ⟨bl, ol + k * 9, none⟩) zl).trans a0, (hb.cell (p := ⟨bl, ol + k * 9 + 1, none⟩) zl).trans a1, (hb.cell (p := ⟨bl, ol + k * 9 + 2, none⟩) zl).trans a2, (hb.cell (p := ⟨bl, ol + k * 9 + 3, none⟩) zl).trans a3, (hb.cell (p := ⟨bl, ol + k * 9 + 4, none⟩) zl).trans a4, (hb.cell (p := ⟨bl, ol + k * 9 + 5, none⟩) zl).trans a5, (hb.cell (p := ⟨bl, ol + k * 9 + 6, none⟩) zl).trans a6, (hb.cell (p := ⟨bl, ol + k * 9 + 7, none⟩) zl).trans a7, (hb.cell (p := ⟨bl, ol + k * 9 + 8, none⟩) zl).trans a8⟩
          have HKEEP := Lib.hid hkeep
          clear hkeep a0 a1 a2 a3 a4 a5 a6 a7 a8 hbL
          go_upto_region 9 with fail
          refine wp_region_held_drew (S := fun W' => W'.cell? ⟨w2.heap.size, 0, none⟩ = some (.int .i64 (N1 : Int)) ∧ W'.cell? ⟨w2.heap.size, 1, none⟩ = some (.int .i64 (s : Int)) ∧ W'.cell? ⟨w2.heap.size, 2, none⟩ = some (.int .i64 (t : Int)) ∧ W'.cell? ⟨w2.heap.size, 3, none⟩ = some (.slice AF (N1 + 1) cF) ∧ W'.cell? ⟨w2.heap.size, 4, none⟩ = some (.slice AH M cH) ∧ W'.cell? ⟨w2.heap.size, 5, none⟩ = some (.slice AR M cR) ∧ W'.cell? ⟨w2.heap.size, 6, none⟩ = some (.slice AC M cC) ∧ W'.cell? ⟨w2.heap.size, 7, none⟩ = some (.slice AA M cA) ∧ W'.cell? ⟨w2.heap.size, 8, none⟩ = some (.slice AB M cB) ∧ W'.cell? ⟨gP, 0, none⟩ = some (.slice AX M cX) ∧ W'.cell? ⟨gP, 1, none⟩ = some (.slice AE N1 cE) ∧ W'.cell? ⟨gP, 2, none⟩ = some (.slice AHH N1 cHH) ∧ W'.cell? ⟨bl, ol + k * 9, none⟩ = some (.int .i64 j0) ∧ W'.cell? ⟨bl, ol + k * 9 + 1, none⟩ = some (.int .u8 j1) ∧ W'.cell? ⟨bl, ol + k * 9 + 2, none⟩ = some (.int .i64 j2) ∧ W'.cell? ⟨bl, ol + k * 9 + 3, none⟩ = some (.int .i64 j3) ∧ W'.cell? ⟨bl, ol + k * 9 + 4, none⟩ = some (.int .i64 j4) ∧ W'.cell? ⟨bl, ol + k * 9 + 5, none⟩ = some (.int .i64 j5) ∧ W'.cell? ⟨bl, ol + k * 9 + 6, none⟩ = some (.int .i64 j6) ∧ W'.cell? ⟨bl, ol + k * 9 + 7, none⟩ = some (.bool jr) ∧ W'.cell? ⟨bl, ol + k * 9 + 8, none⟩ = some (.int .u8 jf)) (by kernel_rfl) (HKEEP.out _ (Below.refl _ _).drew) (fun hS0 => ?_)
          obtain ⟨W, hW⟩ : ∃ W, wr.drew = W := ⟨_, rfl⟩
          have B : Below wr.heap.size wr W := by rw [← hW]; exact (Below.refl _ _).drew
          rw [hW] at hS0 ⊢
          clear hW
          refine ta (v := ?_) 0 56 rfl ?_ ?_
          rotate_left
          · (intro W hSw; obtain ⟨c0, c1, c2, c3, c4, c5, c6, c7, c8, p0, p1, p2, a0, a1, a2, a3, a4, a5, a6, a7, a8⟩ := hSw; go_simp; try with_reducible rfl)
          simp only [Act.put, pa, pz, ps]
          refine ta (v := ?_) 1 57 rfl ?_ ?_
          rotate_left
          · (intro W hSw; obtain ⟨c0, c1, c2, c3, c4, c5, c6, c7, c8, p0, p1, p2, a0, a1, a2, a3, a4, a5, a6, a7, a8⟩ := hSw; go_simp; try with_reducible rfl)
          simp only [Act.put, pa, pz, ps]
          refine ta (v := ?_) 2 58 rfl ?_ ?_
          rotate_left
          · (intro W hSw; obtain ⟨c0, c1, c2, c3, c4, c5, c6, c7, c8, p0, p1, p2, a0, a1, a2, a3, a4, a5, a6, a7, a8⟩ := hSw; go_simp; try with_reducible rfl)
          simp only [Act.put, pa, pz, ps]
          refine ta (v := ?_) 3 59 rfl ?_ ?_
          rotate_left
          · (intro W hSw; obtain ⟨c0, c1, c2, c3, c4, c5, c6, c7, c8, p0, p1, p2, a0, a1, a2, a3, a4, a5, a6, a7, a8⟩ := hSw; go_simp; try with_reducible rfl)
          simp only [Act.put, pa, pz, ps]
          refine ta (v := ?_) 4 60 rfl ?_ ?_
          rotate_left
          · (intro W hSw; obtain ⟨c0, c1, c2, c3, c4, c5, c6, c7, c8, p0, p1, p2, a0, a1, a2, a3, a4, a5, a6, a7, a8⟩ := hSw; go_simp; try with_reducible rfl)
          simp only [Act.put, pa, pz, ps]
          refine ta (v := ?_) 5 61 rfl ?_ ?_
          rotate_left
          · (intro W hSw; obtain ⟨c0, c1, c2, c3, c4, c5, c6, c7, c8, p0, p1, p2, a0, a1, a2, a3, a4, a5, a6, a7, a8⟩ := hSw; go_simp; try with_reducible rfl)
          simp only [Act.put, pa, pz, ps]
          refine (have r11 : Hid ?Tr11 := ?pr11; ?mr11)
          case mr11 =>
           refine (have r10 : Hid ?Tr10 := ?pr10; ?mr10)
           case mr10 =>
            refine (have r01 : Hid ?Tr01 := ?pr01; ?mr01)
            case mr01 =>
             refine wpAnyH_ready (rs := [6, 7]) (by kernel_rfl) (by simp) ?_
             refine (AllReadyH.cons rfl (fun K hK => ?_) (AllReadyH.cons rfl (fun K hK => ?_) AllReadyH.nil))
             · skip
               go_simp
               refine (HFI.out ⟨AX, cX, AE, cE, AHH, cHH⟩ X E H ⟨j0, j1, j2, j3, j4, j5, j6⟩ jr jf _ (HV.out.on B).bel (HV.out.on B).st).mono ?_
               rintro e V ⟨⟨v0, v1, v2, v3, v4, v5, v6⟩, rfl, B9⟩
               have xB := below_step B B9
               refine hK.out _ _ (HKEEP.out _ xB) (fun hSx => ?_)
               clear hK K
               try simp only [Act.put, pa, pz, ps]
               clear hSx B9 
               obtain ⟨W, rfl⟩ : ∃ W, W = V := ⟨_, rfl⟩
               have B := xB
               clear xB
               revert B
               revert W
               revert v6
               revert v5
               revert v4
               revert v3
               revert v2
               revert v1
               revert v0
               exact r10.out
             · skip
               go_simp
               obtain ⟨gA, hgn⟩ : ∃ g, W.heap.size = g := ⟨_, rfl⟩
               obtain ⟨V, hV⟩ : ∃ V, W.alloc (.cells #[.int .i64 0, .int .u8 0, .int .i64 0, .int .i64 0, .int .i64 0, .int .i64 0, .int .i64 0] 39) = V := ⟨_, rfl⟩
               have hba : Below W.heap.size W V := by rw [← hV]; exact below_alloc _
               have xHA : Blk V gA 39 #[.int .i64 0, .int .u8 0, .int .i64 0, .int .i64 0, .int .i64 0, .int .i64 0, .int .i64 0] := by rw [← hV]; exact Blk.new hgn
               have xlA : wr.heap.size ≤ gA := by rw [← hgn]; exact B.size
               have xB := below_step B hba
               refine hK.out _ _ (by rw [hV]; exact HKEEP.out _ xB) (fun hSx => ?_)
               clear hK K hSx 
               try simp only [Act.put, pa, pz, ps]
               rw [hV]
               rw [hgn]
               clear hV hba hgn
               obtain ⟨W, rfl⟩ : ∃ W, W = V := ⟨_, rfl⟩
               have B := xB
               clear xB
               have lA := xlA
               clear xlA
               have HA := xHA
               clear xHA
               revert HA
               revert lA
               revert B
               revert W
               revert gA
               exact r01.out
            case pr01 =>
             refine Lib.hid ?_
             intro gA W B lA HA
             have hS0 := HKEEP.out _ B
             refine wpAnyH_ready (rs := [6]) (by kernel_rfl) (by simp) ?_
             refine (AllReadyH.cons rfl (fun K hK => ?_) AllReadyH.nil)
             · skip
               go_simp
               refine (HFI.out ⟨AX, cX, AE, cE, AHH, cHH⟩ X E H ⟨j0, j1, j2, j3, j4, j5, j6⟩ jr jf _ (HV.out.on B).bel (HV.out.on B).st).mono ?_
               rintro e V ⟨⟨v0, v1, v2, v3, v4, v5, v6⟩, rfl, B9⟩
               have xB := below_step B B9
               have xHA := HA.below B9 HA.lt
               have xlA := lA
               refine hK.out _ _ (HKEEP.out _ xB) (fun hSx => ?_)
               clear hK K
               try simp only [Act.put, pa, pz, ps]
               clear hSx B9 hS0 B lA HA
               clear W
               obtain ⟨W, rfl⟩ : ∃ W, W = V := ⟨_, rfl⟩
               have B := xB
               clear xB
               have lA := xlA
               clear xlA
               have HA := xHA
               clear xHA
               revert HA
               revert lA
               revert B
               revert W
               revert gA
               revert v6
               revert v5
               revert v4
               revert v3
               revert v2
               revert v1
               revert v0
               exact r11.out
           case pr10 =>
            refine Lib.hid ?_
            intro v0 v1 v2 v3 v4 v5 v6 W B
            have hS0 := HKEEP.out _ B
            refine wpAnyH_ready (rs := [7]) (by kernel_rfl) (by simp) ?_
            refine (AllReadyH.cons rfl (fun K hK => ?_) AllReadyH.nil)
            · skip
              go_simp
              obtain ⟨gA, hgn⟩ : ∃ g, W.heap.size = g := ⟨_, rfl⟩
              obtain ⟨V, hV⟩ : ∃ V, W.alloc (.cells #[.int .i64 0, .int .u8 0, .int .i64 0, .int .i64 0, .int .i64 0, .int .i64 0, .int .i64 0] 39) = V := ⟨_, rfl⟩
              have hba : Below W.heap.size W V := by rw [← hV]; exact below_alloc _
              have xHA : Blk V gA 39 #[.int .i64 0, .int .u8 0, .int .i64 0, .int .i64 0, .int .i64 0, .int .i64 0, .int .i64 0] := by rw [← hV]; exact Blk.new hgn
              have xlA : wr.heap.size ≤ gA := by rw [← hgn]; exact B.size
              have xB := below_step B hba
              refine hK.out _ _ (by rw [hV]; exact HKEEP.out _ xB) (fun hSx => ?_)
              clear hK K hSx hS0 B
              try simp only [Act.put, pa, pz, ps]
              rw [hV]
              rw [hgn]
              clear hV hba hgn
              clear W
              obtain ⟨W, rfl⟩ : ∃ W, W = V := ⟨_, rfl⟩
              have B := xB
              clear xB
              have lA := xlA
              clear xlA
              have HA := xHA
              clear xHA
              revert HA
              revert lA
              revert B
              revert W
              revert gA
              revert v6
              revert v5
              revert v4
              revert v3
              revert v2
              revert v1
              revert v0
              exact r11.out
          case pr11 =>
           refine Lib.hid ?_
           intro v0 v1 v2 v3 v4 v5 v6 gA W B lA HA
           have hS0 := HKEEP.out _ B
           obtain ⟨z0, z1, z2, z3, z4, z5, z6⟩ := HA.at7
           obtain ⟨f0, f1, f2, f3, f4, f5, f6⟩ := HA.free7
           have hz := HA.lt
           refine wpAnyH_ready (rs := [8]) (by kernel_rfl) (by simp) ?_
           refine AllReadyH.cons rfl (fun K hK => ?_) AllReadyH.nil
           go_simp
           have xB : Below wr.heap.size wr (put7 W gA (.int .i64 v0) (.int .u8 v1) (.int .i64 v2) (.int .i64 v3) (.int .i64 v4) (.int .i64 v5) (.int .i64 v6)) := below_put7 B lA
           have xA := HA.put7 (y0 := .int .i64 v0) (y1 := .int .u8 v1) (y2 := .int .i64 v2) (y3 := .int .i64 v3) (y4 := .int .i64 v4) (y5 := .int .i64 v5) (y6 := .int .i64 v6)
           refine hK.out _ _ (HKEEP.out _ xB) (fun hSx => ?_)
           clear hK K hSx hS0 z0 z1 z2 z3 z4 z5 z6 f0 f1 f2 f3 f4 f5 f6 hz HA B
           dsimp only [put7] at xB xA
           generalize ((((((W.setCell ⟨gA, 0, none⟩ (.int .i64 v0)).setCell ⟨gA, 1, none⟩ (.int .u8 v1)).setCell ⟨gA, 2, none⟩ (.int .i64 v2)).setCell ⟨gA, 3, none⟩ (.int .i64 v3)).setCell ⟨gA, 4, none⟩ (.int .i64 v4)).setCell ⟨gA, 5, none⟩ (.int .i64 v5)).setCell ⟨gA, 6, none⟩ (.int .i64 v6) = wz at *
           refine wpAnyH_done (by kernel_rfl) ?_ _
           have HVa := Lib.hid (HV.out.on xB); have HEa := Lib.hid xA
           clear xA xB HKEEP HV lA zl
           obtain ⟨c0, c1, c2, c3, c4, c5, c6, c7, c8⟩ := HVa.out.c.at9
           have zc := HVa.out.c.lt
           obtain ⟨⟨p0, p1, p2⟩, -, zp⟩ := HVa.out.p.full3
           obtain ⟨e0, e1, e2, e3, e4, e5, e6⟩ := HEa.out.at7
           have ze := HEa.out.lt
           go_wp2_with fail
           refine (HMO.out ⟨AX, cX, AE, cE, AHH, cHH⟩ X E H ⟨v0, v1, v2, v3, v4, v5, v6⟩ _ HVa.out.bel HVa.out.st HVa.out.snd).mono ?_
           rintro e w6 ⟨Q', rfl, B6, st6⟩
           have HVb := Lib.hid (HVa.out.on B6); have HEb := Lib.hid (HEa.out.below B6 HEa.out.lt); have HS6 := Lib.hid st6
           clear st6 B6 HVa HEa c0 c1 c2 c3 c4 c5 c6 c7 c8 zc p0 p1 p2 zp e0 e1 e2 e3 e4 e5 e6 ze
           obtain ⟨A4, d4, A5, d5, A6, d6⟩ := Q'
           dsimp only [preW]
           obtain ⟨c0, c1, c2, c3, c4, c5, c6, c7, c8⟩ := HVb.out.c.at9
           have zc := HVb.out.c.lt
           obtain ⟨⟨p0, p1, p2⟩, -, zp⟩ := HVb.out.p.full3
           obtain ⟨e0, e1, e2, e3, e4, e5, e6⟩ := HEb.out.at7
           have ze := HEb.out.lt
           go_wp2_with fail
           refine (HST.out ⟨AX, cX, AE, cE, AHH, cHH⟩ X E H ⟨v0, v1, v2, v3, v4, v5, v6⟩ _ (below_step HVb.out.bel (below_alloc _)) (HVb.out.on (below_alloc _)).st HVb.out.snd).mono ?_
           rintro e w7 ⟨rfl, B7⟩
           have B7x := below_step (below_alloc _) B7
           have HVc := Lib.hid (HVb.out.on B7x); have HS7 := Lib.hid (HS6.out.on B7x)
           have HT7 : Hid (Blk w7 w6.heap.size 29 #[.slice A4 M d4, .slice A5 N1 d5, .slice A6 N1 d6]) := Lib.hid ((Blk.new rfl).below B7 (by simp))
           clear B7 B7x HVb HEb HS6 c0 c1 c2 c3 c4 c5 c6 c7 c8 zc p0 p1 p2 zp e0 e1 e2 e3 e4 e5 e6 ze
           obtain ⟨sb, hsb⟩ : ∃ sb, strB N1 s t fst hd X E H ⟨v0, v1, v2, v3, v4, v5, v6⟩ = sb := ⟨_, rfl⟩
           rw [hsb]
           cases sb with
           | false =>
             clear hsb
             go_wp2_with fail
             go_meet
             exact HVc.out
           | true =>
             obtain ⟨hl0, hs0⟩ := str_st HP.out HIS.out hsb
             rw [hl0]
             have HS8 := Lib.hid hs0
             clear hl0 hsb hs0
             obtain ⟨c0, c1, c2, c3, c4, c5, c6, c7, c8⟩ := HVc.out.c.at9
             have zc := HVc.out.c.lt
             obtain ⟨⟨q0, q1, q2⟩, -, zq⟩ := HT7.out.full3
             go_wp2_with fail
             refine (HPR.out ⟨A4, d4, A5, d5, A6, d6⟩ _ _ _ _ HVc.out.bel HS7.out HS8.out).mono ?_
             rintro e w8 ⟨rfl, B8⟩
             have HVd := Lib.hid (HVc.out.on B8)
             clear B8 c0 c1 c2 c3 c4 c5 c6 c7 c8 zc q0 q1 q2 zq HVc HS7 HT7
             go_wp2_with fail
             go_meet
             exact HVd.out
        · have hkl1 : ¬ (k : Int) < (nl : Int) := by omega
          go_wp2_with fail
          go_meet
          exact HV.out
      case rest =>
        have HV1 := Lib.hid hcut
        clear hcut HV zb hbl a0
        obtain ⟨c0, c1, c2, c3, c4, c5, c6, c7, c8⟩ := HV1.out.c.at9
        have zc := HV1.out.c.lt
        obtain ⟨⟨p0, p1, p2⟩, ⟨f0, f1, f2⟩, zp⟩ := HV1.out.p.full3
        go_wp2_with fail
        refine (HMA.out ⟨AX, cX, AE, cE, AHH, cHH⟩ X E H wc HV1.out.bel HV1.out.st HIS.out).mono ?_
        rintro e w6 ⟨A1, A2, n1, kc1, n2, kc2, L1, L2, rfl, B6, i1, i2, hn1, hn2, m1, m2⟩
        have HV6 := Lib.hid (HV1.out.on B6); have HI1 := Lib.hid i1; have HI2 := Lib.hid i2; have HM1 := Lib.hid m1; have HM2 := Lib.hid m2
        clear B6 i1 i2 m1 m2 HV1 c0 c1 c2 c3 c4 c5 c6 c7 c8 zc p0 p1 p2 f0 f1 f2 zp
        obtain ⟨nn, hnn⟩ : ∃ nn, n1 + n2 = nn := ⟨_, rfl⟩
        have hw12 : IntKind.i64.wrap ((n1 : Int) + (n2 : Int)) = (nn : Int) := by rw [wrap_in (by omega) (by omega)]; omega
        by_cases hz : nn = 0
        · skip
          have hw0 : IntKind.i64.wrap ((n1 : Int) + (n2 : Int)) = 0 := by rw [hw12, hz]; rfl
          have HZ := Lib.hid hnn
          clear hw12 hz hnn
          go_wp2_with fail
          refine (awake9_is _).mono ?_
          rintro e w9 ⟨rfl, B9⟩
          have BF := below_step (below_step HB.out HV6.out.bel) B9
          clear B9
          go_wp2_with fail
          go_ret
          exact ⟨rfl, BF⟩
        · skip
          have hz1 : ((nn : Int) == 0) = false := by rw [beq_eq_false_iff_ne]; omega
          have hz2 : ¬ (nn : Int) = 0 := by omega
          obtain ⟨i, hi⟩ : ∃ i, x % nn = i := ⟨_, rfl⟩
          have hin : i < nn := by rw [← hi]; exact Nat.mod_lt _ (by omega)
          have hrem : (x : Int).tmod (nn : Int) = (i : Int) := by rw [Int.tmod_eq_emod_of_nonneg (by omega), ← hi]; omega
          have hxw : IntKind.i64.wrap (x : Int) = (x : Int) := wrap_in (by omega) (by omega)
          have HNN := Lib.hid hnn
          clear hi hnn
          go_upto_if 107 with fail
          clear hz1 hz2 hrem hxw hw12
          obtain ⟨g, hg⟩ : ∃ g, w6.heap.size = g := ⟨_, rfl⟩
          obtain ⟨gq, hgq⟩ : ∃ x, g + 1 = x := ⟨_, rfl⟩
          obtain ⟨w7, hw7⟩ : ∃ w7, ((w6.alloc (.cells #[.int .i64 0, .int .u8 0, .int .i64 0, .int .i64 0, .int .i64 0, .int .i64 0, .int .i64 0] 39)).alloc (.cells #[.slice none 0 0, .slice none 0 0, .slice none 0 0] 29)) = w7 := ⟨_, rfl⟩
          have B7 : Below w6.heap.size w6 w7 := by rw [← hw7]; exact (below_alloc _).alloc (by simp) _
          have E7 : Blk w7 g 39 #[.int .i64 0, .int .u8 0, .int .i64 0, .int .i64 0, .int .i64 0, .int .i64 0, .int .i64 0] := by rw [← hw7]; exact (Blk.new hg).alloc _
          have P7 : Blk w7 gq 29 #[.slice none 0 0, .slice none 0 0, .slice none 0 0] := by rw [← hw7]; exact Blk.new (by simp; omega)
          have hgP6 : gP < g := by have := HV6.out.p.lt; omega
          have hgg : g < gq := by omega
          rw [hw7]
          try rw [hg]
          try rw [hgq]
          have HV7 := Lib.hid (HV6.out.on B7); have HI17 := Lib.hid (HI1.out.on B7); have HI27 := Lib.hid (HI2.out.on B7); have HE7 := Lib.hid E7; have HP7 := Lib.hid P7
          have HB7 := Lib.hid B7
          have HGE := Lib.hid hg
          clear hw7 hg hgq B7 E7 P7
          go_cut [20, 21, 22, 23, 24, 25, 26] (fun _ _ _ _ _ _ _ wx => ∃ (ev : EvS) (Q' : PreS) (X' E' H' : List Int), Below w6.heap.size w6 wx ∧ Blk wx g 39 #[.int .i64 ev.who, .int .u8 ev.what, .int .i64 ev.u, .int .i64 ev.arc, .int .i64 ev.d, .int .i64 ev.h, .int .i64 ev.low] ∧ Blk wx gq 29 #[.slice Q'.AX M Q'.cX, .slice Q'.AE N1 Q'.cE, .slice Q'.AH N1 Q'.cH] ∧ StIn wx wx.heap.size M N1 N1 Q' X' E' H' ∧ NxIs N1 M s t fst hd rv cp X E H ev X' E' H')
          case first =>
            by_cases hin1 : i < n1
            · skip
              obtain ⟨bA, oA, hA1⟩ := HI1.out.adr (by omega)
              subst hA1
              obtain ⟨y, hy⟩ : ∃ y, L1[i]? = some y := ⟨_, List.getElem?_eq_getElem (by rw [HI1.out.len]; exact hin1)⟩
              obtain ⟨a, rfl, ha, hac, had⟩ := HM1.out i y hy
              obtain ⟨bH, oH, hbH⟩ := HV6.out.st.iH.adr (by omega)
              dsimp only at hbH
              subst hbH
              obtain ⟨bF, oF, hbF⟩ := HI.out.gi.iF.adr (by omega)
              dsimp only at hbF
              subst hbF
              have hcl : ∀ W', Below w6.heap.size w6 W' → (bA < W'.heap.size ∧ W'.cell? ⟨bA, oA + i, none⟩ = some (.int .i64 (a : Int))) := fun W' hb => (HI1.out.on hb).cel hy
              have HCL := Lib.hid hcl
              have HVC := Lib.hid (fun W' (hb : Below w6.heap.size w6 W') => HV6.out.on hb)
              have hp7 := push7 HP.out HIS.out ha hac had
              have hn7 := push7_nx HP.out HIS.out ha hac had
              have hpu := fun W (hb : Below w2.heap.size w2 W) (hq : StIn W W.heap.size M N1 N1 ⟨AX, cX, AE, cE, some ⟨bH, oH, none⟩, cHH⟩ X E H) => push7_is (K := ⟨some ⟨bF, oF, none⟩, cF, AH, cH, AR, cR, AC, cC, AA, cA, AB, cB⟩) HP.out ((HI.out.below hb).more hb.size) hq HIS.out ha hac had
              obtain ⟨dd, hdd⟩ : ∃ d, pushD hd rv X E a = d := ⟨_, rfl⟩
              obtain ⟨X', hX'⟩ : ∃ x, mvX rv X a dd = x := ⟨_, rfl⟩
              obtain ⟨E', hE'⟩ : ∃ x, mvE hd rv E a dd = x := ⟨_, rfl⟩
              rw [hdd, hX', hE'] at hp7 hn7 hpu
              have hnx : NxIs N1 M s t fst hd rv cp X E H (evP hd rv X E H a) X' E' H := ⟨hp7.1, hp7.2.1, hn7.1, hn7.2.1, hn7.2.2, hp7.2.2⟩
              have hev : evP hd rv X E H a = ⟨0, 1, ((hd (rv a) : Nat) : Int), (a : Int), dd, hOf H (hd (rv a)), hOf H (hd (rv a)) - 1⟩ := by unfold evP; rw [hdd]
              rw [hev] at hnx
              dsimp only [csrW, preW] at hpu
              have HPU := Lib.hid hpu; have HNX := Lib.hid hnx; have HD := Lib.hid (And.intro ha (And.intro hac had))
              clear hp7 hn7 hpu hdd hX' hE' hev hnx hy ha hac had hcl
              go_upto_region 19 with fail
              have hkeep : ∀ W', Below w7.heap.size w7 W' → W'.cell? ⟨w2.heap.size, 0, none⟩ = some (.int .i64 (N1 : Int)) ∧ W'.cell? ⟨w2.heap.size, 1, none⟩ = some (.int .i64 (s : Int)) ∧ W'.cell? ⟨w2.heap.size, 2, none⟩ = some (.int .i64 (t : Int)) ∧ W'.cell? ⟨w2.heap.size, 3, none⟩ = some (.slice (some ⟨bF, oF, none⟩) (N1 + 1) cF) ∧ W'.cell? ⟨w2.heap.size, 4, none⟩ = some (.slice AH M cH) ∧ W'.cell? ⟨w2.heap.size, 5, none⟩ = some (.slice AR M cR) ∧ W'.cell? ⟨w2.heap.size, 6, none⟩ = some (.slice AC M cC) ∧ W'.cell? ⟨w2.heap.size, 7, none⟩ = some (.slice AA M cA) ∧ W'.cell? ⟨w2.heap.size, 8, none⟩ = some (.slice AB M cB) ∧ W'.cell? ⟨gP, 0, none⟩ = some (.slice AX M cX) ∧ W'.cell? ⟨gP, 1, none⟩ = some (.slice AE N1 cE) ∧ W'.cell? ⟨gP, 2, none⟩ = some (.slice (some ⟨bH, oH, none⟩) N1 cHH) ∧ bA < W'.heap.size ∧ W'.cell? ⟨bA, oA + i, none⟩ = some (.int .i64 (a : Int)) := fun W' hb => by
                have hb' := below_step HB7.out hb
                obtain ⟨c0, c1, c2, c3, c4, c5, c6, c7, c8⟩ := (HVC.out _ hb').c.at9
                obtain ⟨⟨p0, p1, p2⟩, -, -⟩ := (HVC.out _ hb').p.full3
                obtain ⟨zb, ca⟩ := HCL.out _ hb'
                exact ⟨c0, c1, c2, c3, c4, c5, c6, c7, c8, p0, p1, p2, zb, ca⟩
              have HKEEP := Lib.hid hkeep
              clear hkeep
              refine wp_region_held_drew (S := fun W' => W'.cell? ⟨w2.heap.size, 0, none⟩ = some (.int .i64 (N1 : Int)) ∧ W'.cell? ⟨w2.heap.size, 1, none⟩ = some (.int .i64 (s : Int)) ∧ W'.cell? ⟨w2.heap.size, 2, none⟩ = some (.int .i64 (t : Int)) ∧ W'.cell? ⟨w2.heap.size, 3, none⟩ = some (.slice (some ⟨bF, oF, none⟩) (N1 + 1) cF) ∧ W'.cell? ⟨w2.heap.size, 4, none⟩ = some (.slice AH M cH) ∧ W'.cell? ⟨w2.heap.size, 5, none⟩ = some (.slice AR M cR) ∧ W'.cell? ⟨w2.heap.size, 6, none⟩ = some (.slice AC M cC) ∧ W'.cell? ⟨w2.heap.size, 7, none⟩ = some (.slice AA M cA) ∧ W'.cell? ⟨w2.heap.size, 8, none⟩ = some (.slice AB M cB) ∧ W'.cell? ⟨gP, 0, none⟩ = some (.slice AX M cX) ∧ W'.cell? ⟨gP, 1, none⟩ = some (.slice AE N1 cE) ∧ W'.cell? ⟨gP, 2, none⟩ = some (.slice (some ⟨bH, oH, none⟩) N1 cHH) ∧ bA < W'.heap.size ∧ W'.cell? ⟨bA, oA + i, none⟩ = some (.int .i64 (a : Int))) (by kernel_rfl) (HKEEP.out _ (Below.refl _ _).drew) (fun hS0 => ?_)
              obtain ⟨W, hW⟩ : ∃ W, w7.drew = W := ⟨_, rfl⟩
              have B : Below w7.heap.size w7 W := by rw [← hW]; exact (Below.refl _ _).drew
              rw [hW] at hS0 ⊢
              clear hW
              refine ta (v := ?_) 0 109 rfl ?_ ?_
              rotate_left
              · (intro W hSw; obtain ⟨c0, c1, c2, c3, c4, c5, c6, c7, c8, p0, p1, p2, zb, ca⟩ := hSw; go_simp; try with_reducible rfl)
              simp only [Act.put, pa, pz, ps]
              refine ta (v := ?_) 1 110 rfl ?_ ?_
              rotate_left
              · (intro W hSw; obtain ⟨c0, c1, c2, c3, c4, c5, c6, c7, c8, p0, p1, p2, zb, ca⟩ := hSw; go_simp; try with_reducible rfl)
              simp only [Act.put, pa, pz, ps]
              refine ta (v := ?_) 2 111 rfl ?_ ?_
              rotate_left
              · (intro W hSw; obtain ⟨c0, c1, c2, c3, c4, c5, c6, c7, c8, p0, p1, p2, zb, ca⟩ := hSw; go_simp; try with_reducible rfl)
              simp only [Act.put, pa, pz, ps]
              refine ta (v := ?_) 3 112 rfl ?_ ?_
              rotate_left
              · (intro W hSw; obtain ⟨c0, c1, c2, c3, c4, c5, c6, c7, c8, p0, p1, p2, zb, ca⟩ := hSw; go_simp; try with_reducible rfl)
              simp only [Act.put, pa, pz, ps]
              refine ta (v := ?_) 4 113 rfl ?_ ?_
              rotate_left
              · (intro W hSw; obtain ⟨c0, c1, c2, c3, c4, c5, c6, c7, c8, p0, p1, p2, zb, ca⟩ := hSw; go_simp; try with_reducible rfl)
              simp only [Act.put, pa, pz, ps]
              refine ta (v := ?_) 5 114 rfl ?_ ?_
              rotate_left
              · (intro W hSw; obtain ⟨c0, c1, c2, c3, c4, c5, c6, c7, c8, p0, p1, p2, zb, ca⟩ := hSw; go_simp; try with_reducible rfl)
              simp only [Act.put, pa, pz, ps]
              refine (have k11 : Hid ?Tk11 := ?pk11; ?mk11)
              case mk11 =>
               refine (have k10 : Hid ?Tk10 := ?pk10; ?mk10)
               case mk10 =>
                refine (have k01 : Hid ?Tk01 := ?pk01; ?mk01)
                case mk01 =>
                 refine wpAnyH_ready (rs := [6, 11]) (by kernel_rfl) (by simp) ?_
                 refine (AllReadyH.cons rfl (fun K hK => ?_) (AllReadyH.cons rfl (fun K hK => ?_) AllReadyH.nil))
                 · skip
                   go_simp
                   refine (HPU.out _ (HVC.out _ (below_step HB7.out B)).bel (HVC.out _ (below_step HB7.out B)).st).mono ?_
                   rintro e V ⟨⟨A4, d4, A5, d5, A6, d6⟩, rfl, B9, xst9, of9⟩
                   have xof9 := of9.low B.size
                   clear of9
                   have xB := below_step B B9
                   refine hK.out _ _ (HKEEP.out _ xB) (fun hSx => ?_)
                   clear hK K
                   refine ta (v := ?_) 7 108 rfl ?_ ?_
                   rotate_left
                   · (intro W hSw; obtain ⟨c0, c1, c2, c3, c4, c5, c6, c7, c8, p0, p1, p2, zb, ca⟩ := hSw; go_simp; try with_reducible rfl)
                   simp only [Act.put, pa, pz, ps]
                   refine ta (v := ?_) 8 116 rfl ?_ ?_
                   rotate_left
                   · (intro W hSw; obtain ⟨c0, c1, c2, c3, c4, c5, c6, c7, c8, p0, p1, p2, zb, ca⟩ := hSw; go_simp; try with_reducible rfl)
                   simp only [Act.put, pa, pz, ps]
                   refine ta (v := ?_) 9 117 rfl ?_ ?_
                   rotate_left
                   · (intro W hSw; obtain ⟨c0, c1, c2, c3, c4, c5, c6, c7, c8, p0, p1, p2, zb, ca⟩ := hSw; go_simp; try with_reducible rfl)
                   simp only [Act.put, pa, pz, ps]
                   refine ta (v := ?_) 10 118 rfl ?_ ?_
                   rotate_left
                   · (intro W hSw; obtain ⟨c0, c1, c2, c3, c4, c5, c6, c7, c8, p0, p1, p2, zb, ca⟩ := hSw; go_simp; try with_reducible rfl)
                   simp only [Act.put, pa, pz, ps]
                   clear hSx B9 
                   obtain ⟨W, rfl⟩ : ∃ W, W = V := ⟨_, rfl⟩
                   have B := xB
                   clear xB
                   have st9 := xst9
                   clear xst9
                   have of9 := xof9
                   clear xof9
                   revert of9
                   revert st9
                   revert B
                   revert W
                   revert d6
                   revert A6
                   revert d5
                   revert A5
                   revert d4
                   revert A4
                   exact k10.out
                 · skip
                   go_simp
                   obtain ⟨gA, hgn⟩ : ∃ g, W.heap.size = g := ⟨_, rfl⟩
                   obtain ⟨V, hV⟩ : ∃ V, W.alloc (.cells #[.slice none 0 0, .slice none 0 0, .slice none 0 0] 29) = V := ⟨_, rfl⟩
                   have hba : Below W.heap.size W V := by rw [← hV]; exact below_alloc _
                   have xHA : Blk V gA 29 #[.slice none 0 0, .slice none 0 0, .slice none 0 0] := by rw [← hV]; exact Blk.new hgn
                   have xlA : w7.heap.size ≤ gA := by rw [← hgn]; exact B.size
                   have xB := below_step B hba
                   refine hK.out _ _ (by rw [hV]; exact HKEEP.out _ xB) (fun hSx => ?_)
                   clear hK K hSx 
                   try simp only [Act.put, pa, pz, ps]
                   rw [hV]
                   rw [hgn]
                   clear hV hba hgn
                   obtain ⟨W, rfl⟩ : ∃ W, W = V := ⟨_, rfl⟩
                   have B := xB
                   clear xB
                   have lA := xlA
                   clear xlA
                   have HA := xHA
                   clear xHA
                   revert HA
                   revert lA
                   revert B
                   revert W
                   revert gA
                   exact k01.out
                case pk01 =>
                 refine Lib.hid ?_
                 intro gA W B lA HA
                 have hS0 := HKEEP.out _ B
                 refine wpAnyH_ready (rs := [6]) (by kernel_rfl) (by simp) ?_
                 refine (AllReadyH.cons rfl (fun K hK => ?_) AllReadyH.nil)
                 · skip
                   go_simp
                   refine (HPU.out _ (HVC.out _ (below_step HB7.out B)).bel (HVC.out _ (below_step HB7.out B)).st).mono ?_
                   rintro e V ⟨⟨A4, d4, A5, d5, A6, d6⟩, rfl, B9, xst9, of9⟩
                   have xof9 := of9.low B.size
                   clear of9
                   have xB := below_step B B9
                   have xHA := HA.below B9 HA.lt
                   have xlA := lA
                   refine hK.out _ _ (HKEEP.out _ xB) (fun hSx => ?_)
                   clear hK K
                   refine ta (v := ?_) 7 108 rfl ?_ ?_
                   rotate_left
                   · (intro W hSw; obtain ⟨c0, c1, c2, c3, c4, c5, c6, c7, c8, p0, p1, p2, zb, ca⟩ := hSw; go_simp; try with_reducible rfl)
                   simp only [Act.put, pa, pz, ps]
                   refine ta (v := ?_) 8 116 rfl ?_ ?_
                   rotate_left
                   · (intro W hSw; obtain ⟨c0, c1, c2, c3, c4, c5, c6, c7, c8, p0, p1, p2, zb, ca⟩ := hSw; go_simp; try with_reducible rfl)
                   simp only [Act.put, pa, pz, ps]
                   refine ta (v := ?_) 9 117 rfl ?_ ?_
                   rotate_left
                   · (intro W hSw; obtain ⟨c0, c1, c2, c3, c4, c5, c6, c7, c8, p0, p1, p2, zb, ca⟩ := hSw; go_simp; try with_reducible rfl)
                   simp only [Act.put, pa, pz, ps]
                   refine ta (v := ?_) 10 118 rfl ?_ ?_
                   rotate_left
                   · (intro W hSw; obtain ⟨c0, c1, c2, c3, c4, c5, c6, c7, c8, p0, p1, p2, zb, ca⟩ := hSw; go_simp; try with_reducible rfl)
                   simp only [Act.put, pa, pz, ps]
                   clear hSx B9 hS0 B lA HA
                   clear W
                   obtain ⟨W, rfl⟩ : ∃ W, W = V := ⟨_, rfl⟩
                   have B := xB
                   clear xB
                   have st9 := xst9
                   clear xst9
                   have of9 := xof9
                   clear xof9
                   have lA := xlA
                   clear xlA
                   have HA := xHA
                   clear xHA
                   revert HA
                   revert lA
                   revert of9
                   revert st9
                   revert B
                   revert W
                   revert gA
                   revert d6
                   revert A6
                   revert d5
                   revert A5
                   revert d4
                   revert A4
                   exact k11.out
               case pk10 =>
                refine Lib.hid ?_
                intro A4 d4 A5 d5 A6 d6 W B st9 of9
                have hS0 := HKEEP.out _ B
                refine wpAnyH_ready (rs := [11]) (by kernel_rfl) (by simp) ?_
                refine (AllReadyH.cons rfl (fun K hK => ?_) AllReadyH.nil)
                · skip
                  go_simp
                  obtain ⟨gA, hgn⟩ : ∃ g, W.heap.size = g := ⟨_, rfl⟩
                  obtain ⟨V, hV⟩ : ∃ V, W.alloc (.cells #[.slice none 0 0, .slice none 0 0, .slice none 0 0] 29) = V := ⟨_, rfl⟩
                  have hba : Below W.heap.size W V := by rw [← hV]; exact below_alloc _
                  have xHA : Blk V gA 29 #[.slice none 0 0, .slice none 0 0, .slice none 0 0] := by rw [← hV]; exact Blk.new hgn
                  have xlA : w7.heap.size ≤ gA := by rw [← hgn]; exact B.size
                  have xB := below_step B hba
                  have xst9 := st9.on hba
                  have xof9 := of9
                  refine hK.out _ _ (by rw [hV]; exact HKEEP.out _ xB) (fun hSx => ?_)
                  clear hK K hSx hS0 B st9 of9
                  try simp only [Act.put, pa, pz, ps]
                  rw [hV]
                  rw [hgn]
                  clear hV hba hgn
                  clear W
                  obtain ⟨W, rfl⟩ : ∃ W, W = V := ⟨_, rfl⟩
                  have B := xB
                  clear xB
                  have st9 := xst9
                  clear xst9
                  have of9 := xof9
                  clear xof9
                  have lA := xlA
                  clear xlA
                  have HA := xHA
                  clear xHA
                  revert HA
                  revert lA
                  revert of9
                  revert st9
                  revert B
                  revert W
                  revert gA
                  revert d6
                  revert A6
                  revert d5
                  revert A5
                  revert d4
                  revert A4
                  exact k11.out
              case pk11 =>
               refine Lib.hid ?_
               intro A4 d4 A5 d5 A6 d6 gA W B st9 of9 lA HA
               have hS0 := HKEEP.out _ B
               obtain ⟨⟨z0, z1, z2⟩, ⟨f0, f1, f2⟩, hz⟩ := HA.full3
               refine wpAnyH_ready (rs := [12]) (by kernel_rfl) (by simp) ?_
               refine AllReadyH.cons rfl (fun K hK => ?_) AllReadyH.nil
               go_simp
               have xB : Below w7.heap.size w7 (put3 W gA (.slice A4 M d4) (.slice A5 N1 d5) (.slice A6 N1 d6)) := below_put3 B lA
               have xS : StIn (put3 W gA (.slice A4 M d4) (.slice A5 N1 d5) (.slice A6 N1 d6)) (put3 W gA (.slice A4 M d4) (.slice A5 N1 d5) (.slice A6 N1 d6)).heap.size M N1 N1 ⟨A4, d4, A5, d5, A6, d6⟩ X' E' H := ⟨by simpa using ints_far3 st9.iX HA, by simpa using ints_far3 st9.iE HA, by simpa using ints_far3 st9.iH HA⟩
               have xA : Blk (put3 W gA (.slice A4 M d4) (.slice A5 N1 d5) (.slice A6 N1 d6)) gA 29 #[.slice A4 M d4, .slice A5 N1 d5, .slice A6 N1 d6] := HA.put3
               refine hK.out _ _ (HKEEP.out _ xB) (fun hSx => ?_)
               clear hK K hS0 z0 z1 z2 f0 f1 f2 hz HA B st9
               dsimp only [put3] at xB xS xA hSx
               generalize ((W.setCell ⟨gA, 0, none⟩ (.slice A4 M d4)).setCell ⟨gA, 1, none⟩ (.slice A5 N1 d5)).setCell ⟨gA, 2, none⟩ (.slice A6 N1 d6) = w8 at *
               try simp only [Act.put, pa, pz, ps]
               refine ta (v := ?_) 13 21 rfl ?_ ?_
               rotate_left
               · (intro W hSw; obtain ⟨c0, c1, c2, c3, c4, c5, c6, c7, c8, p0, p1, p2, zb, ca⟩ := hSw; go_simp; try with_reducible rfl)
               simp only [Act.put, pa, pz, ps]
               refine ta (v := ?_) 14 22 rfl ?_ ?_
               rotate_left
               · (intro W hSw; obtain ⟨c0, c1, c2, c3, c4, c5, c6, c7, c8, p0, p1, p2, zb, ca⟩ := hSw; go_simp; try with_reducible rfl)
               simp only [Act.put, pa, pz, ps]
               clear hSx
               refine wpAnyH_done (by kernel_rfl) ?_ _
               have HB8 := Lib.hid (below_step HB7.out xB); have HS8 := Lib.hid xS; have HA8 := Lib.hid xA; have HOF := Lib.hid (of9.low (b' := gq + 1) (Nat.succ_le_of_lt HP7.out.lt))
               have HE8 := Lib.hid (HE7.out.below xB HE7.out.lt); have HP8 := Lib.hid (HP7.out.below xB HP7.out.lt)
               have HLA : Hid (g < gA ∧ gq < gA) := Lib.hid ⟨by have := HE7.out.lt; omega, by have := HP7.out.lt; omega⟩
               clear xB xS xA lA of9 HKEEP HV7 HI17 HI27 HE7 HP7 HPU
               go_wp2_with fail
               go_loopw [23] (fun s23 wx => ∃ u : Nat, s23 = .int .i64 u ∧ u < N1 ∧ fst u ≤ a ∧ Below w8.heap.size w8 wx) (fun s23 _ => N1 - (intOf s23).toNat)
               case atStart => exact ⟨0, rfl, by omega, by rw [HP.out.g.f0]; omega, Below.refl _ _⟩
               case round =>
                 obtain ⟨u, rfl, hu, hfu, B9⟩ := hrel
                 have hbx := below_step HB8.out B9
                 obtain ⟨c0, c1, c2, c3, c4, c5, c6, c7, c8⟩ := (HVC.out _ hbx).c.at9
                 have zc := (HVC.out _ hbx).c.lt
                 obtain ⟨zb, ca⟩ := HCL.out _ hbx
                 obtain ⟨z, hzu⟩ : ∃ z, u + 1 = z := ⟨_, rfl⟩
                 have hzw : IntKind.i64.wrap ((u : Int) + 1) = (z : Int) := by rw [wrap_in (by omega) (by omega)]; omega
                 have HZU := Lib.hid hzu
                 clear hzu
                 have hcf := tab_cell ((HI.out.below (HVC.out _ hbx).bel).more (HVC.out _ hbx).bel.size).gi.iF (k := z) (by have := HZU.out; omega)
                 obtain ⟨zf, cf⟩ := hcf
                 have hin0 : (0 : Int) ≤ (i : Int) := by omega
                 have hin2 : (i : Int) < (n1 : Int) := by omega
                 have hz0 : (0 : Int) ≤ (z : Int) := by omega
                 have hz3 : (z : Int) < (N1 : Int) + 1 := by have := HZU.out; omega
                 have HHX : True := trivial
                 clear hbx
                 go_upto_region 21 with fail
                 go_cut [136] (fun s136 wx => s136 = .bool (decide (z < N1 ∧ fst z ≤ a)) ∧ ∃ nq, wx = wr.drewN nq)
                 case first =>
                   by_cases hd1 : z < N1
                   · have hdt : decide ((z : Int) < (N1 : Int)) = true := decide_eq_true (by omega)
                     by_cases hd2 : fst z ≤ a
                     · have hdu : decide ((fst z : Int) ≤ (a : Int)) = true := decide_eq_true (by omega)
                       go_quiet (fail)
                       go_wp2_with fail
                       go_meet
                       exact ⟨by rw [decide_eq_true (show z < N1 ∧ fst z ≤ a from ⟨hd1, hd2⟩)], _, rfl⟩
                     · have hdu : decide ((fst z : Int) ≤ (a : Int)) = false := decide_eq_false (by omega)
                       go_quiet (fail)
                       go_wp2_with fail
                       go_meet
                       exact ⟨by rw [decide_eq_false (show ¬ (z < N1 ∧ fst z ≤ a) from fun h => hd2 h.2)], _, rfl⟩
                   · have hdt : decide ((z : Int) < (N1 : Int)) = false := decide_eq_false (by omega)
                     go_quiet (fail)
                     go_wp2_with fail
                     go_meet
                     exact ⟨by rw [decide_eq_false (show ¬ (z < N1 ∧ fst z ≤ a) from fun h => hd1 h.1)], _, rfl⟩
                 case rest =>
                   obtain ⟨rfl, nq, rfl⟩ := hcut
                   by_cases hd1 : z < N1 ∧ fst z ≤ a
                   · rw [decide_eq_true hd1]
                     go_wp2_with fail
                     go_roundw
                     case rel => exact ⟨z, rfl, hd1.1, hd1.2, below_drewN' B9 _⟩
                     case measure => simp [intOf]; have := HZU.out; omega
                   · rw [decide_eq_false hd1]
                     have heu : hd (rv a) = u := by
                       have h1 := HZU.out
                       by_cases hd2 : z < N1
                       · exact HP.out.g.tail u a hu hfu (by rw [h1]; omega)
                       · exact HP.out.g.tail u a hu hfu (by rw [h1, show z = N1 by omega, HP.out.g.fN]; exact HD.out.1)
                     clear hd1 cf zf hz3 hz0 c0 c1 c2 c3 c4 c5 c6 c7 c8 zc zb ca hzw
                     obtain ⟨wv, hwv⟩ : ∃ W, wr.drewN nq = W := ⟨_, rfl⟩
                     have hbv : Below w8.heap.size w8 wv := by rw [← hwv]; exact below_drewN' B9 nq
                     rw [hwv]
                     clear hwv
                     have B10 := below_step HB8.out hbv
                     have KA := Lib.hid (HA8.out.below hbv HA8.out.lt); have KE := Lib.hid (HE8.out.below hbv HE8.out.lt); have KP := Lib.hid (HP8.out.below hbv HP8.out.lt); have KS := Lib.hid (HS8.out.on hbv)
                     obtain ⟨h, hh⟩ : ∃ h, hOf H u = h := ⟨_, rfl⟩
                     have hhl : ∀ W', Below w6.heap.size w6 W' → (bH < W'.heap.size ∧ W'.cell? ⟨bH, oH + u, none⟩ = some (.int .i64 h)) := fun W' hb => by
                       rw [← hh]
                       exact (HVC.out _ hb).st.iH.cel (hOf_get (HVC.out _ hb).st.iH.len hu)
                     have HHL := Lib.hid hhl
                     have hbd := HIS.out.bnd u hu
                     rw [hh] at hbd
                     have hnx := HNX.out
                     rw [heu, hh] at hnx
                     have HNU := Lib.hid hnx
                     have hsw : IntKind.i64.wrap (h - 1) = h - 1 := wrap_in (by omega) (by omega)
                     have hun : (u : Int) < (N1 : Int) := by omega
                     have hu0 : (0 : Int) ≤ (u : Int) := by omega
                     clear hh hhl hnx hbd hbv B9 HHX
                     have hkeep : ∀ W', Below w6.heap.size w6 W' → Blk W' gA 29 #[.slice A4 M d4, .slice A5 N1 d5, .slice A6 N1 d6] → W'.cell? ⟨gP, 0, none⟩ = some (.slice AX M cX) ∧ W'.cell? ⟨gP, 1, none⟩ = some (.slice AE N1 cE) ∧ W'.cell? ⟨gP, 2, none⟩ = some (.slice (some ⟨bH, oH, none⟩) N1 cHH) ∧ bA < W'.heap.size ∧ W'.cell? ⟨bA, oA + i, none⟩ = some (.int .i64 (a : Int)) ∧ bH < W'.heap.size ∧ W'.cell? ⟨bH, oH + u, none⟩ = some (.int .i64 h) ∧ W'.cell? ⟨gA, 0, none⟩ = some (.slice A4 M d4) ∧ W'.cell? ⟨gA, 1, none⟩ = some (.slice A5 N1 d5) ∧ W'.cell? ⟨gA, 2, none⟩ = some (.slice A6 N1 d6) := fun W' hb hA => by
                       obtain ⟨⟨p0, p1, p2⟩, -, -⟩ := (HVC.out _ hb).p.full3
                       obtain ⟨zb, ca⟩ := HCL.out _ hb
                       obtain ⟨zh, ch⟩ := HHL.out _ hb
                       obtain ⟨⟨q0, q1, q2⟩, -, -⟩ := hA.full3
                       exact ⟨p0, p1, p2, zb, ca, zh, ch, q0, q1, q2⟩
                     have HKEEP := Lib.hid hkeep
                     clear hkeep
                     go_upto_region 25 with fail
                     refine wp_region_held_drew (S := fun W' => W'.cell? ⟨gP, 0, none⟩ = some (.slice AX M cX) ∧ W'.cell? ⟨gP, 1, none⟩ = some (.slice AE N1 cE) ∧ W'.cell? ⟨gP, 2, none⟩ = some (.slice (some ⟨bH, oH, none⟩) N1 cHH) ∧ bA < W'.heap.size ∧ W'.cell? ⟨bA, oA + i, none⟩ = some (.int .i64 (a : Int)) ∧ bH < W'.heap.size ∧ W'.cell? ⟨bH, oH + u, none⟩ = some (.int .i64 h) ∧ W'.cell? ⟨gA, 0, none⟩ = some (.slice A4 M d4) ∧ W'.cell? ⟨gA, 1, none⟩ = some (.slice A5 N1 d5) ∧ W'.cell? ⟨gA, 2, none⟩ = some (.slice A6 N1 d6)) (by kernel_rfl) (HKEEP.out _ B10.drew (KA.out.below (Below.refl _ _).drew KA.out.lt)) (fun hS0 => ?_)
                     obtain ⟨W, hW⟩ : ∃ W, wv.drew = W := ⟨_, rfl⟩
                     have hbw : Below wv.heap.size wv W := by rw [← hW]; exact (Below.refl _ _).drew
                     rw [hW] at hS0 ⊢
                     have B : Below w6.heap.size w6 W := below_step B10 hbw
                     have KA' := Lib.hid (KA.out.below hbw KA.out.lt); have KE' := Lib.hid (KE.out.below hbw KE.out.lt); have KP' := Lib.hid (KP.out.below hbw KP.out.lt); have KS' := Lib.hid (KS.out.on hbw)
                     clear hW KA KE KP KS hbw B10
                     have KA := KA'; have KE := KE'; have KP := KP'; have KS := KS'
                     clear KA' KE' KP' KS'
                     refine ta (v := ?_) 0 141 rfl ?_ ?_
                     rotate_left
                     · (intro W hSw; obtain ⟨p0, p1, p2, zb, ca, zh, ch, q0, q1, q2⟩ := hSw; go_simp; try with_reducible rfl)
                     simp only [Act.put, pa, pz, ps]
                     refine ta (v := ?_) 1 142 rfl ?_ ?_
                     rotate_left
                     · (intro W hSw; obtain ⟨p0, p1, p2, zb, ca, zh, ch, q0, q1, q2⟩ := hSw; go_simp; try with_reducible rfl)
                     simp only [Act.put, pa, pz, ps]
                     refine ta (v := ?_) 2 143 rfl ?_ ?_
                     rotate_left
                     · (intro W hSw; obtain ⟨p0, p1, p2, zb, ca, zh, ch, q0, q1, q2⟩ := hSw; go_simp; try with_reducible rfl)
                     simp only [Act.put, pa, pz, ps]
                     refine ta (v := ?_) 3 144 rfl ?_ ?_
                     rotate_left
                     · (intro W hSw; obtain ⟨p0, p1, p2, zb, ca, zh, ch, q0, q1, q2⟩ := hSw; go_simp; try with_reducible rfl)
                     simp only [Act.put, pa, pz, ps]
                     refine ta (v := ?_) 4 145 rfl ?_ ?_
                     rotate_left
                     · (intro W hSw; obtain ⟨p0, p1, p2, zb, ca, zh, ch, q0, q1, q2⟩ := hSw; go_simp; try with_reducible rfl)
                     simp only [Act.put, pa, pz, ps]
                     refine ta (v := ?_) 5 146 rfl ?_ ?_
                     rotate_left
                     · (intro W hSw; obtain ⟨p0, p1, p2, zb, ca, zh, ch, q0, q1, q2⟩ := hSw; go_simp; try with_reducible rfl)
                     simp only [Act.put, pa, pz, ps]
                     refine ta (v := ?_) 6 147 rfl ?_ ?_
                     rotate_left
                     · (intro W hSw; obtain ⟨p0, p1, p2, zb, ca, zh, ch, q0, q1, q2⟩ := hSw; go_simp; try with_reducible rfl)
                     simp only [Act.put, pa, pz, ps]
                     refine ta (v := ?_) 7 148 rfl ?_ ?_
                     rotate_left
                     · (intro W hSw; obtain ⟨p0, p1, p2, zb, ca, zh, ch, q0, q1, q2⟩ := hSw; go_simp; try with_reducible rfl)
                     simp only [Act.put, pa, pz, ps]
                     refine ta (v := ?_) 8 149 rfl ?_ ?_
                     rotate_left
                     · (intro W hSw; obtain ⟨p0, p1, p2, zb, ca, zh, ch, q0, q1, q2⟩ := hSw; go_simp; try with_reducible rfl)
                     simp only [Act.put, pa, pz, ps]
                     refine ta (v := ?_) 9 150 rfl ?_ ?_
                     rotate_left
                     · (intro W hSw; obtain ⟨p0, p1, p2, zb, ca, zh, ch, q0, q1, q2⟩ := hSw; go_simp; try with_reducible rfl)
                     simp only [Act.put, pa, pz, ps]
                     refine ta (v := ?_) 10 151 rfl ?_ ?_
                     rotate_left
                     · (intro W hSw; obtain ⟨p0, p1, p2, zb, ca, zh, ch, q0, q1, q2⟩ := hSw; go_simp; try with_reducible rfl)
                     simp only [Act.put, pa, pz, ps]
                     refine ta (v := ?_) 11 152 rfl ?_ ?_
                     rotate_left
                     · (intro W hSw; obtain ⟨p0, p1, p2, zb, ca, zh, ch, q0, q1, q2⟩ := hSw; go_simp; try with_reducible rfl)
                     simp only [Act.put, pa, pz, ps]
                     refine ta (v := ?_) 12 153 rfl ?_ ?_
                     rotate_left
                     · (intro W hSw; obtain ⟨p0, p1, p2, zb, ca, zh, ch, q0, q1, q2⟩ := hSw; go_simp; try with_reducible rfl)
                     simp only [Act.put, pa, pz, ps]
                     refine ta (v := ?_) 13 154 rfl ?_ ?_
                     rotate_left
                     · (intro W hSw; obtain ⟨p0, p1, p2, zb, ca, zh, ch, q0, q1, q2⟩ := hSw; go_simp; try with_reducible rfl)
                     simp only [Act.put, pa, pz, ps]
                     refine ta (v := ?_) 14 155 rfl ?_ ?_
                     rotate_left
                     · (intro W hSw; obtain ⟨p0, p1, p2, zb, ca, zh, ch, q0, q1, q2⟩ := hSw; go_simp; try with_reducible rfl)
                     simp only [Act.put, pa, pz, ps]
                     refine ta (v := ?_) 15 156 rfl ?_ ?_
                     rotate_left
                     · (intro W hSw; obtain ⟨p0, p1, p2, zb, ca, zh, ch, q0, q1, q2⟩ := hSw; go_simp; try with_reducible rfl)
                     simp only [Act.put, pa, pz, ps]
                     refine ta (v := ?_) 16 157 rfl ?_ ?_
                     rotate_left
                     · (intro W hSw; obtain ⟨p0, p1, p2, zb, ca, zh, ch, q0, q1, q2⟩ := hSw; go_simp; try with_reducible rfl)
                     simp only [Act.put, pa, pz, ps]
                     refine ta (v := ?_) 17 158 rfl ?_ ?_
                     rotate_left
                     · (intro W hSw; obtain ⟨p0, p1, p2, zb, ca, zh, ch, q0, q1, q2⟩ := hSw; go_simp; try with_reducible rfl)
                     simp only [Act.put, pa, pz, ps]
                     refine ta (v := ?_) 18 159 rfl ?_ ?_
                     rotate_left
                     · (intro W hSw; obtain ⟨p0, p1, p2, zb, ca, zh, ch, q0, q1, q2⟩ := hSw; go_simp; try with_reducible rfl)
                     simp only [Act.put, pa, pz, ps]
                     obtain ⟨z0, z1, z2, z3, z4, z5, z6⟩ := KE.out.at7
                     obtain ⟨j0, j1, j2, j3, j4, j5, j6⟩ := KE.out.free7
                     have hz := KE.out.lt
                     refine wpAnyH_ready (rs := [19]) (by kernel_rfl) (by simp) ?_
                     refine AllReadyH.cons rfl (fun K hK => ?_) AllReadyH.nil
                     go_simp
                     have xB : Below w6.heap.size w6 (put7 W g (.int .i64 0) (.int .u8 1) (.int .i64 (u : Int)) (.int .i64 (a : Int)) (.int .i64 dd) (.int .i64 h) (.int .i64 (h - 1))) := below_put7 B (by have := HGE.out; omega)
                     have xE := KE.out.put7 (y0 := .int .i64 0) (y1 := .int .u8 1) (y2 := .int .i64 (u : Int)) (y3 := .int .i64 (a : Int)) (y4 := .int .i64 dd) (y5 := .int .i64 h) (y6 := .int .i64 (h - 1))
                     have xP := KP.out.far7 (g := g) (y0 := .int .i64 0) (y1 := .int .u8 1) (y2 := .int .i64 (u : Int)) (y3 := .int .i64 (a : Int)) (y4 := .int .i64 dd) (y5 := .int .i64 h) (y6 := .int .i64 (h - 1)) (by omega)
                     have xA := KA.out.far7 (g := g) (y0 := .int .i64 0) (y1 := .int .u8 1) (y2 := .int .i64 (u : Int)) (y3 := .int .i64 (a : Int)) (y4 := .int .i64 dd) (y5 := .int .i64 h) (y6 := .int .i64 (h - 1)) (by have := HLA.out; omega)
                     have xS : StIn (put7 W g (.int .i64 0) (.int .u8 1) (.int .i64 (u : Int)) (.int .i64 (a : Int)) (.int .i64 dd) (.int .i64 h) (.int .i64 (h - 1))) (put7 W g (.int .i64 0) (.int .u8 1) (.int .i64 (u : Int)) (.int .i64 (a : Int)) (.int .i64 dd) (.int .i64 h) (.int .i64 (h - 1))).heap.size M N1 N1 ⟨A4, d4, A5, d5, A6, d6⟩ X' E' H := by simpa using (((((((KS.out.off HOF.out (by omega)).off HOF.out (by omega)).off HOF.out (by omega)).off HOF.out (by omega)).off HOF.out (by omega)).off HOF.out (by omega)).off HOF.out (by omega))
                     refine hK.out _ _ (HKEEP.out _ xB xA) (fun hSx => ?_)
                     clear hK K hSx hS0 z0 z1 z2 z3 z4 z5 z6 j0 j1 j2 j3 j4 j5 j6 hz B KE KP
                     dsimp only [put7] at xB xE xP xA xS
                     generalize ((((((W.setCell ⟨g, 0, none⟩ (.int .i64 0)).setCell ⟨g, 1, none⟩ (.int .u8 1)).setCell ⟨g, 2, none⟩ (.int .i64 (u : Int))).setCell ⟨g, 3, none⟩ (.int .i64 (a : Int))).setCell ⟨g, 4, none⟩ (.int .i64 dd)).setCell ⟨g, 5, none⟩ (.int .i64 h)).setCell ⟨g, 6, none⟩ (.int .i64 (h - 1)) = wy at *
                     obtain ⟨⟨z0, z1, z2⟩, ⟨j0, j1, j2⟩, hz⟩ := xP.full3
                     refine wpAnyH_ready (rs := [20]) (by kernel_rfl) (by simp) ?_
                     refine AllReadyH.cons rfl (fun K hK => ?_) AllReadyH.nil
                     go_simp
                     have yB : Below w6.heap.size w6 (put3 wy gq (.slice A4 M d4) (.slice A5 N1 d5) (.slice A6 N1 d6)) := below_put3 xB (by have := HGE.out; omega)
                     have yS : StIn (put3 wy gq (.slice A4 M d4) (.slice A5 N1 d5) (.slice A6 N1 d6)) (put3 wy gq (.slice A4 M d4) (.slice A5 N1 d5) (.slice A6 N1 d6)).heap.size M N1 N1 ⟨A4, d4, A5, d5, A6, d6⟩ X' E' H := ⟨by simpa using ints_far3 xS.iX xP, by simpa using ints_far3 xS.iE xP, by simpa using ints_far3 xS.iH xP⟩
                     have yP : Blk (put3 wy gq (.slice A4 M d4) (.slice A5 N1 d5) (.slice A6 N1 d6)) gq 29 #[.slice A4 M d4, .slice A5 N1 d5, .slice A6 N1 d6] := xP.put3
                     have yE := xE.far3 (g := gq) (x := .slice A4 M d4) (y := .slice A5 N1 d5) (z := .slice A6 N1 d6) (by omega)
                     have yA := xA.far3 (g := gq) (x := .slice A4 M d4) (y := .slice A5 N1 d5) (z := .slice A6 N1 d6) (by have := HLA.out; omega)
                     refine hK.out _ _ (HKEEP.out _ yB yA) (fun hSx => ?_)
                     clear hK K hSx z0 z1 z2 j0 j1 j2 hz xB xE xP xA xS
                     dsimp only [put3] at yB yS yP yE
                     generalize ((wy.setCell ⟨gq, 0, none⟩ (.slice A4 M d4)).setCell ⟨gq, 1, none⟩ (.slice A5 N1 d5)).setCell ⟨gq, 2, none⟩ (.slice A6 N1 d6) = wz at *
                     refine wpAnyH_done (by kernel_rfl) ?_ _
                     go_wp2_with fail
                     go_meet
                     exact ⟨_, ⟨A4, d4, A5, d5, A6, d6⟩, X', E', H, yB, yE, yP, yS, HNU.out⟩
            · skip
              obtain ⟨j, hj⟩ : ∃ j, i - n1 = j := ⟨_, rfl⟩
              have hjn : j < n2 := by have := HNN.out; omega
              have hjw : IntKind.i64.wrap ((i : Int) - (n1 : Int)) = (j : Int) := by rw [wrap_in (by omega) (by omega)]; omega
              clear hj
              obtain ⟨bV, oV, hA2⟩ := HI2.out.adr (by omega)
              subst hA2
              obtain ⟨y, hy⟩ : ∃ y, L2[j]? = some y := ⟨_, List.getElem?_eq_getElem (by rw [HI2.out.len]; exact hjn)⟩
              obtain ⟨u, rfl, hu, hac, hdn⟩ := HM2.out j y hy
              obtain ⟨zv, cv⟩ := HI27.out.cel hy
              have hl7 := lift7 HP.out HIS.out hu hac hdn
              have hn7 := lift7_nx HP.out HIS.out hu hac hdn
              have hli := fun W (hb : Below w2.heap.size w2 W) (hq : StIn W W.heap.size M N1 N1 ⟨AX, cX, AE, cE, AHH, cHH⟩ X E H) => lift7_is (K := ⟨AF, cF, AH, cH, AR, cR, AC, cC, AA, cA, AB, cB⟩) HP.out ((HI.out.below hb).more hb.size) hq HIS.out hu hac hdn
              obtain ⟨lo, hlo⟩ : ∃ x, lowV fst hd X H u + 1 = x := ⟨_, rfl⟩
              rw [hlo] at hl7 hn7 hli
              obtain ⟨H', hH'⟩ : ∃ h, H.set u lo = h := ⟨_, rfl⟩
              have hho : hOf H' u = lo := by rw [← hH', hOf_put (by rw [HIS.out.lh]; exact hu), if_pos rfl]
              rw [hH'] at hl7 hn7 hli
              have hnx : NxIs N1 M s t fst hd rv cp X E H (evL u lo) X E H' := ⟨hl7.1, hl7.2.1, hn7.1, hn7.2.1, hn7.2.2, hl7.2.2⟩
              unfold evL at hnx
              dsimp only [csrW, preW] at hli
              have HLI := Lib.hid hli; have HNX := Lib.hid hnx; have HHO := Lib.hid hho
              clear hl7 hn7 hli hlo hH' hnx hho hy hac hdn
              have hin2 : ¬ (i : Int) < (n1 : Int) := by omega
              have hj0 : (0 : Int) ≤ (j : Int) := by omega
              have hj2 : (j : Int) < (n2 : Int) := by omega
              have hun : (u : Int) < (N1 : Int) := by omega
              have hu0 : (0 : Int) ≤ (u : Int) := by omega
              obtain ⟨c0, c1, c2, c3, c4, c5, c6, c7, c8⟩ := HV7.out.c.at9
              have zc := HV7.out.c.lt
              obtain ⟨⟨p0, p1, p2⟩, ⟨f0, f1, f2⟩, zp⟩ := HV7.out.p.full3
              go_wp2_with fail
              refine (HLI.out _ HV7.out.bel HV7.out.st).mono ?_
              rintro e w8 ⟨⟨A4, d4, A5, d5, A6, d6⟩, rfl, B8, st8, of8⟩
              have HB8 := Lib.hid (below_step HB7.out B8); have HE8 := Lib.hid (HE7.out.below B8 HE7.out.lt); have HP8 := Lib.hid (HP7.out.below B8 HP7.out.lt); have HS8 := Lib.hid st8; have HOF := Lib.hid (of8.low (b' := gq + 1) (Nat.succ_le_of_lt HP7.out.lt))
              have hz8 : w7.heap.size ≤ w8.heap.size := B8.size
              have hlg : g < w8.heap.size ∧ gq < w8.heap.size := ⟨HE8.out.lt, HP8.out.lt⟩
              clear st8 of8 B8 HLI HV7 HI17 HI27 HE7 HP7 zv cv hjw hj0 hj2 hin2 hz8 c0 c1 c2 c3 c4 c5 c6 c7 c8 zc p0 p1 p2 f0 f1 f2 zp
              go_upto_region 30 with fail
              obtain ⟨gA, hgA⟩ : ∃ g, w8.heap.size = g := ⟨_, rfl⟩
              obtain ⟨w9, hw9⟩ : ∃ w9, w8.alloc (.cells #[.slice A4 M d4, .slice A5 N1 d5, .slice A6 N1 d6] 29) = w9 := ⟨_, rfl⟩
              have B9 : Below w8.heap.size w8 w9 := by rw [← hw9]; exact below_alloc _
              have KA0 : Blk w9 gA 29 #[.slice A4 M d4, .slice A5 N1 d5, .slice A6 N1 d6] := by rw [← hw9]; exact Blk.new hgA
              have HLA : Hid (g < gA ∧ gq < gA) := Lib.hid (by omega)
              rw [hw9]
              try rw [hgA]
              clear hw9 hgA hlg
              have B10 := below_step HB8.out B9
              have KA := Lib.hid KA0; have KE := Lib.hid (HE8.out.below B9 HE8.out.lt); have KP := Lib.hid (HP8.out.below B9 HP8.out.lt); have KS := Lib.hid (HS8.out.on B9)
              clear B9 KA0 HB8 HE8 HP8 HS8
              obtain ⟨bh, oh, hbh⟩ := KS.out.iH.adr (by omega)
              dsimp only at hbh
              subst hbh
              have hkeep : ∀ W', Blk W' gA 29 #[.slice A4 M d4, .slice A5 N1 d5, .slice (some ⟨bh, oh, none⟩) N1 d6] → StIn W' W'.heap.size M N1 N1 ⟨A4, d4, A5, d5, some ⟨bh, oh, none⟩, d6⟩ X E H' → W'.cell? ⟨gA, 0, none⟩ = some (.slice A4 M d4) ∧ W'.cell? ⟨gA, 1, none⟩ = some (.slice A5 N1 d5) ∧ W'.cell? ⟨gA, 2, none⟩ = some (.slice (some ⟨bh, oh, none⟩) N1 d6) ∧ bh < W'.heap.size ∧ W'.cell? ⟨bh, oh + u, none⟩ = some (.int .i64 lo) := fun W' hA hS => by
                obtain ⟨⟨q0, q1, q2⟩, -, -⟩ := hA.full3
                obtain ⟨zh, ch⟩ := hS.iH.cel (hOf_get hS.iH.len hu)
                rw [HHO.out] at ch
                exact ⟨q0, q1, q2, zh, ch⟩
              have HKEEP := Lib.hid hkeep
              clear hkeep
              refine wp_region_held_drew (S := fun W' => W'.cell? ⟨gA, 0, none⟩ = some (.slice A4 M d4) ∧ W'.cell? ⟨gA, 1, none⟩ = some (.slice A5 N1 d5) ∧ W'.cell? ⟨gA, 2, none⟩ = some (.slice (some ⟨bh, oh, none⟩) N1 d6) ∧ bh < W'.heap.size ∧ W'.cell? ⟨bh, oh + u, none⟩ = some (.int .i64 lo)) (by kernel_rfl) (HKEEP.out _ (KA.out.below (Below.refl _ _).drew KA.out.lt) (KS.out.on (Below.refl _ _).drew)) (fun hS0 => ?_)
              obtain ⟨W, hW⟩ : ∃ W, w9.drew = W := ⟨_, rfl⟩
              have hbw : Below w9.heap.size w9 W := by rw [← hW]; exact (Below.refl _ _).drew
              rw [hW] at hS0 ⊢
              have B : Below w6.heap.size w6 W := below_step B10 hbw
              have KA' := Lib.hid (KA.out.below hbw KA.out.lt); have KE' := Lib.hid (KE.out.below hbw KE.out.lt); have KP' := Lib.hid (KP.out.below hbw KP.out.lt); have KS' := Lib.hid (KS.out.on hbw)
              clear hW KA KE KP KS hbw B10
              have KA := KA'; have KE := KE'; have KP := KP'; have KS := KS'
              clear KA' KE' KP' KS'
              refine ta (v := ?_) 0 176 rfl ?_ ?_
              rotate_left
              · (intro W hSw; obtain ⟨q0, q1, q2, zh, ch⟩ := hSw; go_simp; try with_reducible rfl)
              simp only [Act.put, pa, pz, ps]
              refine ta (v := ?_) 1 177 rfl ?_ ?_
              rotate_left
              · (intro W hSw; obtain ⟨q0, q1, q2, zh, ch⟩ := hSw; go_simp; try with_reducible rfl)
              simp only [Act.put, pa, pz, ps]
              refine ta (v := ?_) 2 178 rfl ?_ ?_
              rotate_left
              · (intro W hSw; obtain ⟨q0, q1, q2, zh, ch⟩ := hSw; go_simp; try with_reducible rfl)
              simp only [Act.put, pa, pz, ps]
              refine ta (v := ?_) 3 179 rfl ?_ ?_
              rotate_left
              · (intro W hSw; obtain ⟨q0, q1, q2, zh, ch⟩ := hSw; go_simp; try with_reducible rfl)
              simp only [Act.put, pa, pz, ps]
              refine ta (v := ?_) 4 180 rfl ?_ ?_
              rotate_left
              · (intro W hSw; obtain ⟨q0, q1, q2, zh, ch⟩ := hSw; go_simp; try with_reducible rfl)
              simp only [Act.put, pa, pz, ps]
              refine ta (v := ?_) 5 181 rfl ?_ ?_
              rotate_left
              · (intro W hSw; obtain ⟨q0, q1, q2, zh, ch⟩ := hSw; go_simp; try with_reducible rfl)
              simp only [Act.put, pa, pz, ps]
              refine ta (v := ?_) 6 182 rfl ?_ ?_
              rotate_left
              · (intro W hSw; obtain ⟨q0, q1, q2, zh, ch⟩ := hSw; go_simp; try with_reducible rfl)
              simp only [Act.put, pa, pz, ps]
              refine ta (v := ?_) 7 183 rfl ?_ ?_
              rotate_left
              · (intro W hSw; obtain ⟨q0, q1, q2, zh, ch⟩ := hSw; go_simp; try with_reducible rfl)
              simp only [Act.put, pa, pz, ps]
              obtain ⟨z0, z1, z2, z3, z4, z5, z6⟩ := KE.out.at7
              obtain ⟨j0, j1, j2, j3, j4, j5, j6⟩ := KE.out.free7
              have hz := KE.out.lt
              refine wpAnyH_ready (rs := [8]) (by kernel_rfl) (by simp) ?_
              refine AllReadyH.cons rfl (fun K hK => ?_) AllReadyH.nil
              go_simp
              have xB : Below w6.heap.size w6 (put7 W g (.int .i64 0) (.int .u8 2) (.int .i64 (u : Int)) (.int .i64 0) (.int .i64 0) (.int .i64 lo) (.int .i64 0)) := below_put7 B (by have := HGE.out; omega)
              have xE := KE.out.put7 (y0 := .int .i64 0) (y1 := .int .u8 2) (y2 := .int .i64 (u : Int)) (y3 := .int .i64 0) (y4 := .int .i64 0) (y5 := .int .i64 lo) (y6 := .int .i64 0)
              have xP := KP.out.far7 (g := g) (y0 := .int .i64 0) (y1 := .int .u8 2) (y2 := .int .i64 (u : Int)) (y3 := .int .i64 0) (y4 := .int .i64 0) (y5 := .int .i64 lo) (y6 := .int .i64 0) (by omega)
              have xA := KA.out.far7 (g := g) (y0 := .int .i64 0) (y1 := .int .u8 2) (y2 := .int .i64 (u : Int)) (y3 := .int .i64 0) (y4 := .int .i64 0) (y5 := .int .i64 lo) (y6 := .int .i64 0) (by have := HLA.out; omega)
              have xS : StIn (put7 W g (.int .i64 0) (.int .u8 2) (.int .i64 (u : Int)) (.int .i64 0) (.int .i64 0) (.int .i64 lo) (.int .i64 0)) (put7 W g (.int .i64 0) (.int .u8 2) (.int .i64 (u : Int)) (.int .i64 0) (.int .i64 0) (.int .i64 lo) (.int .i64 0)).heap.size M N1 N1 ⟨A4, d4, A5, d5, some ⟨bh, oh, none⟩, d6⟩ X E H' := by simpa using (((((((KS.out.off HOF.out (by omega)).off HOF.out (by omega)).off HOF.out (by omega)).off HOF.out (by omega)).off HOF.out (by omega)).off HOF.out (by omega)).off HOF.out (by omega))
              refine hK.out _ _ (HKEEP.out _ xA xS) (fun hSx => ?_)
              clear hK K hSx hS0 z0 z1 z2 z3 z4 z5 z6 j0 j1 j2 j3 j4 j5 j6 hz B KE KP
              dsimp only [put7] at xB xE xP xA xS
              generalize ((((((W.setCell ⟨g, 0, none⟩ (.int .i64 0)).setCell ⟨g, 1, none⟩ (.int .u8 2)).setCell ⟨g, 2, none⟩ (.int .i64 (u : Int))).setCell ⟨g, 3, none⟩ (.int .i64 0)).setCell ⟨g, 4, none⟩ (.int .i64 0)).setCell ⟨g, 5, none⟩ (.int .i64 lo)).setCell ⟨g, 6, none⟩ (.int .i64 0) = wy at *
              obtain ⟨⟨z0, z1, z2⟩, ⟨j0, j1, j2⟩, hz⟩ := xP.full3
              refine wpAnyH_ready (rs := [9]) (by kernel_rfl) (by simp) ?_
              refine AllReadyH.cons rfl (fun K hK => ?_) AllReadyH.nil
              go_simp
              have yB : Below w6.heap.size w6 (put3 wy gq (.slice A4 M d4) (.slice A5 N1 d5) (.slice (some ⟨bh, oh, none⟩) N1 d6)) := below_put3 xB (by have := HGE.out; omega)
              have yS : StIn (put3 wy gq (.slice A4 M d4) (.slice A5 N1 d5) (.slice (some ⟨bh, oh, none⟩) N1 d6)) (put3 wy gq (.slice A4 M d4) (.slice A5 N1 d5) (.slice (some ⟨bh, oh, none⟩) N1 d6)).heap.size M N1 N1 ⟨A4, d4, A5, d5, (some ⟨bh, oh, none⟩), d6⟩ X E H' := ⟨by simpa using ints_far3 xS.iX xP, by simpa using ints_far3 xS.iE xP, by simpa using ints_far3 xS.iH xP⟩
              have yP : Blk (put3 wy gq (.slice A4 M d4) (.slice A5 N1 d5) (.slice (some ⟨bh, oh, none⟩) N1 d6)) gq 29 #[.slice A4 M d4, .slice A5 N1 d5, .slice (some ⟨bh, oh, none⟩) N1 d6] := xP.put3
              have yE := xE.far3 (g := gq) (x := .slice A4 M d4) (y := .slice A5 N1 d5) (z := .slice (some ⟨bh, oh, none⟩) N1 d6) (by omega)
              have yA := xA.far3 (g := gq) (x := .slice A4 M d4) (y := .slice A5 N1 d5) (z := .slice (some ⟨bh, oh, none⟩) N1 d6) (by have := HLA.out; omega)
              refine hK.out _ _ (HKEEP.out _ yA yS) (fun hSx => ?_)
              clear hK K hSx z0 z1 z2 j0 j1 j2 hz xB xE xP xA xS
              dsimp only [put3] at yB yS yP yE
              generalize ((wy.setCell ⟨gq, 0, none⟩ (.slice A4 M d4)).setCell ⟨gq, 1, none⟩ (.slice A5 N1 d5)).setCell ⟨gq, 2, none⟩ (.slice (some ⟨bh, oh, none⟩) N1 d6) = wz at *
              refine wpAnyH_done (by kernel_rfl) ?_ _
              go_wp2_with fail
              go_meet
              exact ⟨_, ⟨A4, d4, A5, d5, (some ⟨bh, oh, none⟩), d6⟩, X, E, H', yB, yE, yP, yS, HNX.out⟩
          case rest =>
            as_aux_lemma =>
              obtain ⟨ev, Q', X', E', H', b8, e8, p8, s8, nx8⟩ := hcut
              have HV8 := Lib.hid (HV6.out.on (W' := wc) b8); have HE8 := Lib.hid e8; have HP8 := Lib.hid p8; have HS8 := Lib.hid s8; have HNX := Lib.hid nx8
              clear b8 e8 p8 s8 nx8 HV6 HV7 HI1 HI2 HI17 HI27 HE7 HP7 HB7 HM1 HM2
              obtain ⟨y0, y1, y2, y3, y4, y5, y6⟩ := ev
              obtain ⟨A4, d4, A5, d5, A6, d6⟩ := Q'
              dsimp only at HE8 HP8
              obtain ⟨c0, c1, c2, c3, c4, c5, c6, c7, c8⟩ := HV8.out.c.at9
              have zc := HV8.out.c.lt
              obtain ⟨⟨p0, p1, p2⟩, ⟨f0, f1, f2⟩, zp⟩ := HV8.out.p.full3
              obtain ⟨e0, e1, e2, e3, e4, e5, e6⟩ := HE8.out.at7
              have ze := HE8.out.lt
              go_wp2_with fail
              have hmv := HMO.out ⟨AX, cX, AE, cE, AHH, cHH⟩ X E H ⟨y0, y1, y2, y3, y4, y5, y6⟩ wc HV8.out.bel HV8.out.st HV8.out.snd
              refine hmv.mono ?_
              clear hmv
              rintro e w9 ⟨Q2, rfl, B9, st9⟩
              rw [HNX.out.leg]
              rw [HNX.out.nx, HNX.out.ne, HNX.out.nh] at st9
              have HV9 := Lib.hid (HV8.out.on B9); have HE9 := Lib.hid (HE8.out.below B9 HE8.out.lt); have HP9 := Lib.hid (HP8.out.below B9 HP8.out.lt); have HS9 := Lib.hid (HS8.out.on B9); have HT9 := Lib.hid st9
              clear st9 B9 HV8 HE8 HP8 HS8 e0 e1 e2 e3 e4 e5 e6 ze c0 c1 c2 c3 c4 c5 c6 c7 c8 zc p0 p1 p2 f0 f1 f2 zp
              obtain ⟨A7, d7, A8, d8, A9, d9⟩ := Q2
              dsimp only [preW]
              obtain ⟨c0, c1, c2, c3, c4, c5, c6, c7, c8⟩ := HV9.out.c.at9
              have zc := HV9.out.c.lt
              obtain ⟨⟨p0, p1, p2⟩, ⟨f0, f1, f2⟩, zp⟩ := HV9.out.p.full3
              obtain ⟨e0, e1, e2, e3, e4, e5, e6⟩ := HE9.out.at7
              have ze := HE9.out.lt
              go_wp2_with fail
              have hsr := HST.out ⟨AX, cX, AE, cE, AHH, cHH⟩ X E H ⟨y0, y1, y2, y3, y4, y5, y6⟩ (w9.alloc (.cells #[.slice A7 M d7, .slice A8 N1 d8, .slice A9 N1 d9] 29)) (below_step HV9.out.bel (below_alloc _)) (HV9.out.on (below_alloc _)).st HV9.out.snd
              rw [HNX.out.str] at hsr
              refine hsr.mono ?_
              clear hsr
              rintro e wa ⟨rfl, Ba⟩
              have Bax := below_step (below_alloc _) Ba
              have HVa := Lib.hid (HV9.out.on Bax); have HPa := Lib.hid (HP9.out.below Bax HP9.out.lt); have HSa := Lib.hid (HS9.out.on Bax); have HTa := Lib.hid (HT9.out.on Bax)
              have HRa : Hid (Blk wa w9.heap.size 29 #[.slice A7 M d7, .slice A8 N1 d8, .slice A9 N1 d9]) := Lib.hid ((Blk.new rfl).below Ba (by simp))
              clear Ba Bax HV9 HE9 HP9 HS9 HT9 e0 e1 e2 e3 e4 e5 e6 ze c0 c1 c2 c3 c4 c5 c6 c7 c8 zc p0 p1 p2 f0 f1 f2 zp
              obtain ⟨⟨p0, p1, p2⟩, -, zp⟩ := HPa.out.full3
              obtain ⟨⟨q0, q1, q2⟩, -, zq⟩ := HRa.out.full3
              go_wp2_with fail
              refine (HSM.out ⟨A4, d4, A5, d5, A6, d6⟩ ⟨A7, d7, A8, d8, A9, d9⟩ X' E' H' _ HSa.out HTa.out).mono ?_
              rintro e wb ⟨rfl, Bb⟩
              have HVb := Lib.hid (HVa.out.on Bb); have HPb := Lib.hid (HPa.out.below Bb HPa.out.lt); have HSb := Lib.hid (HSa.out.on Bb)
              clear Bb HVa HPa HSa HTa HRa p0 p1 p2 zp q0 q1 q2 zq
              obtain ⟨⟨p0, p1, p2⟩, ⟨f0, f1, f2⟩, zp⟩ := HVb.out.p.full3
              obtain ⟨⟨q0, q1, q2⟩, -, zq⟩ := HPb.out.full3
              have R8 := Lib.hid (HVb.out.put (Q' := ⟨A4, d4, A5, d5, A6, d6⟩) (by omega) (by omega) HSb.out HNX.out.st.snd)
              go_wp2_with fail
              go_roundw
              case rel => exact ⟨k + 1, ⟨A4, d4, A5, d5, A6, d6⟩, X', E', H', by omega, by go_num, R8.out, HNX.out.st⟩
              case measure => simp [intOf]; omega
    · skip
      have HV := Lib.hid V
      clear V
      go_wp2_with fail
      refine (awake9_is _).mono ?_
      rintro e w9 ⟨rfl, B9⟩
      have BF := below_step (below_step HB.out HV.out.bel) B9
      clear B9
      go_wp2_with fail
      go_ret
      exact ⟨rfl, BF⟩
end Go.Proofs.Ytanifbofjecpmaa
