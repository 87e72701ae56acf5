/- RelaxedSound: the walk. -/
import Derived.BigQuiet
import Derived.Test.YtanifbofjecpmaaRcp
import Derived.Test.YtanifbofjecpmaaRaw
import Derived.Test.YtanifbofjecpmaaRle
import Derived.Test.YtanifbofjecpmaaOpen8
namespace Go.Proofs.Ytanifbofjecpmaa
open Go.RowKit Go.Shelf
set_option maxRecDepth 100000

/-- The first q of a slice of acts. -/
theorem acts_slice (A : Option Addr) (n c q : Nat) (hq : q ≤ c) (W : World) : (Instr.sliceAt 25 (.slice A n c) none (some (.int .i64 (q : Int))) none).run Try.prog W = .ok (.slice A q c) W := by
  have ht : Try.prog.underlying 25 = some (.slice (Try.prog.elem 25)) := by kernel_rfl
  have hs : ∃ s, ∀ W, (sizeOf (Try.prog.elem 25)).run Try.prog W = .ok s W := ⟨9, fun W => by kernel_rfl⟩
  obtain ⟨s, hs⟩ := hs
  rw [run_sliceAt_slice _ _ _ _ _ _ ht, run_slice_h _ _ _ _ _ ht _ _ (by omega) (by omega), hs]
  simp only [Result.andThen, sliced, Nat.zero_mul, Nat.sub_zero, Int.toNat_natCast]
  congr 2
  split
  · rfl
  · cases A with
    | none => rfl
    | some a => obtain ⟨b, o, s⟩ := a; cases s <;> simp [Addr.add]
theorem acts_short {w : World} {B n m : Nat} {A : Option Addr} {l : List ActS} (h : Acts w B A n l) (hm : m ≤ n) : Acts w B A m (l.take m) :=
  ⟨by rw [List.length_take, h.1]; omega, fun h0 => by
    obtain ⟨b, off, e, hb, hc⟩ := h.2 (by omega)
    refine ⟨b, off, e, hb, fun k a ha j u hu => hc k a ?_ j u hu⟩
    rw [List.getElem?_take] at ha
    split at ha
    · exact ha
    · cases ha⟩
/-- What is left along an arc fits. -/
theorem snd_inR {N M s t : Nat} {fst hd rv ai : Nat → Nat} {cp : Nat → Int} {bk : Nat → Bool} {X E H : List Int} (hG : PNet N M s t fst hd rv ai cp bk) (hS : SndIs N M s t hd rv cp X E H) : ∀ x ∈ X, InR x := by
  intro x hx
  obtain ⟨a, ha, rfl⟩ := List.mem_iff_getElem.1 hx
  have hl := hS.bal.1
  have e : hOf X a = X[a] := by unfold hOf; rw [List.getElem?_eq_getElem ha]; rfl
  have h1 := hS.bal.2 a (by omega)
  have hr := hG.g.rvl a (by omega)
  have h2 := hS.bal.2 (rv a) hr
  have h3 := hG.cp0 a (by omega); have h4 := hG.cp0 (rv a) hr
  have h5 := hG.bkr a (by omega)
  have h6 : cp a = 0 ∨ cp (rv a) = 0 := by
    cases hb : bk a with
    | true => exact .inl (hG.cpb a (by omega) hb)
    | false => rw [hb] at h5; exact .inr (hG.cpb (rv a) hr h5)
  unfold maxSum at h3 h4
  unfold InR
  rw [← e]
  omega
section
variable {N M s t : Nat} {fst hd rv ai : Nat → Nat} {cp : Nat → Int} {bk : Nat → Bool} {X E H : List Int} {e : EvS}
theorem nx_high (h : SndIs N M s t hd rv cp X E H) (v : Nat) : hOf H v ≤ hOf (nxH N s t fst X E H e) v := by
  unfold nxH
  split
  · exact h.high (fst := fst) ‹_› v
  · omega
theorem nx_less (hG : PNet N M s t fst hd rv ai cp bk) (h : SndIs N M s t hd rv cp X E H) {v : Nat} (hv : v = s ∨ v = t) : hOf E v ≤ hOf (nxE N s t fst hd rv X E H e) v := by
  unfold nxE
  split
  · rename_i hl
    refine h.less hG hl fun hc => ?_
    unfold legI at hl
    split at hl
    · rename_i hi
      obtain ⟨-, h2, h3⟩ := hi
      rcases hv with rfl | rfl <;> omega
    · cases hl
  · omega
end
theorem wrap_next (a b : Int) : IntKind.i64.wrap (IntKind.i64.wrap a + b) = IntKind.i64.wrap (a + b) := by
  rw [IntKind.wrap_i64, IntKind.wrap_i64, IntKind.wrap_i64]
  omega

set_option maxHeartbeats 16000000 in
theorem rsound_walk (N S T : Int) (A : Option Addr) (n c : Nat) (l : List ArcN) (AU : Option Addr) (nu cu : Nat) (U : List ActS) (w : World) (hA : Arcs w w.heap.size A n l) (hf : FitsAll l) (hnc : n ≤ c) (hU : Acts w w.heap.size AU nu U) (hcu : nu ≤ cu) :
    Calls Try.prog 4 #[.agg #[.int .i64 N, .int .i64 S, .int .i64 T, .slice A n c], .slice AU nu cu] w fun e w' => e = .returned (.bool true) ∧ Below w.heap.size w w' := by
  obtain ⟨N1, M, s, t, hso⟩ := some_begun N S T A n c 12 30 l w hA hf hnc (by omega) (by omega) (by omega)
  have HSO := Lib.hid hso; have HU := Lib.hid hU
  clear hso hU hA hf
  go_enter Try.func4, Try.ntmps4
  go_wp2_with fail
  refine (HSO.out _ (below_alloc _)).mono ?_
  rintro e w1 ⟨v, rfl, B1, hbg⟩
  have HBG := Lib.hid hbg
  have B01 := below_step (below_alloc _) B1
  clear hbg HSO
  go_wp2_with fail
  refine (HBG.out _ (Below.refl _ _)).mono ?_
  rintro e w2 ⟨x0, K, Q, fst, hd, rv, ai, cp, bk, X, E, rfl, hP, hI, hR, hS, hx0, B2⟩
  have B02 := below_step B01 B2
  have hI2 := hI.more hR.bas
  have hQ2 := hR.st hS.bal.1 hS.le hS.lh
  have hN := hP.nN; have hM := hP.nM; have hn2 := hP.n2
  have HP := Lib.hid hP; have HI := Lib.hid hI2; have HQ := Lib.hid hQ2; have HS := Lib.hid hS; have HB := Lib.hid B02
  generalize begH N1 s = H at *
  clear hP hI hR hS hI2 hQ2 B01 B02 B1 B2 HBG hx0
  obtain ⟨q, hq⟩ : ∃ q, min nu 60 = q := ⟨_, rfl⟩
  have HUQ := Lib.hid (acts_short (m := q) ((HU.out.below HB.out).more HB.out.size) (by omega))
  obtain ⟨L, hL⟩ : ∃ L, U.take q = L := ⟨_, rfl⟩
  rw [hL] at HUQ
  clear HU hL
  have hsl := acts_slice AU nu cu q (by omega)
  have hm1 : (if (nu : Int) < 60 then (nu : Int) else (60 : Int)) = (q : Int) := by rw [← hq]; split <;> omega
  have hm2 : (if nu < 60 then (nu : Int) else (60 : Int)) = (q : Int) := by rw [← hq]; split <;> omega
  have hm3 : min (nu : Int) 60 = (q : Int) := by omega
  have hm4 : (if (60 : Int) < (nu : Int) then (60 : Int) else (nu : Int)) = (q : Int) := by rw [← hq]; split <;> omega
  have hm5 : (if 60 < nu then (60 : Int) else (nu : Int)) = (q : Int) := by rw [← hq]; split <;> omega
  have h0q : (0 : Int) ≤ (q : Int) := by omega
  have hqc : (q : Int) ≤ (cu : Int) := by omega
  have hq60 : q ≤ 60 := by omega
  clear hq
  obtain ⟨AF, cF, AH, cH, AR, cR, AC, cC, AA, cA, AB, cB⟩ := K
  have hs := HP.out.hs; have ht := HP.out.ht
  have hfi := fun (Q : PreS) X E H ev raw fit W (hb : Below w2.heap.size w2 W) (hq : StIn W W.heap.size M N1 N1 Q X E H) => fitted_is N1 M s t ⟨AF, cF, AH, cH, AR, cR, AC, cC, AA, cA, AB, cB⟩ Q fst hd rv X E H ev raw fit W HP.out.g ((HI.out.below hb).more hb.size).gi hq hN hn2 hM
  have hle := fun (Q : PreS) X E H ev W (hb : Below w2.heap.size w2 W) (hq : StIn W W.heap.size M N1 N1 Q X E H) => rlegal_is N1 M s t ⟨AF, cF, AH, cH, AR, cR, AC, cC, AA, cA, AB, cB⟩ Q fst hd rv X E H ev W HP.out.g ((HI.out.below hb).more hb.size).gi hq hN
  have hrt := fun (Q : PreS) X E H W (hb : Below w2.heap.size w2 W) (hq : StIn W W.heap.size M N1 N1 Q X E H) (hs : SndIs N1 M s t hd rv cp X E H) => rright_is N1 M s t M N1 N1 ⟨AF, cF, AH, cH, AR, cR, AC, cC, AA, cA, AB, cB⟩ Q fst hd rv ai cp bk X E H true W HP.out ((HI.out.below hb).more hb.size) hq (snd_inR HP.out hs) ⟨fun _ => ⟨rfl, rfl, rfl, hs⟩, fun _ => rfl⟩
  have hsm := fun (Q R : PreS) X E H W (hq : StIn W W.heap.size M N1 N1 Q X E H) (hr : StIn W W.heap.size M N1 N1 R X E H) => rsame_is M N1 N1 M N1 N1 Q R X E H X E H true W hq hr (by omega) (by omega) (by omega) (by omega) (by omega) (by omega) (by simp)
  have hmo := fun (Q : PreS) X E H ev W (hb : Below w2.heap.size w2 W) (hq : StIn W W.heap.size M N1 N1 Q X E H) hs => rmove_is N1 M s t ⟨AF, cF, AH, cH, AR, cR, AC, cC, AA, cA, AB, cB⟩ Q fst hd rv ai cp bk X E H ev W HP.out ((HI.out.below hb).more hb.size).gi hq hs
  have HFI := Lib.hid hfi; have HLE := Lib.hid hle; have HRT := Lib.hid hrt; have HSM := Lib.hid hsm; have HMO := Lib.hid hmo; have HSL := Lib.hid hsl
  clear hfi hle hrt hsm hmo hsl HI hs ht
  dsimp only [csrW, preW, actW, evW] at HFI HLE HRT HSM HMO ⊢
  go_upto_region 2 with fail
  obtain ⟨w3, hw3⟩ : ∃ w3, ((w2.alloc (.cells #[.int .i64 (N1 : Int), .int .i64 (s : Int), .int .i64 (t : Int), .slice AF (N1 + 1) cF, .slice AH M cH, .slice AR M cR, .slice AC M cC, .slice AA M cA, .slice AB M cB] 32)).alloc (.cells #[.slice Q.AX M Q.cX, .slice Q.AE N1 Q.cE, .slice Q.AH N1 Q.cH] 29)) = w3 := ⟨_, rfl⟩
  have B3 : Below w2.heap.size w2 w3 := by rw [← hw3]; exact (below_alloc _).alloc (by simp) _
  have V3 : LpI w2 N1 M s t ⟨AF, cF, AH, cH, AR, cR, AC, cC, AA, cA, AB, cB⟩ hd rv cp w2.heap.size (w2.heap.size + 1) Q X E H w3 := by
    refine ⟨B3, ?_, ?_, HQ.out.on B3, HS.out⟩
    · rw [← hw3]; exact (Blk.new rfl).alloc _
    · rw [← hw3]; exact Blk.new (by simp)
  rw [hw3]
  clear hw3 B3
  obtain ⟨c0, c1, c2, c3, c4, c5, c6, c7, c8⟩ := V3.c.at9
  obtain ⟨⟨p0, p1, p2⟩, -, zp⟩ := V3.p.full3
  have zc := V3.c.lt
  have HV3 := Lib.hid V3
  clear V3 HQ HS
  go_wp2_with fail
  refine (HRT.out Q X E H _ HV3.out.bel HV3.out.st HV3.out.snd).mono ?_
  rintro e w4 ⟨rfl, B4⟩
  have V4 := HV3.out.on B4
  clear c0 c1 c2 c3 c4 c5 c6 c7 c8 p0 p1 p2 zp zc HV3 B4
  have HX := HSL.out
  go_wp2_with fail
  go_loopw [8, 9, 10, 11, 12, 13, 14, 31] (fun _ _ _ _ _ _ _ i wr => ∃ (k : Nat) (Q : PreS) (X E H : List Int), k ≤ q ∧ i = .int .i64 k ∧ LpI w2 N1 M s t ⟨AF, cF, AH, cH, AR, cR, AC, cC, AA, cA, AB, cB⟩ hd rv cp w2.heap.size (w2.heap.size + 1) Q X E H wr) (fun _ _ _ _ _ _ _ i _ => q - (intOf i).toNat)
  case atStart => exact ⟨0, Q, X, E, H, Nat.zero_le _, rfl, V4⟩
  case round =>
    clear V4 HX
    obtain ⟨k, Q, X, E, H, hk, rfl, V⟩ := hrel
    by_cases hlt : k < q
    · obtain ⟨b, off, ⟨⟨who, what, eu, arc, d0, h0, low⟩, raw, fit⟩, rfl, hbl, hla, a0, a1, a2, a3, a4, a5, a6, a7, a8⟩ := acts_at (HUQ.out.below V.bel) hlt
      dsimp only at a0 a1 a2 a3 a4 a5 a6 a7 a8
      obtain ⟨c0, c1, c2, c3, c4, c5, c6, c7, c8⟩ := V.c.at9
      obtain ⟨⟨p0, p1, p2⟩, -, zp⟩ := V.p.full3
      have zc := V.c.lt
      have zb : b < wr.heap.size := by have := V.bel.size; omega
      have HV := Lib.hid V
      clear V hla
      go_wp2_with fail
      refine (HFI.out Q X E H ⟨who, what, eu, arc, d0, h0, low⟩ raw fit _ (below_step HV.out.bel (below_alloc _)) (HV.out.on (below_alloc _)).st).mono ?_
      rintro e w5 ⟨⟨who', what', eu', arc', d', h', low'⟩, rfl, B5⟩
      have V5 := (HV.out.on (below_alloc _)).on B5
      clear c0 c1 c2 c3 c4 c5 c6 c7 c8 p0 p1 p2 zp zc zb a0 a1 a2 a3 a4 a5 a6 a7 a8 HV B5 hbl
      dsimp only [evW]
      go_upto_region 8 with fail
      obtain ⟨wb, hwb⟩ : ∃ wb, w5.alloc (.cells #[.int .i64 who', .int .u8 what', .int .i64 eu', .int .i64 arc', .int .i64 d', .int .i64 h', .int .i64 low'] 39) = wb := ⟨_, rfl⟩
      have Eb : Blk wb w5.heap.size 39 #[.int .i64 who', .int .u8 what', .int .i64 eu', .int .i64 arc', .int .i64 d', .int .i64 h', .int .i64 low'] := by rw [← hwb]; exact Blk.new rfl
      have Vb := V5.on (W' := wb) (by rw [← hwb]; exact below_alloc _)
      rw [hwb]
      clear hwb V5
      obtain ⟨AX, cX, AE, cE, AHH, cHH⟩ := Q
      have hkeep : ∀ W', Below wb.heap.size wb W' → W'.cell? ⟨w2.heap.size + 1, 0, none⟩ = some (.slice AX M cX) ∧ W'.cell? ⟨w2.heap.size + 1, 1, none⟩ = some (.slice AE N1 cE) ∧ W'.cell? ⟨w2.heap.size + 1, 2, none⟩ = some (.slice AHH N1 cHH) := fun W' hb => ((Vb.p.below hb Vb.p.lt).full3).1
      have HKEEP := Lib.hid hkeep; have HVB := Lib.hid Vb; have HEB := Lib.hid Eb
      have HQX := Lib.hid Vb.st.iX; have HQE := Lib.hid Vb.st.iE; have HQH := Lib.hid Vb.st.iH
      dsimp only at HQX HQE HQH
      have hgb := Vb.p.lt
      clear hkeep Vb Eb
      refine wp_region_held_drew (S := fun W' => W'.cell? ⟨w2.heap.size + 1, 0, none⟩ = some (.slice AX M cX) ∧ W'.cell? ⟨w2.heap.size + 1, 1, none⟩ = some (.slice AE N1 cE) ∧ W'.cell? ⟨w2.heap.size + 1, 2, none⟩ = some (.slice AHH N1 cHH)) (by kernel_rfl) (HKEEP.out _ (Below.refl _ _).drew) (fun hS0 => ?_)
      obtain ⟨W, hW⟩ : ∃ W, wb.drew = W := ⟨_, rfl⟩
      have B : Below wb.heap.size wb W := by rw [← hW]; exact (Below.refl _ _).drew
      rw [hW] at hS0 ⊢
      clear hW
      refine tk (v := ?_) 1 40 rfl ?_ ?_
      rotate_left
      · (intro W hSw; obtain ⟨p0, p1, p2⟩ := hSw; go_simp; try with_reducible rfl)
      simp only [Act.put, pa, pz, ps]
      refine tk (v := ?_) 2 41 rfl ?_ ?_
      rotate_left
      · (intro W hSw; obtain ⟨p0, p1, p2⟩ := hSw; go_simp; try with_reducible rfl)
      simp only [Act.put, pa, pz, ps]
      refine tk (v := ?_) 5 44 rfl ?_ ?_
      rotate_left
      · (intro W hSw; obtain ⟨p0, p1, p2⟩ := hSw; go_simp; try with_reducible rfl)
      simp only [Act.put, pa, pz, ps]
      refine tk (v := ?_) 6 45 rfl ?_ ?_
      rotate_left
      · (intro W hSw; obtain ⟨p0, p1, p2⟩ := hSw; go_simp; try with_reducible rfl)
      simp only [Act.put, pa, pz, ps]
      refine tk (v := ?_) 9 48 rfl ?_ ?_
      rotate_left
      · (intro W hSw; obtain ⟨p0, p1, p2⟩ := hSw; go_simp; try with_reducible rfl)
      simp only [Act.put, pa, pz, ps]
      refine tk (v := ?_) 10 49 rfl ?_ ?_
      rotate_left
      · (intro W hSw; obtain ⟨p0, p1, p2⟩ := hSw; go_simp; try with_reducible rfl)
      simp only [Act.put, pa, pz, ps]
      refine (have raaa1 : Hid ?Traaa1 := ?praaa1; ?mraaa1)
      case mraaa1 =>
       refine (have raab1 : Hid ?Traab1 := ?praab1; ?mraab1)
       case mraab1 =>
        refine (have raaa0 : Hid ?Traaa0 := ?praaa0; ?mraaa0)
        case mraaa0 =>
         refine (have rabb1 : Hid ?Trabb1 := ?prabb1; ?mrabb1)
         case mrabb1 =>
          refine (have raan1 : Hid ?Traan1 := ?praan1; ?mraan1)
          case mraan1 =>
           refine (have raab0 : Hid ?Traab0 := ?praab0; ?mraab0)
           case mraab0 =>
            refine (have rbbb1 : Hid ?Trbbb1 := ?prbbb1; ?mrbbb1)
            case mrbbb1 =>
             refine (have ranb1 : Hid ?Tranb1 := ?pranb1; ?mranb1)
             case mranb1 =>
              refine (have rabn1 : Hid ?Trabn1 := ?prabn1; ?mrabn1)
              case mrabn1 =>
               refine (have rabb0 : Hid ?Trabb0 := ?prabb0; ?mrabb0)
               case mrabb0 =>
                refine (have raan0 : Hid ?Traan0 := ?praan0; ?mraan0)
                case mraan0 =>
                 refine (have rnbb1 : Hid ?Trnbb1 := ?prnbb1; ?mrnbb1)
                 case mrnbb1 =>
                  refine (have rbnb1 : Hid ?Trbnb1 := ?prbnb1; ?mrbnb1)
                  case mrbnb1 =>
                   refine (have rbbn1 : Hid ?Trbbn1 := ?prbbn1; ?mrbbn1)
                   case mrbbn1 =>
                    refine (have rbbb0 : Hid ?Trbbb0 := ?prbbb0; ?mrbbb0)
                    case mrbbb0 =>
                     refine (have rann1 : Hid ?Trann1 := ?prann1; ?mrann1)
                     case mrann1 =>
                      refine (have ranb0 : Hid ?Tranb0 := ?pranb0; ?mranb0)
                      case mranb0 =>
                       refine (have rabn0 : Hid ?Trabn0 := ?prabn0; ?mrabn0)
                       case mrabn0 =>
                        refine (have rnnb1 : Hid ?Trnnb1 := ?prnnb1; ?mrnnb1)
                        case mrnnb1 =>
                         refine (have rnbn1 : Hid ?Trnbn1 := ?prnbn1; ?mrnbn1)
                         case mrnbn1 =>
                          refine (have rnbb0 : Hid ?Trnbb0 := ?prnbb0; ?mrnbb0)
                          case mrnbb0 =>
                           refine (have rbnn1 : Hid ?Trbnn1 := ?prbnn1; ?mrbnn1)
                           case mrbnn1 =>
                            refine (have rbnb0 : Hid ?Trbnb0 := ?prbnb0; ?mrbnb0)
                            case mrbnb0 =>
                             refine (have rbbn0 : Hid ?Trbbn0 := ?prbbn0; ?mrbbn0)
                             case mrbbn0 =>
                              refine (have rann0 : Hid ?Trann0 := ?prann0; ?mrann0)
                              case mrann0 =>
                               refine (have rnnn1 : Hid ?Trnnn1 := ?prnnn1; ?mrnnn1)
                               case mrnnn1 =>
                                refine (have rnnb0 : Hid ?Trnnb0 := ?prnnb0; ?mrnnb0)
                                case mrnnb0 =>
                                 refine (have rnbn0 : Hid ?Trnbn0 := ?prnbn0; ?mrnbn0)
                                 case mrnbn0 =>
                                  refine (have rbnn0 : Hid ?Trbnn0 := ?prbnn0; ?mrbnn0)
                                  case mrbnn0 =>
                                   refine wpAnyH_ready (rs := [0, 4, 8, 13]) (by kernel_rfl) (by simp) ?_
                                   refine (AllReadyH.cons rfl (fun K hK => ?_) (AllReadyH.cons rfl (fun K hK => ?_) (AllReadyH.cons rfl (fun K hK => ?_) (AllReadyH.cons rfl (fun K hK => ?_) AllReadyH.nil))))
                                   · skip
                                     go_simp
                                     obtain ⟨g0, hgn⟩ : ∃ g, W.heap.size = g := ⟨_, rfl⟩
                                     obtain ⟨V, hV⟩ : ∃ V, W.alloc (.cells #[] 2) = V := ⟨_, rfl⟩
                                     have hba : Below W.heap.size W V := by rw [← hV]; exact below_alloc _
                                     have xb0 : Blk V g0 2 #[] := by rw [← hV]; exact Blk.new hgn
                                     have xl0 : wb.heap.size ≤ g0 := by rw [← hgn]; exact B.size
                                     have xB := below_step B hba
                                     refine hK.out _ _ (by rw [hV]; exact HKEEP.out _ xB) (fun hSx => ?_)
                                     clear hK K hSx 
                                     try simp only [Act.put, pa, pz, ps]
                                     rw [hV]
                                     rw [hgn]
                                     clear hV hba hgn
                                     obtain ⟨W, rfl⟩ : ∃ W, W = V := ⟨_, rfl⟩
                                     have B := xB
                                     clear xB
                                     have l0 := xl0
                                     clear xl0
                                     have b0 := xb0
                                     clear xb0
                                     revert b0
                                     revert l0
                                     revert B
                                     revert W
                                     revert g0
                                     exact rbnn0.out
                                   · skip
                                     go_simp
                                     obtain ⟨g1, hgn⟩ : ∃ g, W.heap.size = g := ⟨_, rfl⟩
                                     obtain ⟨V, hV⟩ : ∃ V, W.alloc (.cells #[] 2) = V := ⟨_, rfl⟩
                                     have hba : Below W.heap.size W V := by rw [← hV]; exact below_alloc _
                                     have xb1 : Blk V g1 2 #[] := by rw [← hV]; exact Blk.new hgn
                                     have xl1 : wb.heap.size ≤ g1 := by rw [← hgn]; exact B.size
                                     have xB := below_step B hba
                                     refine hK.out _ _ (by rw [hV]; exact HKEEP.out _ xB) (fun hSx => ?_)
                                     clear hK K hSx 
                                     try simp only [Act.put, pa, pz, ps]
                                     rw [hV]
                                     rw [hgn]
                                     clear hV hba hgn
                                     obtain ⟨W, rfl⟩ : ∃ W, W = V := ⟨_, rfl⟩
                                     have B := xB
                                     clear xB
                                     have l1 := xl1
                                     clear xl1
                                     have b1 := xb1
                                     clear xb1
                                     revert b1
                                     revert l1
                                     revert B
                                     revert W
                                     revert g1
                                     exact rnbn0.out
                                   · skip
                                     go_simp
                                     obtain ⟨g2, hgn⟩ : ∃ g, W.heap.size = g := ⟨_, rfl⟩
                                     obtain ⟨V, hV⟩ : ∃ V, W.alloc (.cells #[] 3) = V := ⟨_, rfl⟩
                                     have hba : Below W.heap.size W V := by rw [← hV]; exact below_alloc _
                                     have xb2 : Blk V g2 3 #[] := by rw [← hV]; exact Blk.new hgn
                                     have xl2 : wb.heap.size ≤ g2 := by rw [← hgn]; exact B.size
                                     have xB := below_step B hba
                                     refine hK.out _ _ (by rw [hV]; exact HKEEP.out _ xB) (fun hSx => ?_)
                                     clear hK K hSx 
                                     try simp only [Act.put, pa, pz, ps]
                                     rw [hV]
                                     rw [hgn]
                                     clear hV hba hgn
                                     obtain ⟨W, rfl⟩ : ∃ W, W = V := ⟨_, rfl⟩
                                     have B := xB
                                     clear xB
                                     have l2 := xl2
                                     clear xl2
                                     have b2 := xb2
                                     clear xb2
                                     revert b2
                                     revert l2
                                     revert B
                                     revert W
                                     revert g2
                                     exact rnnb0.out
                                   · skip
                                     go_simp
                                     obtain ⟨g10, hgn⟩ : ∃ g, W.heap.size = g := ⟨_, rfl⟩
                                     obtain ⟨V, hV⟩ : ∃ V, W.alloc (.cells #[.slice none 0 0, .slice none 0 0, .slice none 0 0] 29) = V := ⟨_, rfl⟩
                                     have hba : Below W.heap.size W V := by rw [← hV]; exact below_alloc _
                                     have xp10 : Blk V g10 29 #[.slice none 0 0, .slice none 0 0, .slice none 0 0] := by rw [← hV]; exact Blk.new hgn
                                     have xl10 : wb.heap.size ≤ g10 := by rw [← hgn]; exact B.size
                                     have xB := below_step B hba
                                     refine hK.out _ _ (by rw [hV]; exact HKEEP.out _ xB) (fun hSx => ?_)
                                     clear hK K hSx 
                                     try simp only [Act.put, pa, pz, ps]
                                     rw [hV]
                                     rw [hgn]
                                     clear hV hba hgn
                                     obtain ⟨W, rfl⟩ : ∃ W, W = V := ⟨_, rfl⟩
                                     have B := xB
                                     clear xB
                                     have l10 := xl10
                                     clear xl10
                                     have p10 := xp10
                                     clear xp10
                                     revert p10
                                     revert l10
                                     revert B
                                     revert W
                                     revert g10
                                     exact rnnn1.out
                                  case prbnn0 =>
                                   refine Lib.hid ?_
                                   intro g0 W B l0 b0
                                   have hS0 := HKEEP.out _ B
                                   refine wpAnyH_ready (rs := [3, 4, 8, 13]) (by kernel_rfl) (by simp) ?_
                                   refine (AllReadyH.cons rfl (fun K hK => ?_) (AllReadyH.cons rfl (fun K hK => ?_) (AllReadyH.cons rfl (fun K hK => ?_) (AllReadyH.cons rfl (fun K hK => ?_) AllReadyH.nil))))
                                   · skip
                                     refine Eq.mpr (if_pos (by rfl)) ?_
                                     refine op_appE one_long.wide (.tmp 39) (.tmp 41) rfl b0 l0 B rfl rfl HQX.out (by omega) ?_
                                     intro A0 d0 V xB hin hbl hsz xi0
                                     refine hK.out _ _ (HKEEP.out _ xB) (fun hSx => ?_)
                                     clear hK K hSx hin hbl hsz hS0 B l0 b0
                                     try simp only [Act.put, pa]
                                     clear W
                                     obtain ⟨W, rfl⟩ : ∃ W, W = V := ⟨_, rfl⟩
                                     have B := xB
                                     clear xB
                                     have i0 := xi0
                                     clear xi0
                                     revert i0
                                     revert B
                                     revert W
                                     revert d0
                                     revert A0
                                     revert g0
                                     exact rann0.out
                                   · skip
                                     go_simp
                                     obtain ⟨g1, hgn⟩ : ∃ g, W.heap.size = g := ⟨_, rfl⟩
                                     obtain ⟨V, hV⟩ : ∃ V, W.alloc (.cells #[] 2) = V := ⟨_, rfl⟩
                                     have hba : Below W.heap.size W V := by rw [← hV]; exact below_alloc _
                                     have xb1 : Blk V g1 2 #[] := by rw [← hV]; exact Blk.new hgn
                                     have xl1 : wb.heap.size ≤ g1 := by rw [← hgn]; exact B.size
                                     have xB := below_step B hba
                                     have xl0 := l0
                                     have xb0 := b0.below hba b0.lt
                                     have xn01 : g0 ≠ g1 := by have := b0.lt; omega
                                     refine hK.out _ _ (by rw [hV]; exact HKEEP.out _ xB) (fun hSx => ?_)
                                     clear hK K hSx hS0 B l0 b0
                                     try simp only [Act.put, pa, pz, ps]
                                     rw [hV]
                                     rw [hgn]
                                     clear hV hba hgn W
                                     obtain ⟨W, rfl⟩ : ∃ W, W = V := ⟨_, rfl⟩
                                     have B := xB
                                     clear xB
                                     have l0 := xl0
                                     clear xl0
                                     have b0 := xb0
                                     clear xb0
                                     have l1 := xl1
                                     clear xl1
                                     have b1 := xb1
                                     clear xb1
                                     have n01 := xn01
                                     clear xn01
                                     revert n01
                                     revert b1
                                     revert l1
                                     revert b0
                                     revert l0
                                     revert B
                                     revert W
                                     revert g1
                                     revert g0
                                     exact rbbn0.out
                                   · skip
                                     go_simp
                                     obtain ⟨g2, hgn⟩ : ∃ g, W.heap.size = g := ⟨_, rfl⟩
                                     obtain ⟨V, hV⟩ : ∃ V, W.alloc (.cells #[] 3) = V := ⟨_, rfl⟩
                                     have hba : Below W.heap.size W V := by rw [← hV]; exact below_alloc _
                                     have xb2 : Blk V g2 3 #[] := by rw [← hV]; exact Blk.new hgn
                                     have xl2 : wb.heap.size ≤ g2 := by rw [← hgn]; exact B.size
                                     have xB := below_step B hba
                                     have xl0 := l0
                                     have xb0 := b0.below hba b0.lt
                                     refine hK.out _ _ (by rw [hV]; exact HKEEP.out _ xB) (fun hSx => ?_)
                                     clear hK K hSx hS0 B l0 b0
                                     try simp only [Act.put, pa, pz, ps]
                                     rw [hV]
                                     rw [hgn]
                                     clear hV hba hgn W
                                     obtain ⟨W, rfl⟩ : ∃ W, W = V := ⟨_, rfl⟩
                                     have B := xB
                                     clear xB
                                     have l0 := xl0
                                     clear xl0
                                     have b0 := xb0
                                     clear xb0
                                     have l2 := xl2
                                     clear xl2
                                     have b2 := xb2
                                     clear xb2
                                     revert b2
                                     revert l2
                                     revert b0
                                     revert l0
                                     revert B
                                     revert W
                                     revert g2
                                     revert g0
                                     exact rbnb0.out
                                   · skip
                                     go_simp
                                     obtain ⟨g10, hgn⟩ : ∃ g, W.heap.size = g := ⟨_, rfl⟩
                                     obtain ⟨V, hV⟩ : ∃ V, W.alloc (.cells #[.slice none 0 0, .slice none 0 0, .slice none 0 0] 29) = V := ⟨_, rfl⟩
                                     have hba : Below W.heap.size W V := by rw [← hV]; exact below_alloc _
                                     have xp10 : Blk V g10 29 #[.slice none 0 0, .slice none 0 0, .slice none 0 0] := by rw [← hV]; exact Blk.new hgn
                                     have xl10 : wb.heap.size ≤ g10 := by rw [← hgn]; exact B.size
                                     have xB := below_step B hba
                                     have xl0 := l0
                                     have xb0 := b0.below hba b0.lt
                                     refine hK.out _ _ (by rw [hV]; exact HKEEP.out _ xB) (fun hSx => ?_)
                                     clear hK K hSx hS0 B l0 b0
                                     try simp only [Act.put, pa, pz, ps]
                                     rw [hV]
                                     rw [hgn]
                                     clear hV hba hgn W
                                     obtain ⟨W, rfl⟩ : ∃ W, W = V := ⟨_, rfl⟩
                                     have B := xB
                                     clear xB
                                     have l0 := xl0
                                     clear xl0
                                     have b0 := xb0
                                     clear xb0
                                     have l10 := xl10
                                     clear xl10
                                     have p10 := xp10
                                     clear xp10
                                     revert p10
                                     revert l10
                                     revert b0
                                     revert l0
                                     revert B
                                     revert W
                                     revert g10
                                     revert g0
                                     exact rbnn1.out
                                 case prnbn0 =>
                                  refine Lib.hid ?_
                                  intro g1 W B l1 b1
                                  have hS0 := HKEEP.out _ B
                                  refine wpAnyH_ready (rs := [0, 8, 13]) (by kernel_rfl) (by simp) ?_
                                  refine (AllReadyH.cons rfl (fun K hK => ?_) (AllReadyH.cons rfl (fun K hK => ?_) (AllReadyH.cons rfl (fun K hK => ?_) AllReadyH.nil)))
                                  · skip
                                    go_simp
                                    obtain ⟨g0, hgn⟩ : ∃ g, W.heap.size = g := ⟨_, rfl⟩
                                    obtain ⟨V, hV⟩ : ∃ V, W.alloc (.cells #[] 2) = V := ⟨_, rfl⟩
                                    have hba : Below W.heap.size W V := by rw [← hV]; exact below_alloc _
                                    have xb0 : Blk V g0 2 #[] := by rw [← hV]; exact Blk.new hgn
                                    have xl0 : wb.heap.size ≤ g0 := by rw [← hgn]; exact B.size
                                    have xB := below_step B hba
                                    have xl1 := l1
                                    have xb1 := b1.below hba b1.lt
                                    have xn01 : g0 ≠ g1 := by have := b1.lt; omega
                                    refine hK.out _ _ (by rw [hV]; exact HKEEP.out _ xB) (fun hSx => ?_)
                                    clear hK K hSx hS0 B l1 b1
                                    try simp only [Act.put, pa, pz, ps]
                                    rw [hV]
                                    rw [hgn]
                                    clear hV hba hgn W
                                    obtain ⟨W, rfl⟩ : ∃ W, W = V := ⟨_, rfl⟩
                                    have B := xB
                                    clear xB
                                    have l0 := xl0
                                    clear xl0
                                    have b0 := xb0
                                    clear xb0
                                    have l1 := xl1
                                    clear xl1
                                    have b1 := xb1
                                    clear xb1
                                    have n01 := xn01
                                    clear xn01
                                    revert n01
                                    revert b1
                                    revert l1
                                    revert b0
                                    revert l0
                                    revert B
                                    revert W
                                    revert g1
                                    revert g0
                                    exact rbbn0.out
                                  · skip
                                    go_simp
                                    obtain ⟨g2, hgn⟩ : ∃ g, W.heap.size = g := ⟨_, rfl⟩
                                    obtain ⟨V, hV⟩ : ∃ V, W.alloc (.cells #[] 3) = V := ⟨_, rfl⟩
                                    have hba : Below W.heap.size W V := by rw [← hV]; exact below_alloc _
                                    have xb2 : Blk V g2 3 #[] := by rw [← hV]; exact Blk.new hgn
                                    have xl2 : wb.heap.size ≤ g2 := by rw [← hgn]; exact B.size
                                    have xB := below_step B hba
                                    have xl1 := l1
                                    have xb1 := b1.below hba b1.lt
                                    refine hK.out _ _ (by rw [hV]; exact HKEEP.out _ xB) (fun hSx => ?_)
                                    clear hK K hSx hS0 B l1 b1
                                    try simp only [Act.put, pa, pz, ps]
                                    rw [hV]
                                    rw [hgn]
                                    clear hV hba hgn W
                                    obtain ⟨W, rfl⟩ : ∃ W, W = V := ⟨_, rfl⟩
                                    have B := xB
                                    clear xB
                                    have l1 := xl1
                                    clear xl1
                                    have b1 := xb1
                                    clear xb1
                                    have l2 := xl2
                                    clear xl2
                                    have b2 := xb2
                                    clear xb2
                                    revert b2
                                    revert l2
                                    revert b1
                                    revert l1
                                    revert B
                                    revert W
                                    revert g2
                                    revert g1
                                    exact rnbb0.out
                                  · skip
                                    go_simp
                                    obtain ⟨g10, hgn⟩ : ∃ g, W.heap.size = g := ⟨_, rfl⟩
                                    obtain ⟨V, hV⟩ : ∃ V, W.alloc (.cells #[.slice none 0 0, .slice none 0 0, .slice none 0 0] 29) = V := ⟨_, rfl⟩
                                    have hba : Below W.heap.size W V := by rw [← hV]; exact below_alloc _
                                    have xp10 : Blk V g10 29 #[.slice none 0 0, .slice none 0 0, .slice none 0 0] := by rw [← hV]; exact Blk.new hgn
                                    have xl10 : wb.heap.size ≤ g10 := by rw [← hgn]; exact B.size
                                    have xB := below_step B hba
                                    have xl1 := l1
                                    have xb1 := b1.below hba b1.lt
                                    refine hK.out _ _ (by rw [hV]; exact HKEEP.out _ xB) (fun hSx => ?_)
                                    clear hK K hSx hS0 B l1 b1
                                    try simp only [Act.put, pa, pz, ps]
                                    rw [hV]
                                    rw [hgn]
                                    clear hV hba hgn W
                                    obtain ⟨W, rfl⟩ : ∃ W, W = V := ⟨_, rfl⟩
                                    have B := xB
                                    clear xB
                                    have l1 := xl1
                                    clear xl1
                                    have b1 := xb1
                                    clear xb1
                                    have l10 := xl10
                                    clear xl10
                                    have p10 := xp10
                                    clear xp10
                                    revert p10
                                    revert l10
                                    revert b1
                                    revert l1
                                    revert B
                                    revert W
                                    revert g10
                                    revert g1
                                    exact rnbn1.out
                                case prnnb0 =>
                                 refine Lib.hid ?_
                                 intro g2 W B l2 b2
                                 have hS0 := HKEEP.out _ B
                                 refine wpAnyH_ready (rs := [0, 4, 13]) (by kernel_rfl) (by simp) ?_
                                 refine (AllReadyH.cons rfl (fun K hK => ?_) (AllReadyH.cons rfl (fun K hK => ?_) (AllReadyH.cons rfl (fun K hK => ?_) AllReadyH.nil)))
                                 · skip
                                   go_simp
                                   obtain ⟨g0, hgn⟩ : ∃ g, W.heap.size = g := ⟨_, rfl⟩
                                   obtain ⟨V, hV⟩ : ∃ V, W.alloc (.cells #[] 2) = V := ⟨_, rfl⟩
                                   have hba : Below W.heap.size W V := by rw [← hV]; exact below_alloc _
                                   have xb0 : Blk V g0 2 #[] := by rw [← hV]; exact Blk.new hgn
                                   have xl0 : wb.heap.size ≤ g0 := by rw [← hgn]; exact B.size
                                   have xB := below_step B hba
                                   have xl2 := l2
                                   have xb2 := b2.below hba b2.lt
                                   refine hK.out _ _ (by rw [hV]; exact HKEEP.out _ xB) (fun hSx => ?_)
                                   clear hK K hSx hS0 B l2 b2
                                   try simp only [Act.put, pa, pz, ps]
                                   rw [hV]
                                   rw [hgn]
                                   clear hV hba hgn W
                                   obtain ⟨W, rfl⟩ : ∃ W, W = V := ⟨_, rfl⟩
                                   have B := xB
                                   clear xB
                                   have l0 := xl0
                                   clear xl0
                                   have b0 := xb0
                                   clear xb0
                                   have l2 := xl2
                                   clear xl2
                                   have b2 := xb2
                                   clear xb2
                                   revert b2
                                   revert l2
                                   revert b0
                                   revert l0
                                   revert B
                                   revert W
                                   revert g2
                                   revert g0
                                   exact rbnb0.out
                                 · skip
                                   go_simp
                                   obtain ⟨g1, hgn⟩ : ∃ g, W.heap.size = g := ⟨_, rfl⟩
                                   obtain ⟨V, hV⟩ : ∃ V, W.alloc (.cells #[] 2) = V := ⟨_, rfl⟩
                                   have hba : Below W.heap.size W V := by rw [← hV]; exact below_alloc _
                                   have xb1 : Blk V g1 2 #[] := by rw [← hV]; exact Blk.new hgn
                                   have xl1 : wb.heap.size ≤ g1 := by rw [← hgn]; exact B.size
                                   have xB := below_step B hba
                                   have xl2 := l2
                                   have xb2 := b2.below hba b2.lt
                                   refine hK.out _ _ (by rw [hV]; exact HKEEP.out _ xB) (fun hSx => ?_)
                                   clear hK K hSx hS0 B l2 b2
                                   try simp only [Act.put, pa, pz, ps]
                                   rw [hV]
                                   rw [hgn]
                                   clear hV hba hgn W
                                   obtain ⟨W, rfl⟩ : ∃ W, W = V := ⟨_, rfl⟩
                                   have B := xB
                                   clear xB
                                   have l1 := xl1
                                   clear xl1
                                   have b1 := xb1
                                   clear xb1
                                   have l2 := xl2
                                   clear xl2
                                   have b2 := xb2
                                   clear xb2
                                   revert b2
                                   revert l2
                                   revert b1
                                   revert l1
                                   revert B
                                   revert W
                                   revert g2
                                   revert g1
                                   exact rnbb0.out
                                 · skip
                                   go_simp
                                   obtain ⟨g10, hgn⟩ : ∃ g, W.heap.size = g := ⟨_, rfl⟩
                                   obtain ⟨V, hV⟩ : ∃ V, W.alloc (.cells #[.slice none 0 0, .slice none 0 0, .slice none 0 0] 29) = V := ⟨_, rfl⟩
                                   have hba : Below W.heap.size W V := by rw [← hV]; exact below_alloc _
                                   have xp10 : Blk V g10 29 #[.slice none 0 0, .slice none 0 0, .slice none 0 0] := by rw [← hV]; exact Blk.new hgn
                                   have xl10 : wb.heap.size ≤ g10 := by rw [← hgn]; exact B.size
                                   have xB := below_step B hba
                                   have xl2 := l2
                                   have xb2 := b2.below hba b2.lt
                                   refine hK.out _ _ (by rw [hV]; exact HKEEP.out _ xB) (fun hSx => ?_)
                                   clear hK K hSx hS0 B l2 b2
                                   try simp only [Act.put, pa, pz, ps]
                                   rw [hV]
                                   rw [hgn]
                                   clear hV hba hgn W
                                   obtain ⟨W, rfl⟩ : ∃ W, W = V := ⟨_, rfl⟩
                                   have B := xB
                                   clear xB
                                   have l2 := xl2
                                   clear xl2
                                   have b2 := xb2
                                   clear xb2
                                   have l10 := xl10
                                   clear xl10
                                   have p10 := xp10
                                   clear xp10
                                   revert p10
                                   revert l10
                                   revert b2
                                   revert l2
                                   revert B
                                   revert W
                                   revert g10
                                   revert g2
                                   exact rnnb1.out
                               case prnnn1 =>
                                refine Lib.hid ?_
                                intro g10 W B l10 p10
                                have hS0 := HKEEP.out _ B
                                refine wpAnyH_ready (rs := [0, 4, 8]) (by kernel_rfl) (by simp) ?_
                                refine (AllReadyH.cons rfl (fun K hK => ?_) (AllReadyH.cons rfl (fun K hK => ?_) (AllReadyH.cons rfl (fun K hK => ?_) AllReadyH.nil)))
                                · skip
                                  go_simp
                                  obtain ⟨g0, hgn⟩ : ∃ g, W.heap.size = g := ⟨_, rfl⟩
                                  obtain ⟨V, hV⟩ : ∃ V, W.alloc (.cells #[] 2) = V := ⟨_, rfl⟩
                                  have hba : Below W.heap.size W V := by rw [← hV]; exact below_alloc _
                                  have xb0 : Blk V g0 2 #[] := by rw [← hV]; exact Blk.new hgn
                                  have xl0 : wb.heap.size ≤ g0 := by rw [← hgn]; exact B.size
                                  have xB := below_step B hba
                                  have xl10 := l10
                                  have xp10 := p10.below hba p10.lt
                                  refine hK.out _ _ (by rw [hV]; exact HKEEP.out _ xB) (fun hSx => ?_)
                                  clear hK K hSx hS0 B l10 p10
                                  try simp only [Act.put, pa, pz, ps]
                                  rw [hV]
                                  rw [hgn]
                                  clear hV hba hgn W
                                  obtain ⟨W, rfl⟩ : ∃ W, W = V := ⟨_, rfl⟩
                                  have B := xB
                                  clear xB
                                  have l0 := xl0
                                  clear xl0
                                  have b0 := xb0
                                  clear xb0
                                  have l10 := xl10
                                  clear xl10
                                  have p10 := xp10
                                  clear xp10
                                  revert p10
                                  revert l10
                                  revert b0
                                  revert l0
                                  revert B
                                  revert W
                                  revert g10
                                  revert g0
                                  exact rbnn1.out
                                · skip
                                  go_simp
                                  obtain ⟨g1, hgn⟩ : ∃ g, W.heap.size = g := ⟨_, rfl⟩
                                  obtain ⟨V, hV⟩ : ∃ V, W.alloc (.cells #[] 2) = V := ⟨_, rfl⟩
                                  have hba : Below W.heap.size W V := by rw [← hV]; exact below_alloc _
                                  have xb1 : Blk V g1 2 #[] := by rw [← hV]; exact Blk.new hgn
                                  have xl1 : wb.heap.size ≤ g1 := by rw [← hgn]; exact B.size
                                  have xB := below_step B hba
                                  have xl10 := l10
                                  have xp10 := p10.below hba p10.lt
                                  refine hK.out _ _ (by rw [hV]; exact HKEEP.out _ xB) (fun hSx => ?_)
                                  clear hK K hSx hS0 B l10 p10
                                  try simp only [Act.put, pa, pz, ps]
                                  rw [hV]
                                  rw [hgn]
                                  clear hV hba hgn W
                                  obtain ⟨W, rfl⟩ : ∃ W, W = V := ⟨_, rfl⟩
                                  have B := xB
                                  clear xB
                                  have l1 := xl1
                                  clear xl1
                                  have b1 := xb1
                                  clear xb1
                                  have l10 := xl10
                                  clear xl10
                                  have p10 := xp10
                                  clear xp10
                                  revert p10
                                  revert l10
                                  revert b1
                                  revert l1
                                  revert B
                                  revert W
                                  revert g10
                                  revert g1
                                  exact rnbn1.out
                                · skip
                                  go_simp
                                  obtain ⟨g2, hgn⟩ : ∃ g, W.heap.size = g := ⟨_, rfl⟩
                                  obtain ⟨V, hV⟩ : ∃ V, W.alloc (.cells #[] 3) = V := ⟨_, rfl⟩
                                  have hba : Below W.heap.size W V := by rw [← hV]; exact below_alloc _
                                  have xb2 : Blk V g2 3 #[] := by rw [← hV]; exact Blk.new hgn
                                  have xl2 : wb.heap.size ≤ g2 := by rw [← hgn]; exact B.size
                                  have xB := below_step B hba
                                  have xl10 := l10
                                  have xp10 := p10.below hba p10.lt
                                  refine hK.out _ _ (by rw [hV]; exact HKEEP.out _ xB) (fun hSx => ?_)
                                  clear hK K hSx hS0 B l10 p10
                                  try simp only [Act.put, pa, pz, ps]
                                  rw [hV]
                                  rw [hgn]
                                  clear hV hba hgn W
                                  obtain ⟨W, rfl⟩ : ∃ W, W = V := ⟨_, rfl⟩
                                  have B := xB
                                  clear xB
                                  have l2 := xl2
                                  clear xl2
                                  have b2 := xb2
                                  clear xb2
                                  have l10 := xl10
                                  clear xl10
                                  have p10 := xp10
                                  clear xp10
                                  revert p10
                                  revert l10
                                  revert b2
                                  revert l2
                                  revert B
                                  revert W
                                  revert g10
                                  revert g2
                                  exact rnnb1.out
                              case prann0 =>
                               refine Lib.hid ?_
                               intro g0 A0 d0 W B i0
                               have hS0 := HKEEP.out _ B
                               refine wpAnyH_ready (rs := [4, 8, 13]) (by kernel_rfl) (by simp) ?_
                               refine (AllReadyH.cons rfl (fun K hK => ?_) (AllReadyH.cons rfl (fun K hK => ?_) (AllReadyH.cons rfl (fun K hK => ?_) AllReadyH.nil)))
                               · skip
                                 go_simp
                                 obtain ⟨g1, hgn⟩ : ∃ g, W.heap.size = g := ⟨_, rfl⟩
                                 obtain ⟨V, hV⟩ : ∃ V, W.alloc (.cells #[] 2) = V := ⟨_, rfl⟩
                                 have hba : Below W.heap.size W V := by rw [← hV]; exact below_alloc _
                                 have xb1 : Blk V g1 2 #[] := by rw [← hV]; exact Blk.new hgn
                                 have xl1 : wb.heap.size ≤ g1 := by rw [← hgn]; exact B.size
                                 have xB := below_step B hba
                                 have xi0 := i0.on hba
                                 refine hK.out _ _ (by rw [hV]; exact HKEEP.out _ xB) (fun hSx => ?_)
                                 clear hK K hSx hS0 B i0
                                 try simp only [Act.put, pa, pz, ps]
                                 rw [hV]
                                 rw [hgn]
                                 clear hV hba hgn W
                                 obtain ⟨W, rfl⟩ : ∃ W, W = V := ⟨_, rfl⟩
                                 have B := xB
                                 clear xB
                                 have i0 := xi0
                                 clear xi0
                                 have l1 := xl1
                                 clear xl1
                                 have b1 := xb1
                                 clear xb1
                                 revert b1
                                 revert l1
                                 revert i0
                                 revert B
                                 revert W
                                 revert g1
                                 revert d0
                                 revert A0
                                 revert g0
                                 exact rabn0.out
                               · skip
                                 go_simp
                                 obtain ⟨g2, hgn⟩ : ∃ g, W.heap.size = g := ⟨_, rfl⟩
                                 obtain ⟨V, hV⟩ : ∃ V, W.alloc (.cells #[] 3) = V := ⟨_, rfl⟩
                                 have hba : Below W.heap.size W V := by rw [← hV]; exact below_alloc _
                                 have xb2 : Blk V g2 3 #[] := by rw [← hV]; exact Blk.new hgn
                                 have xl2 : wb.heap.size ≤ g2 := by rw [← hgn]; exact B.size
                                 have xB := below_step B hba
                                 have xi0 := i0.on hba
                                 refine hK.out _ _ (by rw [hV]; exact HKEEP.out _ xB) (fun hSx => ?_)
                                 clear hK K hSx hS0 B i0
                                 try simp only [Act.put, pa, pz, ps]
                                 rw [hV]
                                 rw [hgn]
                                 clear hV hba hgn W
                                 obtain ⟨W, rfl⟩ : ∃ W, W = V := ⟨_, rfl⟩
                                 have B := xB
                                 clear xB
                                 have i0 := xi0
                                 clear xi0
                                 have l2 := xl2
                                 clear xl2
                                 have b2 := xb2
                                 clear xb2
                                 revert b2
                                 revert l2
                                 revert i0
                                 revert B
                                 revert W
                                 revert g2
                                 revert d0
                                 revert A0
                                 revert g0
                                 exact ranb0.out
                               · skip
                                 go_simp
                                 obtain ⟨g10, hgn⟩ : ∃ g, W.heap.size = g := ⟨_, rfl⟩
                                 obtain ⟨V, hV⟩ : ∃ V, W.alloc (.cells #[.slice none 0 0, .slice none 0 0, .slice none 0 0] 29) = V := ⟨_, rfl⟩
                                 have hba : Below W.heap.size W V := by rw [← hV]; exact below_alloc _
                                 have xp10 : Blk V g10 29 #[.slice none 0 0, .slice none 0 0, .slice none 0 0] := by rw [← hV]; exact Blk.new hgn
                                 have xl10 : wb.heap.size ≤ g10 := by rw [← hgn]; exact B.size
                                 have xB := below_step B hba
                                 have xi0 := i0.on hba
                                 refine hK.out _ _ (by rw [hV]; exact HKEEP.out _ xB) (fun hSx => ?_)
                                 clear hK K hSx hS0 B i0
                                 try simp only [Act.put, pa, pz, ps]
                                 rw [hV]
                                 rw [hgn]
                                 clear hV hba hgn W
                                 obtain ⟨W, rfl⟩ : ∃ W, W = V := ⟨_, rfl⟩
                                 have B := xB
                                 clear xB
                                 have i0 := xi0
                                 clear xi0
                                 have l10 := xl10
                                 clear xl10
                                 have p10 := xp10
                                 clear xp10
                                 revert p10
                                 revert l10
                                 revert i0
                                 revert B
                                 revert W
                                 revert g10
                                 revert d0
                                 revert A0
                                 revert g0
                                 exact rann1.out
                             case prbbn0 =>
                              refine Lib.hid ?_
                              intro g0 g1 W B l0 b0 l1 b1 n01
                              have hS0 := HKEEP.out _ B
                              refine wpAnyH_ready (rs := [3, 8, 13]) (by kernel_rfl) (by simp) ?_
                              refine (AllReadyH.cons rfl (fun K hK => ?_) (AllReadyH.cons rfl (fun K hK => ?_) (AllReadyH.cons rfl (fun K hK => ?_) AllReadyH.nil)))
                              · skip
                                refine Eq.mpr (if_pos (by rfl)) ?_
                                refine op_appE one_long.wide (.tmp 39) (.tmp 41) rfl b0 l0 B rfl rfl HQX.out (by omega) ?_
                                intro A0 d0 V xB hin hbl hsz xi0
                                have xl1 := l1
                                have xb1 := hbl _ _ _ b1 (fun e => n01 e.symm)
                                refine hK.out _ _ (HKEEP.out _ xB) (fun hSx => ?_)
                                clear hK K hSx hin hbl hsz hS0 B l0 b0 l1 b1 n01
                                try simp only [Act.put, pa]
                                clear W
                                obtain ⟨W, rfl⟩ : ∃ W, W = V := ⟨_, rfl⟩
                                have B := xB
                                clear xB
                                have i0 := xi0
                                clear xi0
                                have l1 := xl1
                                clear xl1
                                have b1 := xb1
                                clear xb1
                                revert b1
                                revert l1
                                revert i0
                                revert B
                                revert W
                                revert g1
                                revert d0
                                revert A0
                                revert g0
                                exact rabn0.out
                              · skip
                                go_simp
                                obtain ⟨g2, hgn⟩ : ∃ g, W.heap.size = g := ⟨_, rfl⟩
                                obtain ⟨V, hV⟩ : ∃ V, W.alloc (.cells #[] 3) = V := ⟨_, rfl⟩
                                have hba : Below W.heap.size W V := by rw [← hV]; exact below_alloc _
                                have xb2 : Blk V g2 3 #[] := by rw [← hV]; exact Blk.new hgn
                                have xl2 : wb.heap.size ≤ g2 := by rw [← hgn]; exact B.size
                                have xB := below_step B hba
                                have xl0 := l0
                                have xb0 := b0.below hba b0.lt
                                have xl1 := l1
                                have xb1 := b1.below hba b1.lt
                                have xn01 := n01
                                refine hK.out _ _ (by rw [hV]; exact HKEEP.out _ xB) (fun hSx => ?_)
                                clear hK K hSx hS0 B l0 b0 l1 b1 n01
                                try simp only [Act.put, pa, pz, ps]
                                rw [hV]
                                rw [hgn]
                                clear hV hba hgn W
                                obtain ⟨W, rfl⟩ : ∃ W, W = V := ⟨_, rfl⟩
                                have B := xB
                                clear xB
                                have l0 := xl0
                                clear xl0
                                have b0 := xb0
                                clear xb0
                                have l1 := xl1
                                clear xl1
                                have b1 := xb1
                                clear xb1
                                have l2 := xl2
                                clear xl2
                                have b2 := xb2
                                clear xb2
                                have n01 := xn01
                                clear xn01
                                revert n01
                                revert b2
                                revert l2
                                revert b1
                                revert l1
                                revert b0
                                revert l0
                                revert B
                                revert W
                                revert g2
                                revert g1
                                revert g0
                                exact rbbb0.out
                              · skip
                                go_simp
                                obtain ⟨g10, hgn⟩ : ∃ g, W.heap.size = g := ⟨_, rfl⟩
                                obtain ⟨V, hV⟩ : ∃ V, W.alloc (.cells #[.slice none 0 0, .slice none 0 0, .slice none 0 0] 29) = V := ⟨_, rfl⟩
                                have hba : Below W.heap.size W V := by rw [← hV]; exact below_alloc _
                                have xp10 : Blk V g10 29 #[.slice none 0 0, .slice none 0 0, .slice none 0 0] := by rw [← hV]; exact Blk.new hgn
                                have xl10 : wb.heap.size ≤ g10 := by rw [← hgn]; exact B.size
                                have xB := below_step B hba
                                have xl0 := l0
                                have xb0 := b0.below hba b0.lt
                                have xl1 := l1
                                have xb1 := b1.below hba b1.lt
                                have xn01 := n01
                                refine hK.out _ _ (by rw [hV]; exact HKEEP.out _ xB) (fun hSx => ?_)
                                clear hK K hSx hS0 B l0 b0 l1 b1 n01
                                try simp only [Act.put, pa, pz, ps]
                                rw [hV]
                                rw [hgn]
                                clear hV hba hgn W
                                obtain ⟨W, rfl⟩ : ∃ W, W = V := ⟨_, rfl⟩
                                have B := xB
                                clear xB
                                have l0 := xl0
                                clear xl0
                                have b0 := xb0
                                clear xb0
                                have l1 := xl1
                                clear xl1
                                have b1 := xb1
                                clear xb1
                                have n01 := xn01
                                clear xn01
                                have l10 := xl10
                                clear xl10
                                have p10 := xp10
                                clear xp10
                                revert p10
                                revert l10
                                revert n01
                                revert b1
                                revert l1
                                revert b0
                                revert l0
                                revert B
                                revert W
                                revert g10
                                revert g1
                                revert g0
                                exact rbbn1.out
                            case prbnb0 =>
                             refine Lib.hid ?_
                             intro g0 g2 W B l0 b0 l2 b2
                             have hS0 := HKEEP.out _ B
                             refine wpAnyH_ready (rs := [3, 4, 13]) (by kernel_rfl) (by simp) ?_
                             refine (AllReadyH.cons rfl (fun K hK => ?_) (AllReadyH.cons rfl (fun K hK => ?_) (AllReadyH.cons rfl (fun K hK => ?_) AllReadyH.nil)))
                             · skip
                               refine Eq.mpr (if_pos (by rfl)) ?_
                               refine op_appE one_long.wide (.tmp 39) (.tmp 41) rfl b0 l0 B rfl rfl HQX.out (by omega) ?_
                               intro A0 d0 V xB hin hbl hsz xi0
                               have xl2 := l2
                               have xb2 := hbl _ _ _ b2 (blk_ne b2 b0 (by decide))
                               refine hK.out _ _ (HKEEP.out _ xB) (fun hSx => ?_)
                               clear hK K hSx hin hbl hsz hS0 B l0 b0 l2 b2
                               try simp only [Act.put, pa]
                               clear W
                               obtain ⟨W, rfl⟩ : ∃ W, W = V := ⟨_, rfl⟩
                               have B := xB
                               clear xB
                               have i0 := xi0
                               clear xi0
                               have l2 := xl2
                               clear xl2
                               have b2 := xb2
                               clear xb2
                               revert b2
                               revert l2
                               revert i0
                               revert B
                               revert W
                               revert g2
                               revert d0
                               revert A0
                               revert g0
                               exact ranb0.out
                             · skip
                               go_simp
                               obtain ⟨g1, hgn⟩ : ∃ g, W.heap.size = g := ⟨_, rfl⟩
                               obtain ⟨V, hV⟩ : ∃ V, W.alloc (.cells #[] 2) = V := ⟨_, rfl⟩
                               have hba : Below W.heap.size W V := by rw [← hV]; exact below_alloc _
                               have xb1 : Blk V g1 2 #[] := by rw [← hV]; exact Blk.new hgn
                               have xl1 : wb.heap.size ≤ g1 := by rw [← hgn]; exact B.size
                               have xB := below_step B hba
                               have xl0 := l0
                               have xb0 := b0.below hba b0.lt
                               have xl2 := l2
                               have xb2 := b2.below hba b2.lt
                               have xn01 : g0 ≠ g1 := by have := b0.lt; omega
                               refine hK.out _ _ (by rw [hV]; exact HKEEP.out _ xB) (fun hSx => ?_)
                               clear hK K hSx hS0 B l0 b0 l2 b2
                               try simp only [Act.put, pa, pz, ps]
                               rw [hV]
                               rw [hgn]
                               clear hV hba hgn W
                               obtain ⟨W, rfl⟩ : ∃ W, W = V := ⟨_, rfl⟩
                               have B := xB
                               clear xB
                               have l0 := xl0
                               clear xl0
                               have b0 := xb0
                               clear xb0
                               have l1 := xl1
                               clear xl1
                               have b1 := xb1
                               clear xb1
                               have l2 := xl2
                               clear xl2
                               have b2 := xb2
                               clear xb2
                               have n01 := xn01
                               clear xn01
                               revert n01
                               revert b2
                               revert l2
                               revert b1
                               revert l1
                               revert b0
                               revert l0
                               revert B
                               revert W
                               revert g2
                               revert g1
                               revert g0
                               exact rbbb0.out
                             · skip
                               go_simp
                               obtain ⟨g10, hgn⟩ : ∃ g, W.heap.size = g := ⟨_, rfl⟩
                               obtain ⟨V, hV⟩ : ∃ V, W.alloc (.cells #[.slice none 0 0, .slice none 0 0, .slice none 0 0] 29) = V := ⟨_, rfl⟩
                               have hba : Below W.heap.size W V := by rw [← hV]; exact below_alloc _
                               have xp10 : Blk V g10 29 #[.slice none 0 0, .slice none 0 0, .slice none 0 0] := by rw [← hV]; exact Blk.new hgn
                               have xl10 : wb.heap.size ≤ g10 := by rw [← hgn]; exact B.size
                               have xB := below_step B hba
                               have xl0 := l0
                               have xb0 := b0.below hba b0.lt
                               have xl2 := l2
                               have xb2 := b2.below hba b2.lt
                               refine hK.out _ _ (by rw [hV]; exact HKEEP.out _ xB) (fun hSx => ?_)
                               clear hK K hSx hS0 B l0 b0 l2 b2
                               try simp only [Act.put, pa, pz, ps]
                               rw [hV]
                               rw [hgn]
                               clear hV hba hgn W
                               obtain ⟨W, rfl⟩ : ∃ W, W = V := ⟨_, rfl⟩
                               have B := xB
                               clear xB
                               have l0 := xl0
                               clear xl0
                               have b0 := xb0
                               clear xb0
                               have l2 := xl2
                               clear xl2
                               have b2 := xb2
                               clear xb2
                               have l10 := xl10
                               clear xl10
                               have p10 := xp10
                               clear xp10
                               revert p10
                               revert l10
                               revert b2
                               revert l2
                               revert b0
                               revert l0
                               revert B
                               revert W
                               revert g10
                               revert g2
                               revert g0
                               exact rbnb1.out
                           case prbnn1 =>
                            refine Lib.hid ?_
                            intro g0 g10 W B l0 b0 l10 p10
                            have hS0 := HKEEP.out _ B
                            refine wpAnyH_ready (rs := [3, 4, 8]) (by kernel_rfl) (by simp) ?_
                            refine (AllReadyH.cons rfl (fun K hK => ?_) (AllReadyH.cons rfl (fun K hK => ?_) (AllReadyH.cons rfl (fun K hK => ?_) AllReadyH.nil)))
                            · skip
                              refine Eq.mpr (if_pos (by rfl)) ?_
                              refine op_appE one_long.wide (.tmp 39) (.tmp 41) rfl b0 l0 B rfl rfl HQX.out (by omega) ?_
                              intro A0 d0 V xB hin hbl hsz xi0
                              have xl10 := l10
                              have xp10 := hbl _ _ _ p10 (blk_ne p10 b0 (by decide))
                              refine hK.out _ _ (HKEEP.out _ xB) (fun hSx => ?_)
                              clear hK K hSx hin hbl hsz hS0 B l0 b0 l10 p10
                              try simp only [Act.put, pa]
                              clear W
                              obtain ⟨W, rfl⟩ : ∃ W, W = V := ⟨_, rfl⟩
                              have B := xB
                              clear xB
                              have i0 := xi0
                              clear xi0
                              have l10 := xl10
                              clear xl10
                              have p10 := xp10
                              clear xp10
                              revert p10
                              revert l10
                              revert i0
                              revert B
                              revert W
                              revert g10
                              revert d0
                              revert A0
                              revert g0
                              exact rann1.out
                            · skip
                              go_simp
                              obtain ⟨g1, hgn⟩ : ∃ g, W.heap.size = g := ⟨_, rfl⟩
                              obtain ⟨V, hV⟩ : ∃ V, W.alloc (.cells #[] 2) = V := ⟨_, rfl⟩
                              have hba : Below W.heap.size W V := by rw [← hV]; exact below_alloc _
                              have xb1 : Blk V g1 2 #[] := by rw [← hV]; exact Blk.new hgn
                              have xl1 : wb.heap.size ≤ g1 := by rw [← hgn]; exact B.size
                              have xB := below_step B hba
                              have xl0 := l0
                              have xb0 := b0.below hba b0.lt
                              have xn01 : g0 ≠ g1 := by have := b0.lt; omega
                              have xl10 := l10
                              have xp10 := p10.below hba p10.lt
                              refine hK.out _ _ (by rw [hV]; exact HKEEP.out _ xB) (fun hSx => ?_)
                              clear hK K hSx hS0 B l0 b0 l10 p10
                              try simp only [Act.put, pa, pz, ps]
                              rw [hV]
                              rw [hgn]
                              clear hV hba hgn W
                              obtain ⟨W, rfl⟩ : ∃ W, W = V := ⟨_, rfl⟩
                              have B := xB
                              clear xB
                              have l0 := xl0
                              clear xl0
                              have b0 := xb0
                              clear xb0
                              have l1 := xl1
                              clear xl1
                              have b1 := xb1
                              clear xb1
                              have n01 := xn01
                              clear xn01
                              have l10 := xl10
                              clear xl10
                              have p10 := xp10
                              clear xp10
                              revert p10
                              revert l10
                              revert n01
                              revert b1
                              revert l1
                              revert b0
                              revert l0
                              revert B
                              revert W
                              revert g10
                              revert g1
                              revert g0
                              exact rbbn1.out
                            · skip
                              go_simp
                              obtain ⟨g2, hgn⟩ : ∃ g, W.heap.size = g := ⟨_, rfl⟩
                              obtain ⟨V, hV⟩ : ∃ V, W.alloc (.cells #[] 3) = V := ⟨_, rfl⟩
                              have hba : Below W.heap.size W V := by rw [← hV]; exact below_alloc _
                              have xb2 : Blk V g2 3 #[] := by rw [← hV]; exact Blk.new hgn
                              have xl2 : wb.heap.size ≤ g2 := by rw [← hgn]; exact B.size
                              have xB := below_step B hba
                              have xl0 := l0
                              have xb0 := b0.below hba b0.lt
                              have xl10 := l10
                              have xp10 := p10.below hba p10.lt
                              refine hK.out _ _ (by rw [hV]; exact HKEEP.out _ xB) (fun hSx => ?_)
                              clear hK K hSx hS0 B l0 b0 l10 p10
                              try simp only [Act.put, pa, pz, ps]
                              rw [hV]
                              rw [hgn]
                              clear hV hba hgn W
                              obtain ⟨W, rfl⟩ : ∃ W, W = V := ⟨_, rfl⟩
                              have B := xB
                              clear xB
                              have l0 := xl0
                              clear xl0
                              have b0 := xb0
                              clear xb0
                              have l2 := xl2
                              clear xl2
                              have b2 := xb2
                              clear xb2
                              have l10 := xl10
                              clear xl10
                              have p10 := xp10
                              clear xp10
                              revert p10
                              revert l10
                              revert b2
                              revert l2
                              revert b0
                              revert l0
                              revert B
                              revert W
                              revert g10
                              revert g2
                              revert g0
                              exact rbnb1.out
                          case prnbb0 =>
                           refine Lib.hid ?_
                           intro g1 g2 W B l1 b1 l2 b2
                           have hS0 := HKEEP.out _ B
                           refine wpAnyH_ready (rs := [0, 13]) (by kernel_rfl) (by simp) ?_
                           refine (AllReadyH.cons rfl (fun K hK => ?_) (AllReadyH.cons rfl (fun K hK => ?_) AllReadyH.nil))
                           · skip
                             go_simp
                             obtain ⟨g0, hgn⟩ : ∃ g, W.heap.size = g := ⟨_, rfl⟩
                             obtain ⟨V, hV⟩ : ∃ V, W.alloc (.cells #[] 2) = V := ⟨_, rfl⟩
                             have hba : Below W.heap.size W V := by rw [← hV]; exact below_alloc _
                             have xb0 : Blk V g0 2 #[] := by rw [← hV]; exact Blk.new hgn
                             have xl0 : wb.heap.size ≤ g0 := by rw [← hgn]; exact B.size
                             have xB := below_step B hba
                             have xl1 := l1
                             have xb1 := b1.below hba b1.lt
                             have xl2 := l2
                             have xb2 := b2.below hba b2.lt
                             have xn01 : g0 ≠ g1 := by have := b1.lt; omega
                             refine hK.out _ _ (by rw [hV]; exact HKEEP.out _ xB) (fun hSx => ?_)
                             clear hK K hSx hS0 B l1 b1 l2 b2
                             try simp only [Act.put, pa, pz, ps]
                             rw [hV]
                             rw [hgn]
                             clear hV hba hgn W
                             obtain ⟨W, rfl⟩ : ∃ W, W = V := ⟨_, rfl⟩
                             have B := xB
                             clear xB
                             have l0 := xl0
                             clear xl0
                             have b0 := xb0
                             clear xb0
                             have l1 := xl1
                             clear xl1
                             have b1 := xb1
                             clear xb1
                             have l2 := xl2
                             clear xl2
                             have b2 := xb2
                             clear xb2
                             have n01 := xn01
                             clear xn01
                             revert n01
                             revert b2
                             revert l2
                             revert b1
                             revert l1
                             revert b0
                             revert l0
                             revert B
                             revert W
                             revert g2
                             revert g1
                             revert g0
                             exact rbbb0.out
                           · skip
                             go_simp
                             obtain ⟨g10, hgn⟩ : ∃ g, W.heap.size = g := ⟨_, rfl⟩
                             obtain ⟨V, hV⟩ : ∃ V, W.alloc (.cells #[.slice none 0 0, .slice none 0 0, .slice none 0 0] 29) = V := ⟨_, rfl⟩
                             have hba : Below W.heap.size W V := by rw [← hV]; exact below_alloc _
                             have xp10 : Blk V g10 29 #[.slice none 0 0, .slice none 0 0, .slice none 0 0] := by rw [← hV]; exact Blk.new hgn
                             have xl10 : wb.heap.size ≤ g10 := by rw [← hgn]; exact B.size
                             have xB := below_step B hba
                             have xl1 := l1
                             have xb1 := b1.below hba b1.lt
                             have xl2 := l2
                             have xb2 := b2.below hba b2.lt
                             refine hK.out _ _ (by rw [hV]; exact HKEEP.out _ xB) (fun hSx => ?_)
                             clear hK K hSx hS0 B l1 b1 l2 b2
                             try simp only [Act.put, pa, pz, ps]
                             rw [hV]
                             rw [hgn]
                             clear hV hba hgn W
                             obtain ⟨W, rfl⟩ : ∃ W, W = V := ⟨_, rfl⟩
                             have B := xB
                             clear xB
                             have l1 := xl1
                             clear xl1
                             have b1 := xb1
                             clear xb1
                             have l2 := xl2
                             clear xl2
                             have b2 := xb2
                             clear xb2
                             have l10 := xl10
                             clear xl10
                             have p10 := xp10
                             clear xp10
                             revert p10
                             revert l10
                             revert b2
                             revert l2
                             revert b1
                             revert l1
                             revert B
                             revert W
                             revert g10
                             revert g2
                             revert g1
                             exact rnbb1.out
                         case prnbn1 =>
                          refine Lib.hid ?_
                          intro g1 g10 W B l1 b1 l10 p10
                          have hS0 := HKEEP.out _ B
                          refine wpAnyH_ready (rs := [0, 8]) (by kernel_rfl) (by simp) ?_
                          refine (AllReadyH.cons rfl (fun K hK => ?_) (AllReadyH.cons rfl (fun K hK => ?_) AllReadyH.nil))
                          · skip
                            go_simp
                            obtain ⟨g0, hgn⟩ : ∃ g, W.heap.size = g := ⟨_, rfl⟩
                            obtain ⟨V, hV⟩ : ∃ V, W.alloc (.cells #[] 2) = V := ⟨_, rfl⟩
                            have hba : Below W.heap.size W V := by rw [← hV]; exact below_alloc _
                            have xb0 : Blk V g0 2 #[] := by rw [← hV]; exact Blk.new hgn
                            have xl0 : wb.heap.size ≤ g0 := by rw [← hgn]; exact B.size
                            have xB := below_step B hba
                            have xl1 := l1
                            have xb1 := b1.below hba b1.lt
                            have xn01 : g0 ≠ g1 := by have := b1.lt; omega
                            have xl10 := l10
                            have xp10 := p10.below hba p10.lt
                            refine hK.out _ _ (by rw [hV]; exact HKEEP.out _ xB) (fun hSx => ?_)
                            clear hK K hSx hS0 B l1 b1 l10 p10
                            try simp only [Act.put, pa, pz, ps]
                            rw [hV]
                            rw [hgn]
                            clear hV hba hgn W
                            obtain ⟨W, rfl⟩ : ∃ W, W = V := ⟨_, rfl⟩
                            have B := xB
                            clear xB
                            have l0 := xl0
                            clear xl0
                            have b0 := xb0
                            clear xb0
                            have l1 := xl1
                            clear xl1
                            have b1 := xb1
                            clear xb1
                            have n01 := xn01
                            clear xn01
                            have l10 := xl10
                            clear xl10
                            have p10 := xp10
                            clear xp10
                            revert p10
                            revert l10
                            revert n01
                            revert b1
                            revert l1
                            revert b0
                            revert l0
                            revert B
                            revert W
                            revert g10
                            revert g1
                            revert g0
                            exact rbbn1.out
                          · skip
                            go_simp
                            obtain ⟨g2, hgn⟩ : ∃ g, W.heap.size = g := ⟨_, rfl⟩
                            obtain ⟨V, hV⟩ : ∃ V, W.alloc (.cells #[] 3) = V := ⟨_, rfl⟩
                            have hba : Below W.heap.size W V := by rw [← hV]; exact below_alloc _
                            have xb2 : Blk V g2 3 #[] := by rw [← hV]; exact Blk.new hgn
                            have xl2 : wb.heap.size ≤ g2 := by rw [← hgn]; exact B.size
                            have xB := below_step B hba
                            have xl1 := l1
                            have xb1 := b1.below hba b1.lt
                            have xl10 := l10
                            have xp10 := p10.below hba p10.lt
                            refine hK.out _ _ (by rw [hV]; exact HKEEP.out _ xB) (fun hSx => ?_)
                            clear hK K hSx hS0 B l1 b1 l10 p10
                            try simp only [Act.put, pa, pz, ps]
                            rw [hV]
                            rw [hgn]
                            clear hV hba hgn W
                            obtain ⟨W, rfl⟩ : ∃ W, W = V := ⟨_, rfl⟩
                            have B := xB
                            clear xB
                            have l1 := xl1
                            clear xl1
                            have b1 := xb1
                            clear xb1
                            have l2 := xl2
                            clear xl2
                            have b2 := xb2
                            clear xb2
                            have l10 := xl10
                            clear xl10
                            have p10 := xp10
                            clear xp10
                            revert p10
                            revert l10
                            revert b2
                            revert l2
                            revert b1
                            revert l1
                            revert B
                            revert W
                            revert g10
                            revert g2
                            revert g1
                            exact rnbb1.out
                        case prnnb1 =>
                         refine Lib.hid ?_
                         intro g2 g10 W B l2 b2 l10 p10
                         have hS0 := HKEEP.out _ B
                         refine wpAnyH_ready (rs := [0, 4]) (by kernel_rfl) (by simp) ?_
                         refine (AllReadyH.cons rfl (fun K hK => ?_) (AllReadyH.cons rfl (fun K hK => ?_) AllReadyH.nil))
                         · skip
                           go_simp
                           obtain ⟨g0, hgn⟩ : ∃ g, W.heap.size = g := ⟨_, rfl⟩
                           obtain ⟨V, hV⟩ : ∃ V, W.alloc (.cells #[] 2) = V := ⟨_, rfl⟩
                           have hba : Below W.heap.size W V := by rw [← hV]; exact below_alloc _
                           have xb0 : Blk V g0 2 #[] := by rw [← hV]; exact Blk.new hgn
                           have xl0 : wb.heap.size ≤ g0 := by rw [← hgn]; exact B.size
                           have xB := below_step B hba
                           have xl2 := l2
                           have xb2 := b2.below hba b2.lt
                           have xl10 := l10
                           have xp10 := p10.below hba p10.lt
                           refine hK.out _ _ (by rw [hV]; exact HKEEP.out _ xB) (fun hSx => ?_)
                           clear hK K hSx hS0 B l2 b2 l10 p10
                           try simp only [Act.put, pa, pz, ps]
                           rw [hV]
                           rw [hgn]
                           clear hV hba hgn W
                           obtain ⟨W, rfl⟩ : ∃ W, W = V := ⟨_, rfl⟩
                           have B := xB
                           clear xB
                           have l0 := xl0
                           clear xl0
                           have b0 := xb0
                           clear xb0
                           have l2 := xl2
                           clear xl2
                           have b2 := xb2
                           clear xb2
                           have l10 := xl10
                           clear xl10
                           have p10 := xp10
                           clear xp10
                           revert p10
                           revert l10
                           revert b2
                           revert l2
                           revert b0
                           revert l0
                           revert B
                           revert W
                           revert g10
                           revert g2
                           revert g0
                           exact rbnb1.out
                         · skip
                           go_simp
                           obtain ⟨g1, hgn⟩ : ∃ g, W.heap.size = g := ⟨_, rfl⟩
                           obtain ⟨V, hV⟩ : ∃ V, W.alloc (.cells #[] 2) = V := ⟨_, rfl⟩
                           have hba : Below W.heap.size W V := by rw [← hV]; exact below_alloc _
                           have xb1 : Blk V g1 2 #[] := by rw [← hV]; exact Blk.new hgn
                           have xl1 : wb.heap.size ≤ g1 := by rw [← hgn]; exact B.size
                           have xB := below_step B hba
                           have xl2 := l2
                           have xb2 := b2.below hba b2.lt
                           have xl10 := l10
                           have xp10 := p10.below hba p10.lt
                           refine hK.out _ _ (by rw [hV]; exact HKEEP.out _ xB) (fun hSx => ?_)
                           clear hK K hSx hS0 B l2 b2 l10 p10
                           try simp only [Act.put, pa, pz, ps]
                           rw [hV]
                           rw [hgn]
                           clear hV hba hgn W
                           obtain ⟨W, rfl⟩ : ∃ W, W = V := ⟨_, rfl⟩
                           have B := xB
                           clear xB
                           have l1 := xl1
                           clear xl1
                           have b1 := xb1
                           clear xb1
                           have l2 := xl2
                           clear xl2
                           have b2 := xb2
                           clear xb2
                           have l10 := xl10
                           clear xl10
                           have p10 := xp10
                           clear xp10
                           revert p10
                           revert l10
                           revert b2
                           revert l2
                           revert b1
                           revert l1
                           revert B
                           revert W
                           revert g10
                           revert g2
                           revert g1
                           exact rnbb1.out
                       case prabn0 =>
                        refine Lib.hid ?_
                        intro g0 A0 d0 g1 W B i0 l1 b1
                        have hS0 := HKEEP.out _ B
                        refine wpAnyH_ready (rs := [7, 8, 13]) (by kernel_rfl) (by simp) ?_
                        refine (AllReadyH.cons rfl (fun K hK => ?_) (AllReadyH.cons rfl (fun K hK => ?_) (AllReadyH.cons rfl (fun K hK => ?_) AllReadyH.nil)))
                        · skip
                          refine Eq.mpr (if_pos (by rfl)) ?_
                          refine op_appE one_long.wide (.tmp 43) (.tmp 45) rfl b1 l1 B rfl rfl HQE.out (by omega) ?_
                          intro A1 d1 V xB hin hbl hsz xi1
                          have xi0 := hin _ _ _ i0
                          refine hK.out _ _ (HKEEP.out _ xB) (fun hSx => ?_)
                          clear hK K hSx hin hbl hsz hS0 B i0 l1 b1
                          try simp only [Act.put, pa]
                          clear W
                          obtain ⟨W, rfl⟩ : ∃ W, W = V := ⟨_, rfl⟩
                          have B := xB
                          clear xB
                          have i0 := xi0
                          clear xi0
                          have i1 := xi1
                          clear xi1
                          revert i1
                          revert i0
                          revert B
                          revert W
                          revert d1
                          revert A1
                          revert g1
                          revert d0
                          revert A0
                          revert g0
                          exact raan0.out
                        · skip
                          go_simp
                          obtain ⟨g2, hgn⟩ : ∃ g, W.heap.size = g := ⟨_, rfl⟩
                          obtain ⟨V, hV⟩ : ∃ V, W.alloc (.cells #[] 3) = V := ⟨_, rfl⟩
                          have hba : Below W.heap.size W V := by rw [← hV]; exact below_alloc _
                          have xb2 : Blk V g2 3 #[] := by rw [← hV]; exact Blk.new hgn
                          have xl2 : wb.heap.size ≤ g2 := by rw [← hgn]; exact B.size
                          have xB := below_step B hba
                          have xi0 := i0.on hba
                          have xl1 := l1
                          have xb1 := b1.below hba b1.lt
                          refine hK.out _ _ (by rw [hV]; exact HKEEP.out _ xB) (fun hSx => ?_)
                          clear hK K hSx hS0 B i0 l1 b1
                          try simp only [Act.put, pa, pz, ps]
                          rw [hV]
                          rw [hgn]
                          clear hV hba hgn W
                          obtain ⟨W, rfl⟩ : ∃ W, W = V := ⟨_, rfl⟩
                          have B := xB
                          clear xB
                          have i0 := xi0
                          clear xi0
                          have l1 := xl1
                          clear xl1
                          have b1 := xb1
                          clear xb1
                          have l2 := xl2
                          clear xl2
                          have b2 := xb2
                          clear xb2
                          revert b2
                          revert l2
                          revert b1
                          revert l1
                          revert i0
                          revert B
                          revert W
                          revert g2
                          revert g1
                          revert d0
                          revert A0
                          revert g0
                          exact rabb0.out
                        · skip
                          go_simp
                          obtain ⟨g10, hgn⟩ : ∃ g, W.heap.size = g := ⟨_, rfl⟩
                          obtain ⟨V, hV⟩ : ∃ V, W.alloc (.cells #[.slice none 0 0, .slice none 0 0, .slice none 0 0] 29) = V := ⟨_, rfl⟩
                          have hba : Below W.heap.size W V := by rw [← hV]; exact below_alloc _
                          have xp10 : Blk V g10 29 #[.slice none 0 0, .slice none 0 0, .slice none 0 0] := by rw [← hV]; exact Blk.new hgn
                          have xl10 : wb.heap.size ≤ g10 := by rw [← hgn]; exact B.size
                          have xB := below_step B hba
                          have xi0 := i0.on hba
                          have xl1 := l1
                          have xb1 := b1.below hba b1.lt
                          refine hK.out _ _ (by rw [hV]; exact HKEEP.out _ xB) (fun hSx => ?_)
                          clear hK K hSx hS0 B i0 l1 b1
                          try simp only [Act.put, pa, pz, ps]
                          rw [hV]
                          rw [hgn]
                          clear hV hba hgn W
                          obtain ⟨W, rfl⟩ : ∃ W, W = V := ⟨_, rfl⟩
                          have B := xB
                          clear xB
                          have i0 := xi0
                          clear xi0
                          have l1 := xl1
                          clear xl1
                          have b1 := xb1
                          clear xb1
                          have l10 := xl10
                          clear xl10
                          have p10 := xp10
                          clear xp10
                          revert p10
                          revert l10
                          revert b1
                          revert l1
                          revert i0
                          revert B
                          revert W
                          revert g10
                          revert g1
                          revert d0
                          revert A0
                          revert g0
                          exact rabn1.out
                      case pranb0 =>
                       refine Lib.hid ?_
                       intro g0 A0 d0 g2 W B i0 l2 b2
                       have hS0 := HKEEP.out _ B
                       refine wpAnyH_ready (rs := [4, 13]) (by kernel_rfl) (by simp) ?_
                       refine (AllReadyH.cons rfl (fun K hK => ?_) (AllReadyH.cons rfl (fun K hK => ?_) AllReadyH.nil))
                       · skip
                         go_simp
                         obtain ⟨g1, hgn⟩ : ∃ g, W.heap.size = g := ⟨_, rfl⟩
                         obtain ⟨V, hV⟩ : ∃ V, W.alloc (.cells #[] 2) = V := ⟨_, rfl⟩
                         have hba : Below W.heap.size W V := by rw [← hV]; exact below_alloc _
                         have xb1 : Blk V g1 2 #[] := by rw [← hV]; exact Blk.new hgn
                         have xl1 : wb.heap.size ≤ g1 := by rw [← hgn]; exact B.size
                         have xB := below_step B hba
                         have xi0 := i0.on hba
                         have xl2 := l2
                         have xb2 := b2.below hba b2.lt
                         refine hK.out _ _ (by rw [hV]; exact HKEEP.out _ xB) (fun hSx => ?_)
                         clear hK K hSx hS0 B i0 l2 b2
                         try simp only [Act.put, pa, pz, ps]
                         rw [hV]
                         rw [hgn]
                         clear hV hba hgn W
                         obtain ⟨W, rfl⟩ : ∃ W, W = V := ⟨_, rfl⟩
                         have B := xB
                         clear xB
                         have i0 := xi0
                         clear xi0
                         have l1 := xl1
                         clear xl1
                         have b1 := xb1
                         clear xb1
                         have l2 := xl2
                         clear xl2
                         have b2 := xb2
                         clear xb2
                         revert b2
                         revert l2
                         revert b1
                         revert l1
                         revert i0
                         revert B
                         revert W
                         revert g2
                         revert g1
                         revert d0
                         revert A0
                         revert g0
                         exact rabb0.out
                       · skip
                         go_simp
                         obtain ⟨g10, hgn⟩ : ∃ g, W.heap.size = g := ⟨_, rfl⟩
                         obtain ⟨V, hV⟩ : ∃ V, W.alloc (.cells #[.slice none 0 0, .slice none 0 0, .slice none 0 0] 29) = V := ⟨_, rfl⟩
                         have hba : Below W.heap.size W V := by rw [← hV]; exact below_alloc _
                         have xp10 : Blk V g10 29 #[.slice none 0 0, .slice none 0 0, .slice none 0 0] := by rw [← hV]; exact Blk.new hgn
                         have xl10 : wb.heap.size ≤ g10 := by rw [← hgn]; exact B.size
                         have xB := below_step B hba
                         have xi0 := i0.on hba
                         have xl2 := l2
                         have xb2 := b2.below hba b2.lt
                         refine hK.out _ _ (by rw [hV]; exact HKEEP.out _ xB) (fun hSx => ?_)
                         clear hK K hSx hS0 B i0 l2 b2
                         try simp only [Act.put, pa, pz, ps]
                         rw [hV]
                         rw [hgn]
                         clear hV hba hgn W
                         obtain ⟨W, rfl⟩ : ∃ W, W = V := ⟨_, rfl⟩
                         have B := xB
                         clear xB
                         have i0 := xi0
                         clear xi0
                         have l2 := xl2
                         clear xl2
                         have b2 := xb2
                         clear xb2
                         have l10 := xl10
                         clear xl10
                         have p10 := xp10
                         clear xp10
                         revert p10
                         revert l10
                         revert b2
                         revert l2
                         revert i0
                         revert B
                         revert W
                         revert g10
                         revert g2
                         revert d0
                         revert A0
                         revert g0
                         exact ranb1.out
                     case prann1 =>
                      refine Lib.hid ?_
                      intro g0 A0 d0 g10 W B i0 l10 p10
                      have hS0 := HKEEP.out _ B
                      refine wpAnyH_ready (rs := [4, 8]) (by kernel_rfl) (by simp) ?_
                      refine (AllReadyH.cons rfl (fun K hK => ?_) (AllReadyH.cons rfl (fun K hK => ?_) AllReadyH.nil))
                      · skip
                        go_simp
                        obtain ⟨g1, hgn⟩ : ∃ g, W.heap.size = g := ⟨_, rfl⟩
                        obtain ⟨V, hV⟩ : ∃ V, W.alloc (.cells #[] 2) = V := ⟨_, rfl⟩
                        have hba : Below W.heap.size W V := by rw [← hV]; exact below_alloc _
                        have xb1 : Blk V g1 2 #[] := by rw [← hV]; exact Blk.new hgn
                        have xl1 : wb.heap.size ≤ g1 := by rw [← hgn]; exact B.size
                        have xB := below_step B hba
                        have xi0 := i0.on hba
                        have xl10 := l10
                        have xp10 := p10.below hba p10.lt
                        refine hK.out _ _ (by rw [hV]; exact HKEEP.out _ xB) (fun hSx => ?_)
                        clear hK K hSx hS0 B i0 l10 p10
                        try simp only [Act.put, pa, pz, ps]
                        rw [hV]
                        rw [hgn]
                        clear hV hba hgn W
                        obtain ⟨W, rfl⟩ : ∃ W, W = V := ⟨_, rfl⟩
                        have B := xB
                        clear xB
                        have i0 := xi0
                        clear xi0
                        have l1 := xl1
                        clear xl1
                        have b1 := xb1
                        clear xb1
                        have l10 := xl10
                        clear xl10
                        have p10 := xp10
                        clear xp10
                        revert p10
                        revert l10
                        revert b1
                        revert l1
                        revert i0
                        revert B
                        revert W
                        revert g10
                        revert g1
                        revert d0
                        revert A0
                        revert g0
                        exact rabn1.out
                      · skip
                        go_simp
                        obtain ⟨g2, hgn⟩ : ∃ g, W.heap.size = g := ⟨_, rfl⟩
                        obtain ⟨V, hV⟩ : ∃ V, W.alloc (.cells #[] 3) = V := ⟨_, rfl⟩
                        have hba : Below W.heap.size W V := by rw [← hV]; exact below_alloc _
                        have xb2 : Blk V g2 3 #[] := by rw [← hV]; exact Blk.new hgn
                        have xl2 : wb.heap.size ≤ g2 := by rw [← hgn]; exact B.size
                        have xB := below_step B hba
                        have xi0 := i0.on hba
                        have xl10 := l10
                        have xp10 := p10.below hba p10.lt
                        refine hK.out _ _ (by rw [hV]; exact HKEEP.out _ xB) (fun hSx => ?_)
                        clear hK K hSx hS0 B i0 l10 p10
                        try simp only [Act.put, pa, pz, ps]
                        rw [hV]
                        rw [hgn]
                        clear hV hba hgn W
                        obtain ⟨W, rfl⟩ : ∃ W, W = V := ⟨_, rfl⟩
                        have B := xB
                        clear xB
                        have i0 := xi0
                        clear xi0
                        have l2 := xl2
                        clear xl2
                        have b2 := xb2
                        clear xb2
                        have l10 := xl10
                        clear xl10
                        have p10 := xp10
                        clear xp10
                        revert p10
                        revert l10
                        revert b2
                        revert l2
                        revert i0
                        revert B
                        revert W
                        revert g10
                        revert g2
                        revert d0
                        revert A0
                        revert g0
                        exact ranb1.out
                    case prbbb0 =>
                     refine Lib.hid ?_
                     intro g0 g1 g2 W B l0 b0 l1 b1 l2 b2 n01
                     have hS0 := HKEEP.out _ B
                     refine wpAnyH_ready (rs := [3, 13]) (by kernel_rfl) (by simp) ?_
                     refine (AllReadyH.cons rfl (fun K hK => ?_) (AllReadyH.cons rfl (fun K hK => ?_) AllReadyH.nil))
                     · skip
                       refine Eq.mpr (if_pos (by rfl)) ?_
                       refine op_appE one_long.wide (.tmp 39) (.tmp 41) rfl b0 l0 B rfl rfl HQX.out (by omega) ?_
                       intro A0 d0 V xB hin hbl hsz xi0
                       have xl1 := l1
                       have xb1 := hbl _ _ _ b1 (fun e => n01 e.symm)
                       have xl2 := l2
                       have xb2 := hbl _ _ _ b2 (blk_ne b2 b0 (by decide))
                       refine hK.out _ _ (HKEEP.out _ xB) (fun hSx => ?_)
                       clear hK K hSx hin hbl hsz hS0 B l0 b0 l1 b1 l2 b2 n01
                       try simp only [Act.put, pa]
                       clear W
                       obtain ⟨W, rfl⟩ : ∃ W, W = V := ⟨_, rfl⟩
                       have B := xB
                       clear xB
                       have i0 := xi0
                       clear xi0
                       have l1 := xl1
                       clear xl1
                       have b1 := xb1
                       clear xb1
                       have l2 := xl2
                       clear xl2
                       have b2 := xb2
                       clear xb2
                       revert b2
                       revert l2
                       revert b1
                       revert l1
                       revert i0
                       revert B
                       revert W
                       revert g2
                       revert g1
                       revert d0
                       revert A0
                       revert g0
                       exact rabb0.out
                     · skip
                       go_simp
                       obtain ⟨g10, hgn⟩ : ∃ g, W.heap.size = g := ⟨_, rfl⟩
                       obtain ⟨V, hV⟩ : ∃ V, W.alloc (.cells #[.slice none 0 0, .slice none 0 0, .slice none 0 0] 29) = V := ⟨_, rfl⟩
                       have hba : Below W.heap.size W V := by rw [← hV]; exact below_alloc _
                       have xp10 : Blk V g10 29 #[.slice none 0 0, .slice none 0 0, .slice none 0 0] := by rw [← hV]; exact Blk.new hgn
                       have xl10 : wb.heap.size ≤ g10 := by rw [← hgn]; exact B.size
                       have xB := below_step B hba
                       have xl0 := l0
                       have xb0 := b0.below hba b0.lt
                       have xl1 := l1
                       have xb1 := b1.below hba b1.lt
                       have xl2 := l2
                       have xb2 := b2.below hba b2.lt
                       have xn01 := n01
                       refine hK.out _ _ (by rw [hV]; exact HKEEP.out _ xB) (fun hSx => ?_)
                       clear hK K hSx hS0 B l0 b0 l1 b1 l2 b2 n01
                       try simp only [Act.put, pa, pz, ps]
                       rw [hV]
                       rw [hgn]
                       clear hV hba hgn W
                       obtain ⟨W, rfl⟩ : ∃ W, W = V := ⟨_, rfl⟩
                       have B := xB
                       clear xB
                       have l0 := xl0
                       clear xl0
                       have b0 := xb0
                       clear xb0
                       have l1 := xl1
                       clear xl1
                       have b1 := xb1
                       clear xb1
                       have l2 := xl2
                       clear xl2
                       have b2 := xb2
                       clear xb2
                       have n01 := xn01
                       clear xn01
                       have l10 := xl10
                       clear xl10
                       have p10 := xp10
                       clear xp10
                       revert p10
                       revert l10
                       revert n01
                       revert b2
                       revert l2
                       revert b1
                       revert l1
                       revert b0
                       revert l0
                       revert B
                       revert W
                       revert g10
                       revert g2
                       revert g1
                       revert g0
                       exact rbbb1.out
                   case prbbn1 =>
                    refine Lib.hid ?_
                    intro g0 g1 g10 W B l0 b0 l1 b1 n01 l10 p10
                    have hS0 := HKEEP.out _ B
                    refine wpAnyH_ready (rs := [3, 8]) (by kernel_rfl) (by simp) ?_
                    refine (AllReadyH.cons rfl (fun K hK => ?_) (AllReadyH.cons rfl (fun K hK => ?_) AllReadyH.nil))
                    · skip
                      refine Eq.mpr (if_pos (by rfl)) ?_
                      refine op_appE one_long.wide (.tmp 39) (.tmp 41) rfl b0 l0 B rfl rfl HQX.out (by omega) ?_
                      intro A0 d0 V xB hin hbl hsz xi0
                      have xl1 := l1
                      have xb1 := hbl _ _ _ b1 (fun e => n01 e.symm)
                      have xl10 := l10
                      have xp10 := hbl _ _ _ p10 (blk_ne p10 b0 (by decide))
                      refine hK.out _ _ (HKEEP.out _ xB) (fun hSx => ?_)
                      clear hK K hSx hin hbl hsz hS0 B l0 b0 l1 b1 n01 l10 p10
                      try simp only [Act.put, pa]
                      clear W
                      obtain ⟨W, rfl⟩ : ∃ W, W = V := ⟨_, rfl⟩
                      have B := xB
                      clear xB
                      have i0 := xi0
                      clear xi0
                      have l1 := xl1
                      clear xl1
                      have b1 := xb1
                      clear xb1
                      have l10 := xl10
                      clear xl10
                      have p10 := xp10
                      clear xp10
                      revert p10
                      revert l10
                      revert b1
                      revert l1
                      revert i0
                      revert B
                      revert W
                      revert g10
                      revert g1
                      revert d0
                      revert A0
                      revert g0
                      exact rabn1.out
                    · skip
                      go_simp
                      obtain ⟨g2, hgn⟩ : ∃ g, W.heap.size = g := ⟨_, rfl⟩
                      obtain ⟨V, hV⟩ : ∃ V, W.alloc (.cells #[] 3) = V := ⟨_, rfl⟩
                      have hba : Below W.heap.size W V := by rw [← hV]; exact below_alloc _
                      have xb2 : Blk V g2 3 #[] := by rw [← hV]; exact Blk.new hgn
                      have xl2 : wb.heap.size ≤ g2 := by rw [← hgn]; exact B.size
                      have xB := below_step B hba
                      have xl0 := l0
                      have xb0 := b0.below hba b0.lt
                      have xl1 := l1
                      have xb1 := b1.below hba b1.lt
                      have xn01 := n01
                      have xl10 := l10
                      have xp10 := p10.below hba p10.lt
                      refine hK.out _ _ (by rw [hV]; exact HKEEP.out _ xB) (fun hSx => ?_)
                      clear hK K hSx hS0 B l0 b0 l1 b1 n01 l10 p10
                      try simp only [Act.put, pa, pz, ps]
                      rw [hV]
                      rw [hgn]
                      clear hV hba hgn W
                      obtain ⟨W, rfl⟩ : ∃ W, W = V := ⟨_, rfl⟩
                      have B := xB
                      clear xB
                      have l0 := xl0
                      clear xl0
                      have b0 := xb0
                      clear xb0
                      have l1 := xl1
                      clear xl1
                      have b1 := xb1
                      clear xb1
                      have l2 := xl2
                      clear xl2
                      have b2 := xb2
                      clear xb2
                      have n01 := xn01
                      clear xn01
                      have l10 := xl10
                      clear xl10
                      have p10 := xp10
                      clear xp10
                      revert p10
                      revert l10
                      revert n01
                      revert b2
                      revert l2
                      revert b1
                      revert l1
                      revert b0
                      revert l0
                      revert B
                      revert W
                      revert g10
                      revert g2
                      revert g1
                      revert g0
                      exact rbbb1.out
                  case prbnb1 =>
                   refine Lib.hid ?_
                   intro g0 g2 g10 W B l0 b0 l2 b2 l10 p10
                   have hS0 := HKEEP.out _ B
                   refine wpAnyH_ready (rs := [3, 4]) (by kernel_rfl) (by simp) ?_
                   refine (AllReadyH.cons rfl (fun K hK => ?_) (AllReadyH.cons rfl (fun K hK => ?_) AllReadyH.nil))
                   · skip
                     refine Eq.mpr (if_pos (by rfl)) ?_
                     refine op_appE one_long.wide (.tmp 39) (.tmp 41) rfl b0 l0 B rfl rfl HQX.out (by omega) ?_
                     intro A0 d0 V xB hin hbl hsz xi0
                     have xl2 := l2
                     have xb2 := hbl _ _ _ b2 (blk_ne b2 b0 (by decide))
                     have xl10 := l10
                     have xp10 := hbl _ _ _ p10 (blk_ne p10 b0 (by decide))
                     refine hK.out _ _ (HKEEP.out _ xB) (fun hSx => ?_)
                     clear hK K hSx hin hbl hsz hS0 B l0 b0 l2 b2 l10 p10
                     try simp only [Act.put, pa]
                     clear W
                     obtain ⟨W, rfl⟩ : ∃ W, W = V := ⟨_, rfl⟩
                     have B := xB
                     clear xB
                     have i0 := xi0
                     clear xi0
                     have l2 := xl2
                     clear xl2
                     have b2 := xb2
                     clear xb2
                     have l10 := xl10
                     clear xl10
                     have p10 := xp10
                     clear xp10
                     revert p10
                     revert l10
                     revert b2
                     revert l2
                     revert i0
                     revert B
                     revert W
                     revert g10
                     revert g2
                     revert d0
                     revert A0
                     revert g0
                     exact ranb1.out
                   · skip
                     go_simp
                     obtain ⟨g1, hgn⟩ : ∃ g, W.heap.size = g := ⟨_, rfl⟩
                     obtain ⟨V, hV⟩ : ∃ V, W.alloc (.cells #[] 2) = V := ⟨_, rfl⟩
                     have hba : Below W.heap.size W V := by rw [← hV]; exact below_alloc _
                     have xb1 : Blk V g1 2 #[] := by rw [← hV]; exact Blk.new hgn
                     have xl1 : wb.heap.size ≤ g1 := by rw [← hgn]; exact B.size
                     have xB := below_step B hba
                     have xl0 := l0
                     have xb0 := b0.below hba b0.lt
                     have xl2 := l2
                     have xb2 := b2.below hba b2.lt
                     have xn01 : g0 ≠ g1 := by have := b0.lt; omega
                     have xl10 := l10
                     have xp10 := p10.below hba p10.lt
                     refine hK.out _ _ (by rw [hV]; exact HKEEP.out _ xB) (fun hSx => ?_)
                     clear hK K hSx hS0 B l0 b0 l2 b2 l10 p10
                     try simp only [Act.put, pa, pz, ps]
                     rw [hV]
                     rw [hgn]
                     clear hV hba hgn W
                     obtain ⟨W, rfl⟩ : ∃ W, W = V := ⟨_, rfl⟩
                     have B := xB
                     clear xB
                     have l0 := xl0
                     clear xl0
                     have b0 := xb0
                     clear xb0
                     have l1 := xl1
                     clear xl1
                     have b1 := xb1
                     clear xb1
                     have l2 := xl2
                     clear xl2
                     have b2 := xb2
                     clear xb2
                     have n01 := xn01
                     clear xn01
                     have l10 := xl10
                     clear xl10
                     have p10 := xp10
                     clear xp10
                     revert p10
                     revert l10
                     revert n01
                     revert b2
                     revert l2
                     revert b1
                     revert l1
                     revert b0
                     revert l0
                     revert B
                     revert W
                     revert g10
                     revert g2
                     revert g1
                     revert g0
                     exact rbbb1.out
                 case prnbb1 =>
                  refine Lib.hid ?_
                  intro g1 g2 g10 W B l1 b1 l2 b2 l10 p10
                  have hS0 := HKEEP.out _ B
                  refine wpAnyH_ready (rs := [0]) (by kernel_rfl) (by simp) ?_
                  refine (AllReadyH.cons rfl (fun K hK => ?_) AllReadyH.nil)
                  · skip
                    go_simp
                    obtain ⟨g0, hgn⟩ : ∃ g, W.heap.size = g := ⟨_, rfl⟩
                    obtain ⟨V, hV⟩ : ∃ V, W.alloc (.cells #[] 2) = V := ⟨_, rfl⟩
                    have hba : Below W.heap.size W V := by rw [← hV]; exact below_alloc _
                    have xb0 : Blk V g0 2 #[] := by rw [← hV]; exact Blk.new hgn
                    have xl0 : wb.heap.size ≤ g0 := by rw [← hgn]; exact B.size
                    have xB := below_step B hba
                    have xl1 := l1
                    have xb1 := b1.below hba b1.lt
                    have xl2 := l2
                    have xb2 := b2.below hba b2.lt
                    have xn01 : g0 ≠ g1 := by have := b1.lt; omega
                    have xl10 := l10
                    have xp10 := p10.below hba p10.lt
                    refine hK.out _ _ (by rw [hV]; exact HKEEP.out _ xB) (fun hSx => ?_)
                    clear hK K hSx hS0 B l1 b1 l2 b2 l10 p10
                    try simp only [Act.put, pa, pz, ps]
                    rw [hV]
                    rw [hgn]
                    clear hV hba hgn W
                    obtain ⟨W, rfl⟩ : ∃ W, W = V := ⟨_, rfl⟩
                    have B := xB
                    clear xB
                    have l0 := xl0
                    clear xl0
                    have b0 := xb0
                    clear xb0
                    have l1 := xl1
                    clear xl1
                    have b1 := xb1
                    clear xb1
                    have l2 := xl2
                    clear xl2
                    have b2 := xb2
                    clear xb2
                    have n01 := xn01
                    clear xn01
                    have l10 := xl10
                    clear xl10
                    have p10 := xp10
                    clear xp10
                    revert p10
                    revert l10
                    revert n01
                    revert b2
                    revert l2
                    revert b1
                    revert l1
                    revert b0
                    revert l0
                    revert B
                    revert W
                    revert g10
                    revert g2
                    revert g1
                    revert g0
                    exact rbbb1.out
                case praan0 =>
                 refine Lib.hid ?_
                 intro g0 A0 d0 g1 A1 d1 W B i0 i1
                 have hS0 := HKEEP.out _ B
                 refine wpAnyH_ready (rs := [8, 13]) (by kernel_rfl) (by simp) ?_
                 refine (AllReadyH.cons rfl (fun K hK => ?_) (AllReadyH.cons rfl (fun K hK => ?_) AllReadyH.nil))
                 · skip
                   go_simp
                   obtain ⟨g2, hgn⟩ : ∃ g, W.heap.size = g := ⟨_, rfl⟩
                   obtain ⟨V, hV⟩ : ∃ V, W.alloc (.cells #[] 3) = V := ⟨_, rfl⟩
                   have hba : Below W.heap.size W V := by rw [← hV]; exact below_alloc _
                   have xb2 : Blk V g2 3 #[] := by rw [← hV]; exact Blk.new hgn
                   have xl2 : wb.heap.size ≤ g2 := by rw [← hgn]; exact B.size
                   have xB := below_step B hba
                   have xi0 := i0.on hba
                   have xi1 := i1.on hba
                   refine hK.out _ _ (by rw [hV]; exact HKEEP.out _ xB) (fun hSx => ?_)
                   clear hK K hSx hS0 B i0 i1
                   try simp only [Act.put, pa, pz, ps]
                   rw [hV]
                   rw [hgn]
                   clear hV hba hgn W
                   obtain ⟨W, rfl⟩ : ∃ W, W = V := ⟨_, rfl⟩
                   have B := xB
                   clear xB
                   have i0 := xi0
                   clear xi0
                   have i1 := xi1
                   clear xi1
                   have l2 := xl2
                   clear xl2
                   have b2 := xb2
                   clear xb2
                   revert b2
                   revert l2
                   revert i1
                   revert i0
                   revert B
                   revert W
                   revert g2
                   revert d1
                   revert A1
                   revert g1
                   revert d0
                   revert A0
                   revert g0
                   exact raab0.out
                 · skip
                   go_simp
                   obtain ⟨g10, hgn⟩ : ∃ g, W.heap.size = g := ⟨_, rfl⟩
                   obtain ⟨V, hV⟩ : ∃ V, W.alloc (.cells #[.slice none 0 0, .slice none 0 0, .slice none 0 0] 29) = V := ⟨_, rfl⟩
                   have hba : Below W.heap.size W V := by rw [← hV]; exact below_alloc _
                   have xp10 : Blk V g10 29 #[.slice none 0 0, .slice none 0 0, .slice none 0 0] := by rw [← hV]; exact Blk.new hgn
                   have xl10 : wb.heap.size ≤ g10 := by rw [← hgn]; exact B.size
                   have xB := below_step B hba
                   have xi0 := i0.on hba
                   have xi1 := i1.on hba
                   refine hK.out _ _ (by rw [hV]; exact HKEEP.out _ xB) (fun hSx => ?_)
                   clear hK K hSx hS0 B i0 i1
                   try simp only [Act.put, pa, pz, ps]
                   rw [hV]
                   rw [hgn]
                   clear hV hba hgn W
                   obtain ⟨W, rfl⟩ : ∃ W, W = V := ⟨_, rfl⟩
                   have B := xB
                   clear xB
                   have i0 := xi0
                   clear xi0
                   have i1 := xi1
                   clear xi1
                   have l10 := xl10
                   clear xl10
                   have p10 := xp10
                   clear xp10
                   revert p10
                   revert l10
                   revert i1
                   revert i0
                   revert B
                   revert W
                   revert g10
                   revert d1
                   revert A1
                   revert g1
                   revert d0
                   revert A0
                   revert g0
                   exact raan1.out
               case prabb0 =>
                refine Lib.hid ?_
                intro g0 A0 d0 g1 g2 W B i0 l1 b1 l2 b2
                have hS0 := HKEEP.out _ B
                refine wpAnyH_ready (rs := [7, 13]) (by kernel_rfl) (by simp) ?_
                refine (AllReadyH.cons rfl (fun K hK => ?_) (AllReadyH.cons rfl (fun K hK => ?_) AllReadyH.nil))
                · skip
                  refine Eq.mpr (if_pos (by rfl)) ?_
                  refine op_appE one_long.wide (.tmp 43) (.tmp 45) rfl b1 l1 B rfl rfl HQE.out (by omega) ?_
                  intro A1 d1 V xB hin hbl hsz xi1
                  have xi0 := hin _ _ _ i0
                  have xl2 := l2
                  have xb2 := hbl _ _ _ b2 (blk_ne b2 b1 (by decide))
                  refine hK.out _ _ (HKEEP.out _ xB) (fun hSx => ?_)
                  clear hK K hSx hin hbl hsz hS0 B i0 l1 b1 l2 b2
                  try simp only [Act.put, pa]
                  clear W
                  obtain ⟨W, rfl⟩ : ∃ W, W = V := ⟨_, rfl⟩
                  have B := xB
                  clear xB
                  have i0 := xi0
                  clear xi0
                  have i1 := xi1
                  clear xi1
                  have l2 := xl2
                  clear xl2
                  have b2 := xb2
                  clear xb2
                  revert b2
                  revert l2
                  revert i1
                  revert i0
                  revert B
                  revert W
                  revert g2
                  revert d1
                  revert A1
                  revert g1
                  revert d0
                  revert A0
                  revert g0
                  exact raab0.out
                · skip
                  go_simp
                  obtain ⟨g10, hgn⟩ : ∃ g, W.heap.size = g := ⟨_, rfl⟩
                  obtain ⟨V, hV⟩ : ∃ V, W.alloc (.cells #[.slice none 0 0, .slice none 0 0, .slice none 0 0] 29) = V := ⟨_, rfl⟩
                  have hba : Below W.heap.size W V := by rw [← hV]; exact below_alloc _
                  have xp10 : Blk V g10 29 #[.slice none 0 0, .slice none 0 0, .slice none 0 0] := by rw [← hV]; exact Blk.new hgn
                  have xl10 : wb.heap.size ≤ g10 := by rw [← hgn]; exact B.size
                  have xB := below_step B hba
                  have xi0 := i0.on hba
                  have xl1 := l1
                  have xb1 := b1.below hba b1.lt
                  have xl2 := l2
                  have xb2 := b2.below hba b2.lt
                  refine hK.out _ _ (by rw [hV]; exact HKEEP.out _ xB) (fun hSx => ?_)
                  clear hK K hSx hS0 B i0 l1 b1 l2 b2
                  try simp only [Act.put, pa, pz, ps]
                  rw [hV]
                  rw [hgn]
                  clear hV hba hgn W
                  obtain ⟨W, rfl⟩ : ∃ W, W = V := ⟨_, rfl⟩
                  have B := xB
                  clear xB
                  have i0 := xi0
                  clear xi0
                  have l1 := xl1
                  clear xl1
                  have b1 := xb1
                  clear xb1
                  have l2 := xl2
                  clear xl2
                  have b2 := xb2
                  clear xb2
                  have l10 := xl10
                  clear xl10
                  have p10 := xp10
                  clear xp10
                  revert p10
                  revert l10
                  revert b2
                  revert l2
                  revert b1
                  revert l1
                  revert i0
                  revert B
                  revert W
                  revert g10
                  revert g2
                  revert g1
                  revert d0
                  revert A0
                  revert g0
                  exact rabb1.out
              case prabn1 =>
               refine Lib.hid ?_
               intro g0 A0 d0 g1 g10 W B i0 l1 b1 l10 p10
               have hS0 := HKEEP.out _ B
               refine wpAnyH_ready (rs := [7, 8]) (by kernel_rfl) (by simp) ?_
               refine (AllReadyH.cons rfl (fun K hK => ?_) (AllReadyH.cons rfl (fun K hK => ?_) AllReadyH.nil))
               · skip
                 refine Eq.mpr (if_pos (by rfl)) ?_
                 refine op_appE one_long.wide (.tmp 43) (.tmp 45) rfl b1 l1 B rfl rfl HQE.out (by omega) ?_
                 intro A1 d1 V xB hin hbl hsz xi1
                 have xi0 := hin _ _ _ i0
                 have xl10 := l10
                 have xp10 := hbl _ _ _ p10 (blk_ne p10 b1 (by decide))
                 refine hK.out _ _ (HKEEP.out _ xB) (fun hSx => ?_)
                 clear hK K hSx hin hbl hsz hS0 B i0 l1 b1 l10 p10
                 try simp only [Act.put, pa]
                 clear W
                 obtain ⟨W, rfl⟩ : ∃ W, W = V := ⟨_, rfl⟩
                 have B := xB
                 clear xB
                 have i0 := xi0
                 clear xi0
                 have i1 := xi1
                 clear xi1
                 have l10 := xl10
                 clear xl10
                 have p10 := xp10
                 clear xp10
                 revert p10
                 revert l10
                 revert i1
                 revert i0
                 revert B
                 revert W
                 revert g10
                 revert d1
                 revert A1
                 revert g1
                 revert d0
                 revert A0
                 revert g0
                 exact raan1.out
               · skip
                 go_simp
                 obtain ⟨g2, hgn⟩ : ∃ g, W.heap.size = g := ⟨_, rfl⟩
                 obtain ⟨V, hV⟩ : ∃ V, W.alloc (.cells #[] 3) = V := ⟨_, rfl⟩
                 have hba : Below W.heap.size W V := by rw [← hV]; exact below_alloc _
                 have xb2 : Blk V g2 3 #[] := by rw [← hV]; exact Blk.new hgn
                 have xl2 : wb.heap.size ≤ g2 := by rw [← hgn]; exact B.size
                 have xB := below_step B hba
                 have xi0 := i0.on hba
                 have xl1 := l1
                 have xb1 := b1.below hba b1.lt
                 have xl10 := l10
                 have xp10 := p10.below hba p10.lt
                 refine hK.out _ _ (by rw [hV]; exact HKEEP.out _ xB) (fun hSx => ?_)
                 clear hK K hSx hS0 B i0 l1 b1 l10 p10
                 try simp only [Act.put, pa, pz, ps]
                 rw [hV]
                 rw [hgn]
                 clear hV hba hgn W
                 obtain ⟨W, rfl⟩ : ∃ W, W = V := ⟨_, rfl⟩
                 have B := xB
                 clear xB
                 have i0 := xi0
                 clear xi0
                 have l1 := xl1
                 clear xl1
                 have b1 := xb1
                 clear xb1
                 have l2 := xl2
                 clear xl2
                 have b2 := xb2
                 clear xb2
                 have l10 := xl10
                 clear xl10
                 have p10 := xp10
                 clear xp10
                 revert p10
                 revert l10
                 revert b2
                 revert l2
                 revert b1
                 revert l1
                 revert i0
                 revert B
                 revert W
                 revert g10
                 revert g2
                 revert g1
                 revert d0
                 revert A0
                 revert g0
                 exact rabb1.out
             case pranb1 =>
              refine Lib.hid ?_
              intro g0 A0 d0 g2 g10 W B i0 l2 b2 l10 p10
              have hS0 := HKEEP.out _ B
              refine wpAnyH_ready (rs := [4]) (by kernel_rfl) (by simp) ?_
              refine (AllReadyH.cons rfl (fun K hK => ?_) AllReadyH.nil)
              · skip
                go_simp
                obtain ⟨g1, hgn⟩ : ∃ g, W.heap.size = g := ⟨_, rfl⟩
                obtain ⟨V, hV⟩ : ∃ V, W.alloc (.cells #[] 2) = V := ⟨_, rfl⟩
                have hba : Below W.heap.size W V := by rw [← hV]; exact below_alloc _
                have xb1 : Blk V g1 2 #[] := by rw [← hV]; exact Blk.new hgn
                have xl1 : wb.heap.size ≤ g1 := by rw [← hgn]; exact B.size
                have xB := below_step B hba
                have xi0 := i0.on hba
                have xl2 := l2
                have xb2 := b2.below hba b2.lt
                have xl10 := l10
                have xp10 := p10.below hba p10.lt
                refine hK.out _ _ (by rw [hV]; exact HKEEP.out _ xB) (fun hSx => ?_)
                clear hK K hSx hS0 B i0 l2 b2 l10 p10
                try simp only [Act.put, pa, pz, ps]
                rw [hV]
                rw [hgn]
                clear hV hba hgn W
                obtain ⟨W, rfl⟩ : ∃ W, W = V := ⟨_, rfl⟩
                have B := xB
                clear xB
                have i0 := xi0
                clear xi0
                have l1 := xl1
                clear xl1
                have b1 := xb1
                clear xb1
                have l2 := xl2
                clear xl2
                have b2 := xb2
                clear xb2
                have l10 := xl10
                clear xl10
                have p10 := xp10
                clear xp10
                revert p10
                revert l10
                revert b2
                revert l2
                revert b1
                revert l1
                revert i0
                revert B
                revert W
                revert g10
                revert g2
                revert g1
                revert d0
                revert A0
                revert g0
                exact rabb1.out
            case prbbb1 =>
             refine Lib.hid ?_
             intro g0 g1 g2 g10 W B l0 b0 l1 b1 l2 b2 n01 l10 p10
             have hS0 := HKEEP.out _ B
             refine wpAnyH_ready (rs := [3]) (by kernel_rfl) (by simp) ?_
             refine (AllReadyH.cons rfl (fun K hK => ?_) AllReadyH.nil)
             · skip
               refine Eq.mpr (if_pos (by rfl)) ?_
               refine op_appE one_long.wide (.tmp 39) (.tmp 41) rfl b0 l0 B rfl rfl HQX.out (by omega) ?_
               intro A0 d0 V xB hin hbl hsz xi0
               have xl1 := l1
               have xb1 := hbl _ _ _ b1 (fun e => n01 e.symm)
               have xl2 := l2
               have xb2 := hbl _ _ _ b2 (blk_ne b2 b0 (by decide))
               have xl10 := l10
               have xp10 := hbl _ _ _ p10 (blk_ne p10 b0 (by decide))
               refine hK.out _ _ (HKEEP.out _ xB) (fun hSx => ?_)
               clear hK K hSx hin hbl hsz hS0 B l0 b0 l1 b1 l2 b2 n01 l10 p10
               try simp only [Act.put, pa]
               clear W
               obtain ⟨W, rfl⟩ : ∃ W, W = V := ⟨_, rfl⟩
               have B := xB
               clear xB
               have i0 := xi0
               clear xi0
               have l1 := xl1
               clear xl1
               have b1 := xb1
               clear xb1
               have l2 := xl2
               clear xl2
               have b2 := xb2
               clear xb2
               have l10 := xl10
               clear xl10
               have p10 := xp10
               clear xp10
               revert p10
               revert l10
               revert b2
               revert l2
               revert b1
               revert l1
               revert i0
               revert B
               revert W
               revert g10
               revert g2
               revert g1
               revert d0
               revert A0
               revert g0
               exact rabb1.out
           case praab0 =>
            refine Lib.hid ?_
            intro g0 A0 d0 g1 A1 d1 g2 W B i0 i1 l2 b2
            have hS0 := HKEEP.out _ B
            refine wpAnyH_ready (rs := [11, 13]) (by kernel_rfl) (by simp) ?_
            refine (AllReadyH.cons rfl (fun K hK => ?_) (AllReadyH.cons rfl (fun K hK => ?_) AllReadyH.nil))
            · skip
              refine Eq.mpr (if_pos (by rfl)) ?_
              refine op_appE one_int.wide (.tmp 47) (.tmp 49) rfl b2 l2 B rfl rfl HQH.out (by omega) ?_
              intro A2 d2 V xB hin hbl hsz xi2
              have xi0 := hin _ _ _ i0
              have xi1 := hin _ _ _ i1
              refine hK.out _ _ (HKEEP.out _ xB) (fun hSx => ?_)
              clear hK K hSx hin hbl hsz hS0 B i0 i1 l2 b2
              try simp only [Act.put, pa]
              clear W
              obtain ⟨W, rfl⟩ : ∃ W, W = V := ⟨_, rfl⟩
              have B := xB
              clear xB
              have i0 := xi0
              clear xi0
              have i1 := xi1
              clear xi1
              have i2 := xi2
              clear xi2
              revert i2
              revert i1
              revert i0
              revert B
              revert W
              revert d2
              revert A2
              revert g2
              revert d1
              revert A1
              revert g1
              revert d0
              revert A0
              revert g0
              exact raaa0.out
            · skip
              go_simp
              obtain ⟨g10, hgn⟩ : ∃ g, W.heap.size = g := ⟨_, rfl⟩
              obtain ⟨V, hV⟩ : ∃ V, W.alloc (.cells #[.slice none 0 0, .slice none 0 0, .slice none 0 0] 29) = V := ⟨_, rfl⟩
              have hba : Below W.heap.size W V := by rw [← hV]; exact below_alloc _
              have xp10 : Blk V g10 29 #[.slice none 0 0, .slice none 0 0, .slice none 0 0] := by rw [← hV]; exact Blk.new hgn
              have xl10 : wb.heap.size ≤ g10 := by rw [← hgn]; exact B.size
              have xB := below_step B hba
              have xi0 := i0.on hba
              have xi1 := i1.on hba
              have xl2 := l2
              have xb2 := b2.below hba b2.lt
              refine hK.out _ _ (by rw [hV]; exact HKEEP.out _ xB) (fun hSx => ?_)
              clear hK K hSx hS0 B i0 i1 l2 b2
              try simp only [Act.put, pa, pz, ps]
              rw [hV]
              rw [hgn]
              clear hV hba hgn W
              obtain ⟨W, rfl⟩ : ∃ W, W = V := ⟨_, rfl⟩
              have B := xB
              clear xB
              have i0 := xi0
              clear xi0
              have i1 := xi1
              clear xi1
              have l2 := xl2
              clear xl2
              have b2 := xb2
              clear xb2
              have l10 := xl10
              clear xl10
              have p10 := xp10
              clear xp10
              revert p10
              revert l10
              revert b2
              revert l2
              revert i1
              revert i0
              revert B
              revert W
              revert g10
              revert g2
              revert d1
              revert A1
              revert g1
              revert d0
              revert A0
              revert g0
              exact raab1.out
          case praan1 =>
           refine Lib.hid ?_
           intro g0 A0 d0 g1 A1 d1 g10 W B i0 i1 l10 p10
           have hS0 := HKEEP.out _ B
           refine wpAnyH_ready (rs := [8]) (by kernel_rfl) (by simp) ?_
           refine (AllReadyH.cons rfl (fun K hK => ?_) AllReadyH.nil)
           · skip
             go_simp
             obtain ⟨g2, hgn⟩ : ∃ g, W.heap.size = g := ⟨_, rfl⟩
             obtain ⟨V, hV⟩ : ∃ V, W.alloc (.cells #[] 3) = V := ⟨_, rfl⟩
             have hba : Below W.heap.size W V := by rw [← hV]; exact below_alloc _
             have xb2 : Blk V g2 3 #[] := by rw [← hV]; exact Blk.new hgn
             have xl2 : wb.heap.size ≤ g2 := by rw [← hgn]; exact B.size
             have xB := below_step B hba
             have xi0 := i0.on hba
             have xi1 := i1.on hba
             have xl10 := l10
             have xp10 := p10.below hba p10.lt
             refine hK.out _ _ (by rw [hV]; exact HKEEP.out _ xB) (fun hSx => ?_)
             clear hK K hSx hS0 B i0 i1 l10 p10
             try simp only [Act.put, pa, pz, ps]
             rw [hV]
             rw [hgn]
             clear hV hba hgn W
             obtain ⟨W, rfl⟩ : ∃ W, W = V := ⟨_, rfl⟩
             have B := xB
             clear xB
             have i0 := xi0
             clear xi0
             have i1 := xi1
             clear xi1
             have l2 := xl2
             clear xl2
             have b2 := xb2
             clear xb2
             have l10 := xl10
             clear xl10
             have p10 := xp10
             clear xp10
             revert p10
             revert l10
             revert b2
             revert l2
             revert i1
             revert i0
             revert B
             revert W
             revert g10
             revert g2
             revert d1
             revert A1
             revert g1
             revert d0
             revert A0
             revert g0
             exact raab1.out
         case prabb1 =>
          refine Lib.hid ?_
          intro g0 A0 d0 g1 g2 g10 W B i0 l1 b1 l2 b2 l10 p10
          have hS0 := HKEEP.out _ B
          refine wpAnyH_ready (rs := [7]) (by kernel_rfl) (by simp) ?_
          refine (AllReadyH.cons rfl (fun K hK => ?_) AllReadyH.nil)
          · skip
            refine Eq.mpr (if_pos (by rfl)) ?_
            refine op_appE one_long.wide (.tmp 43) (.tmp 45) rfl b1 l1 B rfl rfl HQE.out (by omega) ?_
            intro A1 d1 V xB hin hbl hsz xi1
            have xi0 := hin _ _ _ i0
            have xl2 := l2
            have xb2 := hbl _ _ _ b2 (blk_ne b2 b1 (by decide))
            have xl10 := l10
            have xp10 := hbl _ _ _ p10 (blk_ne p10 b1 (by decide))
            refine hK.out _ _ (HKEEP.out _ xB) (fun hSx => ?_)
            clear hK K hSx hin hbl hsz hS0 B i0 l1 b1 l2 b2 l10 p10
            try simp only [Act.put, pa]
            clear W
            obtain ⟨W, rfl⟩ : ∃ W, W = V := ⟨_, rfl⟩
            have B := xB
            clear xB
            have i0 := xi0
            clear xi0
            have i1 := xi1
            clear xi1
            have l2 := xl2
            clear xl2
            have b2 := xb2
            clear xb2
            have l10 := xl10
            clear xl10
            have p10 := xp10
            clear xp10
            revert p10
            revert l10
            revert b2
            revert l2
            revert i1
            revert i0
            revert B
            revert W
            revert g10
            revert g2
            revert d1
            revert A1
            revert g1
            revert d0
            revert A0
            revert g0
            exact raab1.out
        case praaa0 =>
         refine Lib.hid ?_
         intro g0 A0 d0 g1 A1 d1 g2 A2 d2 W B i0 i1 i2
         have hS0 := HKEEP.out _ B
         refine tk (v := ?_) 12 51 rfl ?_ ?_
         rotate_left
         · (intro W hSw; go_simp; try with_reducible rfl)
         simp only [Act.put]
         refine wpAnyH_ready (rs := [13]) (by kernel_rfl) (by simp) ?_
         refine (AllReadyH.cons rfl (fun K hK => ?_) AllReadyH.nil)
         · skip
           go_simp
           obtain ⟨g10, hgn⟩ : ∃ g, W.heap.size = g := ⟨_, rfl⟩
           obtain ⟨V, hV⟩ : ∃ V, W.alloc (.cells #[.slice none 0 0, .slice none 0 0, .slice none 0 0] 29) = V := ⟨_, rfl⟩
           have hba : Below W.heap.size W V := by rw [← hV]; exact below_alloc _
           have xp10 : Blk V g10 29 #[.slice none 0 0, .slice none 0 0, .slice none 0 0] := by rw [← hV]; exact Blk.new hgn
           have xl10 : wb.heap.size ≤ g10 := by rw [← hgn]; exact B.size
           have xB := below_step B hba
           have xi0 := i0.on hba
           have xi1 := i1.on hba
           have xi2 := i2.on hba
           refine hK.out _ _ (by rw [hV]; exact HKEEP.out _ xB) (fun hSx => ?_)
           clear hK K hSx hS0 B i0 i1 i2
           try simp only [Act.put, pa, pz, ps]
           rw [hV]
           rw [hgn]
           clear hV hba hgn W
           obtain ⟨W, rfl⟩ : ∃ W, W = V := ⟨_, rfl⟩
           have B := xB
           clear xB
           have i0 := xi0
           clear xi0
           have i1 := xi1
           clear xi1
           have i2 := xi2
           clear xi2
           have l10 := xl10
           clear xl10
           have p10 := xp10
           clear xp10
           revert p10
           revert l10
           revert i2
           revert i1
           revert i0
           revert B
           revert W
           revert g10
           revert d2
           revert A2
           revert g2
           revert d1
           revert A1
           revert g1
           revert d0
           revert A0
           revert g0
           exact raaa1.out
       case praab1 =>
        refine Lib.hid ?_
        intro g0 A0 d0 g1 A1 d1 g2 g10 W B i0 i1 l2 b2 l10 p10
        have hS0 := HKEEP.out _ B
        refine wpAnyH_ready (rs := [11]) (by kernel_rfl) (by simp) ?_
        refine (AllReadyH.cons rfl (fun K hK => ?_) AllReadyH.nil)
        · skip
          refine Eq.mpr (if_pos (by rfl)) ?_
          refine op_appE one_int.wide (.tmp 47) (.tmp 49) rfl b2 l2 B rfl rfl HQH.out (by omega) ?_
          intro A2 d2 V xB hin hbl hsz xi2
          have xi0 := hin _ _ _ i0
          have xi1 := hin _ _ _ i1
          have xl10 := l10
          have xp10 := hbl _ _ _ p10 (blk_ne p10 b2 (by decide))
          refine hK.out _ _ (HKEEP.out _ xB) (fun hSx => ?_)
          clear hK K hSx hin hbl hsz hS0 B i0 i1 l2 b2 l10 p10
          try simp only [Act.put, pa]
          clear W
          obtain ⟨W, rfl⟩ : ∃ W, W = V := ⟨_, rfl⟩
          have B := xB
          clear xB
          have i0 := xi0
          clear xi0
          have i1 := xi1
          clear xi1
          have i2 := xi2
          clear xi2
          have l10 := xl10
          clear xl10
          have p10 := xp10
          clear xp10
          have hS0 := HKEEP.out _ B
          refine tk (v := ?_) 12 51 rfl ?_ ?_
          rotate_left
          · (intro W hSw; go_simp; try with_reducible rfl)
          simp only [Act.put]
          clear hS0
          revert p10
          revert l10
          revert i2
          revert i1
          revert i0
          revert B
          revert W
          revert g10
          revert d2
          revert A2
          revert g2
          revert d1
          revert A1
          revert g1
          revert d0
          revert A0
          revert g0
          exact raaa1.out
      case praaa1 =>
       refine Lib.hid ?_
       intro g0 A0 d0 g1 A1 d1 g2 A2 d2 g10 W B i0 i1 i2 l10 p10
       have hS0 := HKEEP.out _ B
       obtain ⟨⟨q0, q1, q2⟩, ⟨f0, f1, f2⟩, zq⟩ := p10.full3
       refine wpAnyH_ready (rs := [14]) (by kernel_rfl) (by simp) ?_
       refine AllReadyH.cons rfl (fun K hK => ?_) AllReadyH.nil
       go_simp
       refine hK.out _ _ (HKEEP.out _ (below_put3 B l10)) (fun hSx => ?_)
       clear hK K hSx hS0
       refine wpAnyH_done (by kernel_rfl) ?_ _
       have B6 : Below wb.heap.size wb (put3 W g10 (.slice A0 M d0) (.slice A1 N1 d1) (.slice A2 N1 d2)) := below_put3 B l10
       have W6 : StIn (put3 W g10 (.slice A0 M d0) (.slice A1 N1 d1) (.slice A2 N1 d2)) (put3 W g10 (.slice A0 M d0) (.slice A1 N1 d1) (.slice A2 N1 d2)).heap.size M N1 N1 ⟨A0, d0, A1, d1, A2, d2⟩ X E H := ⟨by simpa using ints_far3 i0 p10, by simpa using ints_far3 i1 p10, by simpa using ints_far3 i2 p10⟩
       have T6 : Blk (put3 W g10 (.slice A0 M d0) (.slice A1 N1 d1) (.slice A2 N1 d2)) g10 29 #[.slice A0 M d0, .slice A1 N1 d1, .slice A2 N1 d2] := p10.put3
       clear i0 i1 i2 p10 q0 q1 q2 f0 f1 f2 zq
       dsimp only [put3] at B6 W6 T6
       generalize ((W.setCell ⟨g10, 0, none⟩ (.slice A0 M d0)).setCell ⟨g10, 1, none⟩ (.slice A1 N1 d1)).setCell ⟨g10, 2, none⟩ (.slice A2 N1 d2) = w6 at *
       have V6 := HVB.out.on B6
       have E6 := HEB.out.below B6 HEB.out.lt
       clear B B6 W l10 HKEEP HVB HEB HQX HQE HQH hgb
       obtain ⟨c0, c1, c2, c3, c4, c5, c6, c7, c8⟩ := V6.c.at9
       obtain ⟨⟨p0, p1, p2⟩, -, zp⟩ := V6.p.full3
       have zc := V6.c.lt
       obtain ⟨e0, e1, e2, e3, e4, e5, e6⟩ := E6.at7
       have ze := E6.lt
       have HV6 := Lib.hid V6; have HW6 := Lib.hid W6; have HT6 := Lib.hid T6; have HE6 := Lib.hid E6
       clear V6 W6 T6 E6
       go_wp2_with fail
       refine (HMO.out ⟨AX, cX, AE, cE, AHH, cHH⟩ X E H ⟨who', what', eu', arc', d', h', low'⟩ _ HV6.out.bel HV6.out.st HV6.out.snd).mono ?_
       rintro e w7 ⟨Q', rfl, B7, st7⟩
       have hnx := HV6.out.snd.next (fst := fst) HP.out ⟨who', what', eu', arc', d', h', low'⟩
       have hhi := fun v => nx_high (fst := fst) (e := ⟨who', what', eu', arc', d', h', low'⟩) HV6.out.snd v
       have hls := fun v => nx_less (fst := fst) (e := ⟨who', what', eu', arc', d', h', low'⟩) (v := v) HP.out HV6.out.snd
       have hsame : legI N1 s t fst X E H ⟨who', what', eu', arc', d', h', low'⟩ ≠ 0 → nxX N1 s t fst rv X E H ⟨who', what', eu', arc', d', h', low'⟩ = X ∧ nxE N1 s t fst hd rv X E H ⟨who', what', eu', arc', d', h', low'⟩ = E ∧ nxH N1 s t fst X E H ⟨who', what', eu', arc', d', h', low'⟩ = H := fun h => by
         unfold nxX nxE nxH
         rw [if_neg h, if_neg h, if_neg h]
         exact ⟨rfl, rfl, rfl⟩
       generalize nxX N1 s t fst rv X E H ⟨who', what', eu', arc', d', h', low'⟩ = X' at *
       generalize nxE N1 s t fst hd rv X E H ⟨who', what', eu', arc', d', h', low'⟩ = E' at *
       generalize nxH N1 s t fst X E H ⟨who', what', eu', arc', d', h', low'⟩ = H' at *
       obtain ⟨L7, hL7⟩ : ∃ L, legI N1 s t fst X E H ⟨who', what', eu', arc', d', h', low'⟩ = L := ⟨_, rfl⟩
       rw [hL7] at hsame ⊢
       have V7 := HV6.out.on B7
       have HNX := Lib.hid hnx; have HHI := Lib.hid hhi; have HLS := Lib.hid hls; have HSA := Lib.hid hsame; have HL7 := Lib.hid hL7; have HS7 := Lib.hid st7
       have HW7 := Lib.hid (HW6.out.on B7); have HE7 := Lib.hid (HE6.out.below B7 HE6.out.lt); have HT7 := Lib.hid (HT6.out.below B7 HT6.out.lt)
       clear hnx hhi hls hsame hL7 st7 B7 c0 c1 c2 c3 c4 c5 c6 c7 c8 p0 p1 p2 zp zc e0 e1 e2 e3 e4 e5 e6 ze HV6 HW6 HE6 HT6
       obtain ⟨c0, c1, c2, c3, c4, c5, c6, c7, c8⟩ := V7.c.at9
       obtain ⟨⟨p0, p1, p2⟩, ⟨f0, f1, f2⟩, zp⟩ := V7.p.full3
       have zc := V7.c.lt
       obtain ⟨e0, e1, e2, e3, e4, e5, e6⟩ := HE7.out.at7
       have ze := HE7.out.lt
       obtain ⟨⟨q0, q1, q2⟩, -, zq⟩ := HT7.out.full3
       have HV7 := Lib.hid V7
       clear V7
       obtain ⟨AX', cX', AE', cE', AHH', cHH'⟩ := Q'
       dsimp only [preW]
       go_wp2_with fail
       refine (HSM.out ⟨AX, cX, AE, cE, AHH, cHH⟩ ⟨A0, d0, A1, d1, A2, d2⟩ X E H _ (HV7.out.on (below_alloc _)).st (HW7.out.on (below_alloc _))).mono ?_
       rintro e w8 ⟨rfl, B8⟩
       have B78 := below_step (below_alloc _) B8
       have V8 := HV7.out.on B78
       have HS8 := Lib.hid (HS7.out.on B78); have HE8 := Lib.hid (HE7.out.below B78 HE7.out.lt)
       have HN8 : Hid (Blk w8 w7.heap.size 29 #[.slice AX' M cX', .slice AE' N1 cE', .slice AHH' N1 cHH']) := Lib.hid ((Blk.new rfl).below B8 (by simp))
       clear c0 c1 c2 c3 c4 c5 c6 c7 c8 p0 p1 p2 zp zc f0 f1 f2 e0 e1 e2 e3 e4 e5 e6 ze q0 q1 q2 zq HV7 HW7 HE7 HT7 HS7 B8 B78
       obtain ⟨c0, c1, c2, c3, c4, c5, c6, c7, c8⟩ := V8.c.at9
       obtain ⟨⟨p0, p1, p2⟩, -, zp⟩ := V8.p.full3
       have zc := V8.c.lt
       obtain ⟨e0, e1, e2, e3, e4, e5, e6⟩ := HE8.out.at7
       have ze := HE8.out.lt
       have HV8 := Lib.hid V8
       clear V8
       go_wp2_with fail
       refine (HLE.out ⟨AX, cX, AE, cE, AHH, cHH⟩ X E H ⟨who', what', eu', arc', d', h', low'⟩ _ HV8.out.bel HV8.out.st).mono ?_
       rw [HL7.out]
       rintro e w9 ⟨rfl, B9⟩
       have V9 := HV8.out.on B9
       have HS9 := Lib.hid (HS8.out.on B9); have HN9 := Lib.hid (HN8.out.below B9 HN8.out.lt)
       clear c0 c1 c2 c3 c4 c5 c6 c7 c8 p0 p1 p2 zp zc e0 e1 e2 e3 e4 e5 e6 ze HV8 HE8 HS8 HN8 B9
       obtain ⟨c0, c1, c2, c3, c4, c5, c6, c7, c8⟩ := V9.c.at9
       obtain ⟨⟨p0, p1, p2⟩, -, zp⟩ := V9.p.full3
       have zc := V9.c.lt
       obtain ⟨⟨q0, q1, q2⟩, -, zq⟩ := HN9.out.full3
       have HV9 := Lib.hid V9
       clear V9
       have hLL : (L7 != L7) = false := by simp
       rcases Classical.em (L7 = 0) with hL0 | hL0
       case' inl =>
         subst hL0
         go_wp2_with fail
         refine (HRT.out ⟨AX', cX', AE', cE', AHH', cHH'⟩ X' E' H' _ HV9.out.bel HS9.out HNX.out).mono ?_
         rintro e wd ⟨rfl, Bd⟩
         have Vd := HV9.out.on Bd
         have HSd := HS9.out.on Bd
         have HNd := HN9.out.below Bd HN9.out.lt
         clear c0 c1 c2 c3 c4 c5 c6 c7 c8 p0 p1 p2 zp zc q0 q1 q2 zq HV9 HS9 HN9 Bd HSA HL7
       case' inr =>
         have hL1 : (L7 != 0) = true := by simpa using hL0
         obtain ⟨z1, z2, z3⟩ := HSA.out hL0
         have HZ1 := Lib.hid z1; have HZ2 := Lib.hid z2; have HZ3 := Lib.hid z3
         clear z1 z2 z3
         have HSX := HSM.out ⟨AX', cX', AE', cE', AHH', cHH'⟩ ⟨AX, cX, AE, cE, AHH, cHH⟩ X E H w9 (by have h := HS9.out; rw [HZ1.out, HZ2.out, HZ3.out] at h; exact h) HV9.out.st
         go_wp2_with fail
         refine HSX.mono ?_
         rintro e wc ⟨rfl, Bc⟩
         have Vc := HV9.out.on Bc
         have HSc := Lib.hid (HS9.out.on Bc)
         have HNc := Lib.hid (HN9.out.below Bc HN9.out.lt)
         clear c0 c1 c2 c3 c4 c5 c6 c7 c8 p0 p1 p2 zp zc q0 q1 q2 zq HV9 HS9 HN9 Bc HSX HZ1 HZ2 HZ3
         obtain ⟨c0, c1, c2, c3, c4, c5, c6, c7, c8⟩ := Vc.c.at9
         have zc := Vc.c.lt
         obtain ⟨⟨q0, q1, q2⟩, -, zq⟩ := HNc.out.full3
         have HVc := Lib.hid Vc
         clear Vc
         go_wp2_with fail
         refine (HRT.out ⟨AX', cX', AE', cE', AHH', cHH'⟩ X' E' H' _ HVc.out.bel HSc.out HNX.out).mono ?_
         rintro e wd ⟨rfl, Bd⟩
         have Vd := HVc.out.on Bd
         have HSd := HSc.out.on Bd
         have HNd := HNc.out.below Bd HNc.out.lt
         clear c0 c1 c2 c3 c4 c5 c6 c7 c8 zc q0 q1 q2 zq HVc HSc HNc Bd HSA HL7
       all_goals
         have hs := HP.out.hs; have ht := HP.out.ht
         obtain ⟨bE, oE, hE, -, -⟩ := hOf_cel HSd.iE hs
         obtain ⟨bH, oH, hH, -, -⟩ := hOf_cel HSd.iH hs
         obtain ⟨bF, oF, hF, -, -⟩ := hOf_cel Vd.st.iE hs
         obtain ⟨bG, oG, hG, -, -⟩ := hOf_cel Vd.st.iH hs
         dsimp only at hE hH hF hG
         subst hE; subst hH; subst hF; subst hG
         have hcl : ∀ W', Below wd.heap.size wd W' → ∀ v, v < N1 → (bE < W'.heap.size ∧ W'.cell? ⟨bE, oE + v, none⟩ = some (.int .i64 (hOf E' v))) ∧ (bH < W'.heap.size ∧ W'.cell? ⟨bH, oH + v, none⟩ = some (.int .i64 (hOf H' v))) ∧ (bF < W'.heap.size ∧ W'.cell? ⟨bF, oF + v, none⟩ = some (.int .i64 (hOf E v))) ∧ (bG < W'.heap.size ∧ W'.cell? ⟨bG, oG + v, none⟩ = some (.int .i64 (hOf H v))) := fun W' hb v hv =>
           ⟨(HSd.on hb).iE.cel (hOf_get HSd.iE.len hv), (HSd.on hb).iH.cel (hOf_get HSd.iH.len hv), (Vd.on hb).st.iE.cel (hOf_get Vd.st.iE.len hv), (Vd.on hb).st.iH.cel (hOf_get Vd.st.iH.len hv)⟩
         have HCL := Lib.hid hcl; have HVd := Lib.hid Vd; have HND := Lib.hid HNd; have HSD := Lib.hid HSd
         obtain ⟨c0, c1, c2, c3, c4, c5, c6, c7, c8⟩ := Vd.c.at9
         have zc := Vd.c.lt
         clear hcl Vd HNd HSd
         go_wp2_with fail
         go_loopw [13, 14, 89] (fun s13 _ i wx => ∃ v : Nat, v ≤ N1 ∧ i = .int .i64 v ∧ s13 = .int .i64 (IntKind.i64.wrap (sumN (hOf E') v)) ∧ Below wd.heap.size wd wx) (fun _ _ i _ => N1 - (intOf i).toNat)
         case atStart => exact ⟨0, Nat.zero_le _, rfl, by simp [sumN, IntKind.wrap_i64], Below.refl _ _⟩
         case round =>
           clear c0 c1 c2 c3 c4 c5 c6 c7 c8 zc
           obtain ⟨v, hv, rfl, rfl, hb⟩ := hrel
           by_cases hvN : v < N1
           · obtain ⟨⟨y1, x1⟩, ⟨y2, x2⟩, ⟨y3, x3⟩, ⟨y4, x4⟩⟩ := HCL.out _ hb v hvN
             have hd : decide (hOf H' v < hOf H v) = false := decide_eq_false (by have := HHI.out v; omega)
             have hw := wrap_next (sumN (hOf E') v) (hOf E' v)
             rw [show sumN (hOf E') v + hOf E' v = sumN (hOf E') (v + 1) from rfl] at hw
             obtain ⟨z1, hz1⟩ : ∃ z, IntKind.i64.wrap (sumN (hOf E') v) = z := ⟨_, rfl⟩
             obtain ⟨z2, hz2⟩ : ∃ z, IntKind.i64.wrap (sumN (hOf E') (v + 1)) = z := ⟨_, rfl⟩
             have HZ2 := Lib.hid hz2
             rw [hz1, hz2] at hw
             rw [hz1]
             clear hz1 hz2
             generalize hOf E' v = m1 at *
             generalize hOf H' v = m2 at *
             generalize hOf E v = m3 at *
             generalize hOf H v = m4 at *
             have V := HVd.out.on hb
             obtain ⟨⟨p0, p1, p2⟩, -, zp⟩ := V.p.full3
             obtain ⟨⟨q0, q1, q2⟩, -, zq⟩ := (HND.out.below hb HND.out.lt).full3
             have HBB := Lib.hid hb
             clear V hb
             go_wp2_with fail
             go_quiet (fail)
             go_wp2_with fail
             go_roundw
             case rel => exact ⟨v + 1, by omega, by go_num, by rw [HZ2.out], below_drewN' HBB.out _⟩
             case measure => simp [intOf]; omega
           · obtain rfl : v = N1 := by omega
             have hz0 : IntKind.i64.wrap (sumN (hOf E') v) = 0 := by rw [HNX.out.sum HP.out]; decide
             rw [hz0]
             clear hz0
             obtain ⟨⟨y1, x1⟩, -, ⟨y3, x3⟩, -⟩ := HCL.out _ hb s hs
             obtain ⟨⟨-, x5⟩, -, ⟨-, x7⟩, -⟩ := HCL.out _ hb t ht
             have hd1 : decide (hOf E' s < hOf E s) = false := decide_eq_false (by have := HLS.out s (.inl rfl); omega)
             have hd2 : decide (hOf E' t < hOf E t) = false := decide_eq_false (by have := HLS.out t (.inr rfl); omega)
             generalize hOf E' s = m1 at *
             generalize hOf E s = m2 at *
             generalize hOf E' t = m3 at *
             generalize hOf E t = m4 at *
             have V := HVd.out.on hb
             obtain ⟨c0, c1, c2, c3, c4, c5, c6, c7, c8⟩ := V.c.at9
             obtain ⟨⟨p0, p1, p2⟩, ⟨f0, f1, f2⟩, zp⟩ := V.p.full3
             have zc := V.c.lt
             obtain ⟨⟨q0, q1, q2⟩, -, zq⟩ := (HND.out.below hb HND.out.lt).full3
             have HV8 := Lib.hid V; have HS8 := Lib.hid (HSD.out.on hb)
             clear hb V
             go_wp2_with fail
             go_quiet (fail)
             go_wp2_with fail
             go_roundw
             case rel => exact ⟨k + 1, ⟨AX', cX', some ⟨bE, oE, none⟩, cE', some ⟨bH, oH, none⟩, cHH'⟩, X', E', H', by omega, by go_num, (HV8.out.on (below_drewN' (Below.refl _ _) _)).put (by omega) (by omega) (HS8.out.on (below_drewN' (Below.refl _ _) _)) HNX.out⟩
             case measure => simp [intOf]; omega
    · have HV := Lib.hid V
      clear V
      go_wp2_with fail
      refine (awake9_is _).mono ?_
      rintro e w9 ⟨rfl, B9⟩
      have BF := below_step (below_step HB.out HV.out.bel) B9
      clear B9
      go_wp2_with fail
      go_ret
      exact ⟨rfl, BF⟩
end Go.Proofs.Ytanifbofjecpmaa
