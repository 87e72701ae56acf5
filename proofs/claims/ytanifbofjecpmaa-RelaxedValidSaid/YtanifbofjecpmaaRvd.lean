/- RelaxedValid: the walk. -/
import Derived.Test.YtanifbofjecpmaaRsb
import Derived.Test.YtanifbofjecpmaaRxp
import Derived.Test.YtanifbofjecpmaaRaw
import Derived.Test.YtanifbofjecpmaaRle
import Derived.Test.YtanifbofjecpmaaOpen8
namespace Go.Proofs.Ytanifbofjecpmaa
open Go.RowKit Go.Shelf
set_option maxRecDepth 100000

theorem str_leg {N s t : Nat} {fst hd : Nat → Nat} {X E H : List Int} {e : EvS} (h : strB N s t fst hd X E H e = true) : legI N s t fst X E H e = 0 := by
  unfold strB at h
  rw [Bool.and_eq_true] at h
  exact of_decide_eq_true h.1
/-- The first q of a slice of acts. -/
theorem acts_slice (A : Option Addr) (n c q : Nat) (hq : q ≤ c) (W : World) : (Instr.sliceAt 25 (.slice A n c) none (some (.int .i64 (q : Int))) none).run Try.prog W = .ok (.slice A q c) W := by
  have ht : Try.prog.underlying 25 = some (.slice (Try.prog.elem 25)) := by kernel_rfl
  have hs : ∃ s, ∀ W, (sizeOf (Try.prog.elem 25)).run Try.prog W = .ok s W := ⟨9, fun W => by kernel_rfl⟩
  obtain ⟨s, hs⟩ := hs
  rw [run_sliceAt_slice _ _ _ _ _ _ ht, run_slice_h _ _ _ _ _ ht _ _ (by omega) (by omega), hs]
  simp only [Result.andThen, sliced, Nat.zero_mul, Nat.sub_zero, Int.toNat_natCast]
  congr 2
  split
  · rfl
  · cases A with
    | none => rfl
    | some a => obtain ⟨b, o, s⟩ := a; cases s <;> simp [Addr.add]
theorem acts_short {w : World} {B n m : Nat} {A : Option Addr} {l : List ActS} (h : Acts w B A n l) (hm : m ≤ n) : Acts w B A m (l.take m) :=
  ⟨by rw [List.length_take, h.1]; omega, fun h0 => by
    obtain ⟨b, off, e, hb, hc⟩ := h.2 (by omega)
    refine ⟨b, off, e, hb, fun k a ha j u hu => hc k a ?_ j u hu⟩
    rw [List.getElem?_take] at ha
    split at ha
    · exact ha
    · cases ha⟩
theorem beg_valid {N M s t : Nat} {fst hd rv ai : Nat → Nat} {cp : Nat → Int} {bk : Nat → Bool} {X E : List Int} (hG : PNet N M s t fst hd rv ai cp bk) (hS : SndIs N M s t hd rv cp X E (begH N s)) : validB N M s t M hd rv X (begH N s) = true := by
  refine valid_iff.2 ⟨⟨hS.lh, hS.src, hS.snk, fun v hv => ?_⟩, fun a ha ho hne => ?_⟩
  · rw [begH_at hG.hs]; split <;> omega
  · rw [begH_at hG.hs, begH_at hG.hs, if_neg (fun e => hne e.symm)]
    split <;> omega

set_option maxHeartbeats 16000000 in
theorem rvalid_walk (N S T : Int) (A : Option Addr) (n c : Nat) (l : List ArcN) (AU : Option Addr) (nu cu : Nat) (U : List ActS) (w : World) (hA : Arcs w w.heap.size A n l) (hf : FitsAll l) (hnc : n ≤ c) (hU : Acts w w.heap.size AU nu U) (hcu : nu ≤ cu) :
    Calls Try.prog 7 #[.agg #[.int .i64 N, .int .i64 S, .int .i64 T, .slice A n c], .slice AU nu cu] w fun e w' => e = .returned (.bool true) ∧ Below w.heap.size w w' := by
  obtain ⟨N1, M, s, t, hso⟩ := some_begun N S T A n c 12 30 l w hA hf hnc (by omega) (by omega) (by omega)
  have HSO := Lib.hid hso; have HU := Lib.hid hU
  clear hso hU hA hf
  go_enter Try.func7, Try.ntmps7
  go_wp2_with fail
  refine (HSO.out _ (below_alloc _)).mono ?_
  rintro e w1 ⟨v, rfl, B1, hbg⟩
  have HBG := Lib.hid hbg
  have B01 := below_step (below_alloc _) B1
  clear hbg HSO
  go_wp2_with fail
  refine (HBG.out _ (Below.refl _ _)).mono ?_
  rintro e w2 ⟨x0, K, Q, fst, hd, rv, ai, cp, bk, X, E, rfl, hP, hI, hR, hS, hx0, B2⟩
  have B02 := below_step B01 B2
  have hI2 := hI.more hR.bas
  have hQ2 := hR.st hS.bal.1 hS.le hS.lh
  have hVd := beg_valid hP hS
  have hN := hP.nN; have hM := hP.nM; have hn2 := hP.n2
  have HP := Lib.hid hP; have HI := Lib.hid hI2; have HQ := Lib.hid hQ2; have HS := Lib.hid hS; have HV := Lib.hid hVd; have HB := Lib.hid B02
  generalize begH N1 s = H at *
  clear hP hI hR hS hI2 hQ2 hVd B01 B02 B1 B2 HBG hx0
  obtain ⟨q, hq⟩ : ∃ q, min nu 60 = q := ⟨_, rfl⟩
  have HUQ := Lib.hid (acts_short (m := q) ((HU.out.below HB.out).more HB.out.size) (by omega))
  obtain ⟨L, hL⟩ : ∃ L, U.take q = L := ⟨_, rfl⟩
  rw [hL] at HUQ
  clear HU hL
  have hsl := acts_slice AU nu cu q (by omega)
  have hm1 : (if (nu : Int) < 60 then (nu : Int) else (60 : Int)) = (q : Int) := by rw [← hq]; split <;> omega
  have hm2 : (if nu < 60 then (nu : Int) else (60 : Int)) = (q : Int) := by rw [← hq]; split <;> omega
  have hm3 : min (nu : Int) 60 = (q : Int) := by omega
  have hm4 : (if (60 : Int) < (nu : Int) then (60 : Int) else (nu : Int)) = (q : Int) := by rw [← hq]; split <;> omega
  have hm5 : (if 60 < nu then (60 : Int) else (nu : Int)) = (q : Int) := by rw [← hq]; split <;> omega
  have h0q : (0 : Int) ≤ (q : Int) := by omega
  have hqc : (q : Int) ≤ (cu : Int) := by omega
  have hq60 : q ≤ 60 := by omega
  clear hq
  obtain ⟨AF, cF, AH, cH, AR, cR, AC, cC, AA, cA, AB, cB⟩ := K
  have hs := HP.out.hs; have ht := HP.out.ht
  have hlv := fun (Q : PreS) X E H W (hb : Below w2.heap.size w2 W) (hq : StIn W W.heap.size M N1 N1 Q X E H) => lvalid_is N1 M s t ⟨AF, cF, AH, cH, AR, cR, AC, cC, AA, cA, AB, cB⟩ fst hd rv Q.AX M Q.cX X Q.AH N1 Q.cH H W HP.out.g ((HI.out.below hb).more hb.size).gi hq.iX hq.iH hs ht hN (by omega)
  have hfi := fun (Q : PreS) X E H ev raw fit W (hb : Below w2.heap.size w2 W) (hq : StIn W W.heap.size M N1 N1 Q X E H) => fitted_is N1 M s t ⟨AF, cF, AH, cH, AR, cR, AC, cC, AA, cA, AB, cB⟩ Q fst hd rv X E H ev raw fit W HP.out.g ((HI.out.below hb).more hb.size).gi hq hN hn2 hM
  have hst := fun (Q : PreS) X E H ev W (hb : Below w2.heap.size w2 W) (hq : StIn W W.heap.size M N1 N1 Q X E H) hs => rstrict_is N1 M s t ⟨AF, cF, AH, cH, AR, cR, AC, cC, AA, cA, AB, cB⟩ Q fst hd rv ai cp bk X E H ev W HP.out ((HI.out.below hb).more hb.size).gi hq hs
  have hmo := fun (Q : PreS) X E H ev W (hb : Below w2.heap.size w2 W) (hq : StIn W W.heap.size M N1 N1 Q X E H) hs => rmove_is N1 M s t ⟨AF, cF, AH, cH, AR, cR, AC, cC, AA, cA, AB, cB⟩ Q fst hd rv ai cp bk X E H ev W HP.out ((HI.out.below hb).more hb.size).gi hq hs
  have HLV := Lib.hid hlv; have HFI := Lib.hid hfi; have HST := Lib.hid hst; have HMO := Lib.hid hmo; have HSL := Lib.hid hsl
  clear hlv hfi hst hmo hsl HI hN hM hn2 hs ht
  dsimp only [csrW, preW, actW, evW] at HLV HFI HST HMO ⊢
  go_upto_region 2 with fail
  obtain ⟨w3, hw3⟩ : ∃ w3, ((w2.alloc (.cells #[.int .i64 (N1 : Int), .int .i64 (s : Int), .int .i64 (t : Int), .slice AF (N1 + 1) cF, .slice AH M cH, .slice AR M cR, .slice AC M cC, .slice AA M cA, .slice AB M cB] 32)).alloc (.cells #[.slice Q.AX M Q.cX, .slice Q.AE N1 Q.cE, .slice Q.AH N1 Q.cH] 29)) = w3 := ⟨_, rfl⟩
  have B3 : Below w2.heap.size w2 w3 := by rw [← hw3]; exact (below_alloc _).alloc (by simp) _
  have V3 : LpI w2 N1 M s t ⟨AF, cF, AH, cH, AR, cR, AC, cC, AA, cA, AB, cB⟩ hd rv cp w2.heap.size (w2.heap.size + 1) Q X E H w3 := by
    refine ⟨B3, ?_, ?_, HQ.out.on B3, HS.out⟩
    · rw [← hw3]; exact (Blk.new rfl).alloc _
    · rw [← hw3]; exact Blk.new (by simp)
  rw [hw3]
  clear hw3 B3
  obtain ⟨c0, c1, c2, c3, c4, c5, c6, c7, c8⟩ := V3.c.at9
  obtain ⟨⟨p0, p1, p2⟩, -, zp⟩ := V3.p.full3
  have zc := V3.c.lt
  have HV3 := Lib.hid V3
  clear V3 HQ HS
  go_wp2_with fail
  refine (HLV.out Q X E H _ HV3.out.bel HV3.out.st).mono ?_
  rw [HV.out]
  rintro e w4 ⟨rfl, B4⟩
  have V4 := HV3.out.on B4
  clear c0 c1 c2 c3 c4 c5 c6 c7 c8 p0 p1 p2 zp zc HV3 B4
  have HX := HSL.out
  go_wp2_with fail
  go_loopw [8, 9, 10, 11, 31] (fun _ _ _ _ i wr => ∃ (k : Nat) (Q : PreS) (X E H : List Int), k ≤ q ∧ i = .int .i64 k ∧ LpI w2 N1 M s t ⟨AF, cF, AH, cH, AR, cR, AC, cC, AA, cA, AB, cB⟩ hd rv cp w2.heap.size (w2.heap.size + 1) Q X E H wr ∧ validB N1 M s t M hd rv X H = true) (fun _ _ _ _ i _ => q - (intOf i).toNat)
  case atStart => exact ⟨0, Q, X, E, H, Nat.zero_le _, rfl, V4, HV.out⟩
  case round =>
    clear HV V4 HX
    obtain ⟨k, Q, X, E, H, hk, rfl, V, hvd⟩ := hrel
    by_cases hlt : k < q
    · obtain ⟨b, off, ⟨⟨who, what, eu, arc, d0, h0, low⟩, raw, fit⟩, rfl, hbl, hla, a0, a1, a2, a3, a4, a5, a6, a7, a8⟩ := acts_at (HUQ.out.below V.bel) hlt
      dsimp only at a0 a1 a2 a3 a4 a5 a6 a7 a8
      obtain ⟨c0, c1, c2, c3, c4, c5, c6, c7, c8⟩ := V.c.at9
      obtain ⟨⟨p0, p1, p2⟩, -, zp⟩ := V.p.full3
      have zc := V.c.lt
      have zb : b < wr.heap.size := by have := V.bel.size; omega
      have HV := Lib.hid V; have HVD := Lib.hid hvd
      clear V hla hvd
      go_wp2_with fail
      refine (HFI.out Q X E H ⟨who, what, eu, arc, d0, h0, low⟩ raw fit _ (below_step HV.out.bel (below_alloc _)) (HV.out.on (below_alloc _)).st).mono ?_
      rintro e w5 ⟨⟨who', what', eu', arc', d', h', low'⟩, rfl, B5⟩
      have V5 := (HV.out.on (below_alloc _)).on B5
      clear c0 c1 c2 c3 c4 c5 c6 c7 c8 p0 p1 p2 zp zc zb a0 a1 a2 a3 a4 a5 a6 a7 a8 HV B5 hbl
      obtain ⟨c0, c1, c2, c3, c4, c5, c6, c7, c8⟩ := V5.c.at9
      obtain ⟨⟨p0, p1, p2⟩, -, zp⟩ := V5.p.full3
      have zc := V5.c.lt
      have HV5 := Lib.hid V5
      clear V5
      dsimp only [evW]
      go_wp2_with fail
      refine (HST.out Q X E H ⟨who', what', eu', arc', d', h', low'⟩ _ (below_step HV5.out.bel (below_alloc _)) (HV5.out.on (below_alloc _)).st HV5.out.snd).mono ?_
      rintro e w6 ⟨rfl, B6⟩
      have V6 := (HV5.out.on (below_alloc _)).on B6
      have E6 : Blk w6 w5.heap.size 39 #[.int .i64 who', .int .u8 what', .int .i64 eu', .int .i64 arc', .int .i64 d', .int .i64 h', .int .i64 low'] := (Blk.new rfl).below B6 (by simp)
      clear c0 c1 c2 c3 c4 c5 c6 c7 c8 p0 p1 p2 zp zc HV5 B6
      obtain ⟨c0, c1, c2, c3, c4, c5, c6, c7, c8⟩ := V6.c.at9
      obtain ⟨⟨p0, p1, p2⟩, ⟨f0, f1, f2⟩, zp⟩ := V6.p.full3
      obtain ⟨e0, e1, e2, e3, e4, e5, e6⟩ := E6.at7
      have ze := E6.lt
      have zc := V6.c.lt
      have HV6 := Lib.hid V6; have HE6 := Lib.hid E6
      clear V6 E6
      obtain ⟨sb, hsb⟩ : ∃ sb, strB N1 s t fst hd X E H ⟨who', what', eu', arc', d', h', low'⟩ = sb := ⟨_, rfl⟩
      rw [hsb]
      have HSB := Lib.hid hsb
      clear hsb
      cases sb with
      | false =>
        go_wp2_with fail
        go_roundw
        case rel => exact ⟨k + 1, Q, X, E, H, by omega, by go_num, HV6.out, HVD.out⟩
        case measure => simp [intOf]; omega
      | true =>
        have hgo : (∃ b1 : Bool, b1 = true ∧ (what' == 2) = b1 ∧ (N1 : Int) < h') ∨ (what' = 2 → h' ≤ N1) := by
          by_cases h1 : what' = 2
          · by_cases h2 : (N1 : Int) < h'
            · exact .inl ⟨_, rfl, by simp [h1], h2⟩
            · exact .inr fun _ => by omega
          · exact .inr fun h => absurd h h1
        rcases hgo with ⟨_, rfl, h1, h2⟩ | hgo
        · have h3 : decide ((N1 : Int) < h') = true := decide_eq_true h2
          go_wp2_with fail
          go_roundw
          case rel => exact ⟨k + 1, Q, X, E, H, by omega, by go_num, HV6.out, HVD.out⟩
          case measure => simp [intOf]; omega
        · have hnv := str_valid HP.out HV6.out.snd HVD.out HSB.out hgo
          have hnx := HV6.out.snd.next (fst := fst) HP.out ⟨who', what', eu', arc', d', h', low'⟩
          have hl0 := str_leg HSB.out
          have HNV := Lib.hid hnv; have HNX := Lib.hid hnx; have HL0 := Lib.hid hl0
          clear hnv hnx hl0
          have hor : ((what' == 2) = false) ∨ ((what' == 2) = true ∧ decide ((N1 : Int) < h') = false) := by
            by_cases h1 : what' = 2
            · exact .inr ⟨by simp [h1], decide_eq_false (by have := hgo h1; omega)⟩
            · exact .inl (by simpa using h1)
          clear hgo
          rcases hor with g1 | ⟨g1, g2⟩
          all_goals
            go_wp2_with fail
            refine (HMO.out Q X E H ⟨who', what', eu', arc', d', h', low'⟩ _ HV6.out.bel HV6.out.st HV6.out.snd).mono ?_
            rintro e w7 ⟨Q', rfl, B7, st7⟩
            rw [HL0.out]
            generalize nxX N1 s t fst rv X E H ⟨who', what', eu', arc', d', h', low'⟩ = X' at *
            generalize nxE N1 s t fst hd rv X E H ⟨who', what', eu', arc', d', h', low'⟩ = E' at *
            generalize nxH N1 s t fst X E H ⟨who', what', eu', arc', d', h', low'⟩ = H' at *
            have V7 := HV6.out.on B7
            have HS7 := Lib.hid st7
            clear st7 B7 c0 c1 c2 c3 c4 c5 c6 c7 c8 p0 p1 p2 zp zc f0 f1 f2 e0 e1 e2 e3 e4 e5 e6 ze
            obtain ⟨c0, c1, c2, c3, c4, c5, c6, c7, c8⟩ := V7.c.at9
            obtain ⟨⟨p0, p1, p2⟩, ⟨f0, f1, f2⟩, zp⟩ := V7.p.full3
            have zc := V7.c.lt
            have HV7 := Lib.hid V7
            clear V7
            go_wp2_with fail
            refine (HLV.out Q' X' E' H' _ (below_step HV7.out.bel (below_alloc _)) (HS7.out.on (below_alloc _))).mono ?_
            rw [HNV.out]
            rintro e w8 ⟨rfl, B8⟩
            have V8 := (HV7.out.on (below_alloc _)).on B8
            have S8 := (HS7.out.on (below_alloc _)).on B8
            have T8 : Blk w8 w7.heap.size 29 #[.slice Q'.AX M Q'.cX, .slice Q'.AE N1 Q'.cE, .slice Q'.AH N1 Q'.cH] := (Blk.new rfl).below B8 (by simp)
            clear c0 c1 c2 c3 c4 c5 c6 c7 c8 p0 p1 p2 f0 f1 f2 zp zc
            obtain ⟨⟨p0, p1, p2⟩, ⟨f0, f1, f2⟩, zp⟩ := V8.p.full3
            obtain ⟨⟨q0, q1, q2⟩, -, zq⟩ := T8.full3
            have R8 := Lib.hid (V8.put (by omega) (by omega) S8 HNX.out)
            clear V8 S8 T8 B8
            go_wp2_with fail
            go_roundw
            case rel => exact ⟨k + 1, Q', X', E', H', by omega, by go_num, R8.out, HNV.out⟩
            case measure => simp [intOf]; omega
    · have HV := Lib.hid V
      clear V hvd
      go_wp2_with fail
      refine (awake9_is _).mono ?_
      rintro e w9 ⟨rfl, B9⟩
      have BF := below_step (below_step HB.out HV.out.bel) B9
      clear B9
      go_wp2_with fail
      go_ret
      exact ⟨rfl, BF⟩
end Go.Proofs.Ytanifbofjecpmaa
