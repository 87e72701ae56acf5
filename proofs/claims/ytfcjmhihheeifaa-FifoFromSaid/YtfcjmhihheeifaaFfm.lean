/- FifoFrom: the walk. (Written by wip/gen_ffm.py.) -/
import Derived.Test.YtfcjmhihheeifaaFcmp
import Derived.Test.YtfcjmhihheeifaaPlay
import Derived.Test.YtfcjmhihheeifaaSomes
import Derived.Deep.DeepCutAuto
import Derived.Deep.CutBlock
import Derived.Deep.RegionHeld3
namespace Go.Proofs.Ytfcjmhihheeifaa
open Go.RowKit
set_option maxRecDepth 100000
attribute [local go_sem] Oper.semAt_some

/-- A right flow behind which the sink isn't reached is worth what some side holds, and no side holds less. -/
theorem least_of {N s t : Nat} {l : List ArcN} {F : List Int} (hck : checkF N s t l = 0) (hs : s < N) (ht : t < N) (h1 : FlowIn l F) (h2 : RightIn N s t l F) (h3 : ¬ Star (Opn l F) (s : Int) (t : Int)) : LeastCut N s t l (exOf l F t) := by
  classical
  obtain ⟨K, hKl, hK⟩ : ∃ K : List Bool, K.length = N ∧ ∀ v : Nat, v < N → (inS K (v : Int) = true ↔ ¬ Star (Opn l F) (v : Int) (t : Int)) := by
    refine ⟨(List.range N).map fun v => decide (¬ Star (Opn l F) ((v : Nat) : Int) (t : Int)), by simp, fun v hv => ?_⟩
    have : ((List.range N).map fun v => decide (¬ Star (Opn l F) ((v : Nat) : Int) (t : Int)))[v]? = some (decide (¬ Star (Opn l F) (v : Int) (t : Int))) := by simp [hv]
    rw [inS_at this, decide_eq_true_iff]
  have hcut := to_cut hs ht hKl h3 hK
  have htight := to_tight (ends_in hck).2.2.2.1 h1 hK
  refine ⟨⟨K, hcut, ?_⟩, fun C hC => ?_⟩
  · rw [← (acc_cap h1).2.2 htight, acc_value hck hcut h2]
  · rw [← acc_value hck hC h2]; exact (acc_cap h1).1

set_option maxHeartbeats 16000000 in
theorem ffrom_walk (N S T : Int) (A : Option Addr) (n c : Nat) (l : List ArcN) (AU : Option Addr) (nu cu : Nat) (U : List Int) (w : World) (hA : Arcs w w.heap.size A n l) (hf : FitsAll l) (hnc : n ≤ c) (hU : Bytes w w.heap.size AU nu U) (hUR : ∀ x ∈ U, 0 ≤ x ∧ x ≤ 255) (hcu : nu ≤ cu) :
    Calls Try.prog 7 #[.agg #[.int .i64 N, .int .i64 S, .int .i64 T, .slice A n c], .slice AU nu cu] w fun e w' => e = .returned (.bool true) ∧ Below w.heap.size w w' := by
  have hso := fun W hW => some_any N S T A n c 12 30 l W hW hf hnc (by omega) (by omega) (by omega)
  obtain ⟨N1, hN1, hN2, hN3, hck, hln, hmem⟩ := some_net N S T 12 30 l (by omega) (by omega) (by omega)
  rw [hN1] at hso hck hln hmem
  generalize S % (N1 : Int) = S1 at *
  generalize someT (N1 : Int) S T = T1 at *
  generalize someL (N1 : Int) 30 l = l1 at *
  obtain ⟨-, -, -, -, hs0, hs1, ht0, ht1, hst, -, -⟩ := ends_in hck
  obtain ⟨s, rfl⟩ := Int.eq_ofNat_of_zero_le hs0
  obtain ⟨t, rfl⟩ := Int.eq_ofNat_of_zero_le ht0
  obtain ⟨M, fst, hd, rv, ai, cp, bk, hMe, hG, hI, hai, hEnd⟩ := net_rowe hck
  have hM := hG.nM; have hN := hG.nN; have hn2 := hG.n2; have hsN := hG.hs; have htN := hG.ht
  have hbeg : OkS N1 M s t hd rv cp (begT N1 M s fst hd rv cp) := beg_ok hG (k := fst (s + 1) - fst s) (by have := hG.g.mono s hG.hs; omega)
  have hsol := fun A n c W hA => solve_least N1 s t n c A l1 W hA hck
  have hmk := fun A n c W (hA : Arcs W W.heap.size A n l1) => make_good N1 s t A n c l1 W hA hck
  have hbg := fun W gF gHd gR gC gA gB (h : CsrAt W W.heap.size N1 l1 gF gHd gR gC gA gB) => begin_is N1 M s t (csrK N1 M gF gHd gR gC gA gB) fst hd rv ai cp bk W hG (hI _ _ _ _ _ _ _ _ h)
  have hrn := fun W gF gHd gR gC gA gB Q (Z : StN) (h : CsrAt W W.heap.size N1 l1 gF gHd gR gC gA gB) (hQ : StIn W W.heap.size M N1 N1 Q Z.1 Z.2.1 Z.2.2) (hS : OkS N1 M s t hd rv cp Z) => frun_is N1 M s t (2 * N1) gF gHd gR gC gA gB l1 Q fst hd rv ai cp bk Z.1 Z.2.1 Z.2.2 W h hck hMe hG hI hQ hS (fun v hv _ => by have := (StIs.bnd hS v hv).2; omega) (by omega)
  have hrt := fun W gF gHd gR gC gA gB Q X E H (h : CsrAt W W.heap.size N1 l1 gF gHd gR gC gA gB) (hQ : StIn W W.heap.size M N1 N1 Q X E H) (hS : StIs N1 M s t hd rv cp X E H) => pright_is N1 M s t M N1 N1 (csrK N1 M gF gHd gR gC gA gB) Q fst hd rv ai cp bk X E H W hG (hI _ _ _ _ _ _ _ _ h) hQ (st_inr hG hS).1 (st_inr hG hS).2.2 true ⟨fun _ => ⟨rfl, rfl, rfl, hS⟩, fun _ => rfl⟩
  have hmay := fun W gF gHd gR gC gA gB Q (Z : StN) (h : CsrAt W W.heap.size N1 l1 gF gHd gR gC gA gB) (hQ : StIn W W.heap.size M N1 N1 Q Z.1 Z.2.1 Z.2.2) (hS : OkS N1 M s t hd rv cp Z) => may_is N1 M s t (csrK N1 M gF gHd gR gC gA gB) Q fst hd rv ai cp bk Z.1 Z.2.1 Z.2.2 W hG (hI _ _ _ _ _ _ _ _ h) hQ hS
  have hpsh := fun W gF gHd gR gC gA gB Q (Z : StN) (b : Nat) (h : CsrAt W W.heap.size N1 l1 gF gHd gR gC gA gB) (hQ : StIn W W.heap.size M N1 N1 Q Z.1 Z.2.1 Z.2.2) (hS : OkS N1 M s t hd rv cp Z) => push_ok (a := b) hG (hI _ _ _ _ _ _ _ _ h) hQ hS
  have hlft := fun W gF gHd gR gC gA gB Q (Z : StN) (u : Nat) (h : CsrAt W W.heap.size N1 l1 gF gHd gR gC gA gB) (hQ : StIn W W.heap.size M N1 N1 Q Z.1 Z.2.1 Z.2.2) (hS : OkS N1 M s t hd rv cp Z) => lift_ok (u := u) hG (hI _ _ _ _ _ _ _ _ h) hQ hS
  have hma : ∀ (Z : StN) (j b : Nat), (mayA fst hd rv Z.1 Z.2.2 (selTo (actB s t Z.2.1) N1))[j]? = some b → b < M ∧ actB s t Z.2.1 (hd (rv b)) = true ∧ admB hd rv Z.1 Z.2.2 b = true := fun Z j b h => by
    have := List.mem_of_getElem? h
    rw [mayA_sel hG.g N1 (Nat.le_refl _), hG.g.fN] at this
    have := sel_mem.1 this
    simpa using this
  have hmv : ∀ (Z : StN) (j u : Nat), (mayV fst hd rv Z.1 Z.2.2 (selTo (actB s t Z.2.1) N1))[j]? = some u → u < N1 ∧ actB s t Z.2.1 u = true ∧ downs fst hd rv Z.1 Z.2.2 u = [] := fun Z j u h => by
    have := List.mem_of_getElem? h
    simp only [mayV, List.mem_filter, List.isEmpty_iff] at this
    exact ⟨(sel_mem.1 this.1).1, (sel_mem.1 this.1).2, this.2⟩
  have hfl := fun W gF gHd gR gC gA gB n AX cX X E H (h : CsrAt W W.heap.size N1 l1 gF gHd gR gC gA gB) (hX : Ints W W.heap.size AX M X) (hS : StIs N1 M s t hd rv cp X E H) (hn : n = l1.length) => flow3 N1 M s t n (csrK N1 M gF gHd gR gC gA gB) fst hd rv ai cp bk AX cX X W hG (hI _ _ _ _ _ _ _ _ h) hX (st_inr hG hS).1 hS.bal (by omega) (fun b hb => by have := hai b hb; omega)
  have hlenS := fun X E H (hS : StIs N1 M s t hd rv cp X E H) => (⟨hS.bal.1, hS.le, hS.lh⟩ : X.length = M ∧ E.length = N1 ∧ H.length = N1)
  have hlst := fun F (h1 : FlowIn l1 F) (h2 : RightIn N1 s t l1 F) h3 => least_of hck hsN htN h1 h2 h3
  have HSO := Lib.hid hso; have HSOL := Lib.hid hsol; have HMK := Lib.hid hmk; have HBG := Lib.hid hbg; have HRN := Lib.hid hrn; have HRT := Lib.hid hrt; have HMAY := Lib.hid hmay; have HPSH := Lib.hid hpsh; have HLFT := Lib.hid hlft; have HMA := Lib.hid hma; have HMV := Lib.hid hmv; have HFL := Lib.hid hfl; have HLS := Lib.hid hlenS; have HLST := Lib.hid hlst; have HBE := Lib.hid hbeg; have HME := Lib.hid hMe; have HEN := Lib.hid hEnd; have HCK := Lib.hid hck; have HU := Lib.hid hU; have HUR := Lib.hid hUR
  clear hso hsol hmk hbg hrn hrt hmay hpsh hlft hma hmv hfl hlenS hlst hbeg hMe hEnd hck hN1 hmem hs0 hs1 ht0 ht1 hst hG hI hai hU hUR
  go_enter Try.func7, Try.ntmps7
  go_wp2_with fail
  refine (HSO.out _ (hA.onAlloc _)).mono ?_
  rintro e w1 ⟨A1, n1, c1, rfl, o1, hl1, B1⟩
  have K1 : Blk w1 w.heap.size 24 #[.int .i64 N, .int .i64 S, .int .i64 T, .slice A n c] := (Blk.new rfl).below B1 (by simp)
  have hz1 := K1.lt
  obtain ⟨r0, r1, r2, r3⟩ := K1.at4
  obtain ⟨f0, f1, f2, f3⟩ := K1.free4
  have ST := some_stored K1 o1 hl1 (below_step (below_alloc _) B1) (.int .i64 (N1 : Int)) (.int .i64 (s : Int)) (.int .i64 (t : Int))
  go_upto_region 2 with fail
  generalize (((w1.setCell ⟨w.heap.size, 0, none⟩ (.int .i64 (N1 : Int))).setCell ⟨w.heap.size, 1, none⟩ (.int .i64 (s : Int))).setCell ⟨w.heap.size, 2, none⟩ (.int .i64 (t : Int))).setCell ⟨w.heap.size, 3, none⟩ (.slice A1 n1 c1) = w0 at *
  obtain ⟨K0, a0, Bw0⟩ := ST
  have HA0 := Lib.hid a0; have HB0 := Lib.hid Bw0; have HK0 := Lib.hid K0
  clear r0 r1 r2 r3 f0 f1 f2 f3 K1 o1 B1 hz1 HSO a0 Bw0 hA hf
  obtain ⟨m0, m1, m2, m3⟩ := HK0.out.at4
  have hz0 := HK0.out.lt
  clear K0
  go_wp2_with fail
  refine (HSOL.out A1 n1 c1 w0 HA0.out).mono ?_
  rintro e w2 ⟨gf, gs, v, P0, L0, rfl, hv, B2⟩
  have HV := Lib.hid hv
  have HA2 := Lib.hid (HA0.out.on B2); have HK2 := Lib.hid (HK0.out.below B2 HK0.out.lt); have HB2 := Lib.hid (below_step HB0.out B2)
  clear hv B2 m0 m1 m2 m3 hz0
  go_upto_region 3 with fail
  obtain ⟨v0, hv0⟩ : ∃ v0, ((w2.alloc (.cells #[.slice (some ⟨gf, 0, none⟩) n1 n1, .slice (some ⟨gs, 0, none⟩) N1 N1, .int .i64 v] 29)).alloc (.cells #[.int .i64 (P0 : Int), .int .i64 (L0 : Int)] 31)) = v0 := ⟨_, rfl⟩
  have X2 : Below w2.heap.size w2 v0 := by rw [← hv0]; exact (below_alloc _).alloc (by simp) _
  obtain ⟨ga, hga⟩ : ∃ g, w2.heap.size = g := ⟨_, rfl⟩
  have Q0 : Blk v0 ga 29 #[.slice (some ⟨gf, 0, none⟩) n1 n1, .slice (some ⟨gs, 0, none⟩) N1 N1, .int .i64 v] := by rw [← hv0, ← hga]; exact (Blk.new rfl).alloc _
  rw [hv0, hga]
  have HA3 := Lib.hid (HA2.out.on X2); have HK3 := Lib.hid (HK2.out.below X2 HK2.out.lt); have HB3 := Lib.hid (below_step HB2.out X2); have HQ3 := Lib.hid Q0
  clear hv0 X2 Q0 hga
  obtain ⟨m0, m1, m2, m3⟩ := HK3.out.at4
  have hz0 := HK3.out.lt
  go_wp2_with fail
  refine (HMK.out A1 n1 c1 v0 HA3.out).mono ?_
  rintro e v3 ⟨gF, gHd, gR, gC, gA, gB, rfl, hgs, C6, B6⟩
  rw [HME.out]
  have HC6 := Lib.hid C6; have HK6 := Lib.hid (HK3.out.below B6 HK3.out.lt); have HB6 := Lib.hid (below_step HB3.out B6); have HQ6 := Lib.hid (HQ3.out.below B6 HQ3.out.lt); have HA6 := Lib.hid (HA3.out.on B6)
  clear B6 C6 hgs m0 m1 m2 m3 hz0
  go_upto_region 4 with fail
  obtain ⟨v4, hv4⟩ : ∃ v4, v3.alloc (.cells #[.int .i64 (N1 : Int), .int .i64 (s : Int), .int .i64 (t : Int), .slice (some ⟨gF, 0, none⟩) (N1 + 1) (N1 + 1), .slice (some ⟨gHd, 0, none⟩) M M, .slice (some ⟨gR, 0, none⟩) M M, .slice (some ⟨gC, 0, none⟩) M M, .slice (some ⟨gA, 0, none⟩) M M, .slice (some ⟨gB, 0, none⟩) M M] 45) = v4 := ⟨_, rfl⟩
  have X2 : Below v3.heap.size v3 v4 := by rw [← hv4]; exact below_alloc _
  obtain ⟨gc, hgc⟩ : ∃ g, v3.heap.size = g := ⟨_, rfl⟩
  have D2 : Blk v4 gc 45 #[.int .i64 (N1 : Int), .int .i64 (s : Int), .int .i64 (t : Int), .slice (some ⟨gF, 0, none⟩) (N1 + 1) (N1 + 1), .slice (some ⟨gHd, 0, none⟩) M M, .slice (some ⟨gR, 0, none⟩) M M, .slice (some ⟨gC, 0, none⟩) M M, .slice (some ⟨gA, 0, none⟩) M M, .slice (some ⟨gB, 0, none⟩) M M] := by rw [← hv4, ← hgc]; exact Blk.new rfl
  have HC7 := Lib.hid (HC6.out.on X2); have HB7 := Lib.hid (below_step HB6.out X2); have HK7 := Lib.hid (HK6.out.below X2 HK6.out.lt); have HQ7 := Lib.hid (HQ6.out.below X2 HQ6.out.lt); have HA7 := Lib.hid (HA6.out.on X2); have HD7 := Lib.hid D2
  rw [hv4, hgc]
  clear hv4 X2 D2 hgc
  obtain ⟨a0, a1, a2, a3, a4, a5, a6, a7, a8⟩ := HD7.out.at9
  have hz0 := HD7.out.lt
  go_wp2_with fail
  refine (HBG.out v4 gF gHd gR gC gA gB HC7.out).mono ?_
  rintro e w6 ⟨Q6, rfl, HX6⟩
  have b6 := HX6.bel
  have HT6 := Lib.hid (HX6.st HBE.out.bal.1 HBE.out.le HBE.out.lh)
  have HC8 := Lib.hid (HC7.out.on b6); have HB8 := Lib.hid (below_step HB7.out b6); have HK8 := Lib.hid (HK7.out.below b6 HK7.out.lt); have HQ8 := Lib.hid (HQ7.out.below b6 HQ7.out.lt); have HA8 := Lib.hid (HA7.out.on b6); have HD8 := Lib.hid (HD7.out.below b6 HD7.out.lt)
  clear b6 HX6 a0 a1 a2 a3 a4 a5 a6 a7 a8 hz0
  obtain ⟨AX, cX, AE, cE, AHH, cHH⟩ := Q6
  dsimp only [preW]
  go_upto_region 7 with fail
  obtain ⟨g10, hg10⟩ : ∃ g, w6.heap.size = g := ⟨_, rfl⟩
  obtain ⟨w7, hw7⟩ : ∃ W, w6.alloc (.cells #[.slice AX M cX, .slice AE N1 cE, .slice AHH N1 cHH] 49) = W := ⟨_, rfl⟩
  have X7 : Below w6.heap.size w6 w7 := by rw [← hw7]; exact below_alloc _
  have P7 : Blk w7 g10 49 #[.slice AX M cX, .slice AE N1 cE, .slice AHH N1 cHH] := by rw [← hw7, ← hg10]; exact Blk.new rfl
  have T7 := HT6.out.on X7
  have HW0 := Lib.hid (show ∀ W, Below g10 w6 W → CsrAt W W.heap.size N1 l1 gF gHd gR gC gA gB ∧ Blk W gc 45 #[.int .i64 (N1 : Int), .int .i64 (s : Int), .int .i64 (t : Int), .slice (some ⟨gF, 0, none⟩) (N1 + 1) (N1 + 1), .slice (some ⟨gHd, 0, none⟩) M M, .slice (some ⟨gR, 0, none⟩) M M, .slice (some ⟨gC, 0, none⟩) M M, .slice (some ⟨gA, 0, none⟩) M M, .slice (some ⟨gB, 0, none⟩) M M] ∧ Blk W w.heap.size 24 #[.int .i64 (N1 : Int), .int .i64 (s : Int), .int .i64 (t : Int), .slice A1 n1 c1] ∧ Blk W ga 29 #[.slice (some ⟨gf, 0, none⟩) n1 n1, .slice (some ⟨gs, 0, none⟩) N1 N1, .int .i64 v] ∧ Arcs W W.heap.size A1 n1 l1 ∧ Below w.heap.size w W ∧ gc < g10 from fun W hb => by
    rw [← hg10] at hb ⊢
    exact ⟨HC8.out.on hb, HD8.out.below hb HD8.out.lt, HK8.out.below hb HK8.out.lt, HQ8.out.below hb HQ8.out.lt, HA8.out.on hb, below_step HB8.out hb, HD8.out.lt⟩)
  rw [hg10] at X7
  rw [hw7, hg10]
  have HP7 := Lib.hid P7; have HT7 := Lib.hid T7; have HX7 := Lib.hid X7
  clear hw7 X7 P7 T7 HC8 HB8 HK8 HQ8 HA8 HD8 HT6
  obtain ⟨q, hq⟩ : ∃ q, min nu 60 = q := ⟨_, rfl⟩
  have hnl := HU.out.len
  have HQN := Lib.hid (show q ≤ nu by omega)
  have hq60 : q ≤ 60 := by omega
  have hqc : (q : Int) ≤ (cu : Int) := by omega
  have h0q : (0 : Int) ≤ (q : Int) := by omega
  have hsl := bytes_slice AU nu cu q (by omega)
  have hm1 : min (nu : Int) 60 = (q : Int) := by omega
  have hm2 : (if (60 : Int) < (nu : Int) then (60 : Int) else (nu : Int)) = (q : Int) := by rw [← hm1]; split <;> omega
  have hm3 : (if 60 < nu then (60 : Int) else (nu : Int)) = (q : Int) := by rw [← hm1]; split <;> omega
  have hm4 : (if (nu : Int) < 60 then (nu : Int) else (60 : Int)) = (q : Int) := by rw [← hm1]; split <;> omega
  have hm5 : (if nu < 60 then (nu : Int) else (60 : Int)) = (q : Int) := by rw [← hm1]; split <;> omega
  go_upto_region 8 with fail
  clear hm1 hm2 hm3 hm4 hm5 hsl hq
  go_loopw [7, 12, 13, 14, 15, 49] (fun u7 _ _ _ _ i wr => ∃ (k : Nat) (Z : StN) (Q : PreS), k ≤ q ∧ i = .int .i64 k ∧ u7 = .int .i64 0 ∧ Below g10 w6 wr ∧ Blk wr g10 49 #[.slice Q.AX M Q.cX, .slice Q.AE N1 Q.cE, .slice Q.AH N1 Q.cH] ∧ StIn wr wr.heap.size M N1 N1 Q Z.1 Z.2.1 Z.2.2 ∧ OkS N1 M s t hd rv cp Z) (fun _ _ _ _ _ i _ => q - (intOf i).toNat)
  case atStart => exact ⟨0, begT N1 M s fst hd rv cp, ⟨AX, cX, AE, cE, AHH, cHH⟩, Nat.zero_le _, rfl, rfl, HX7.out, HP7.out, HT7.out, HBE.out⟩
  case round =>
    clear HX7 HP7 HT7 HBE
    obtain ⟨k, Z, Q, hk, rfl, rfl, hbw, P3, hsi, hok⟩ := hrel
    obtain ⟨AX, cX, AE, cE, AHH, cHH⟩ := Q
    dsimp only at P3
    obtain ⟨C3, D3, K3, Q3, A3, B3, hgc10⟩ := HW0.out wr hbw
    obtain ⟨a0, a1, a2, a3, a4, a5, a6, a7, a8⟩ := D3.at9
    obtain ⟨⟨p0, p1, p2⟩, -, hz2⟩ := P3.full3
    have hz1 := D3.lt
    have hgw : g10 < wr.heap.size := P3.lt
    by_cases hlt : k < q
    · obtain ⟨b, off, x, rfl, hb, hx, cx⟩ := bytes_at ((HU.out.below B3).more B3.size) (show k < nu by have := HQN.out; omega)
      have hxr := HUR.out x (List.mem_of_getElem? hx)
      obtain ⟨x, rfl⟩ := Int.eq_ofNat_of_zero_le hxr.1
      have hx255 : x ≤ 255 := by omega
      have hmc := HMAY.out wr gF gHd gR gC gA gB ⟨AX, cX, AE, cE, AHH, cHH⟩ Z C3 hsi hok
      have hma := HMA.out Z; have hmv := HMV.out Z
      obtain ⟨a, ha⟩ : ∃ a, mayA fst hd rv Z.1 Z.2.2 (selTo (actB s t Z.2.1) N1) = a := ⟨_, rfl⟩
      obtain ⟨vv, hv⟩ : ∃ v, mayV fst hd rv Z.1 Z.2.2 (selTo (actB s t Z.2.1) N1) = v := ⟨_, rfl⟩
      rw [ha, hv] at hmc
      rw [ha] at hma
      rw [hv] at hmv
      dsimp only [preW] at hmc
      have HMC := Lib.hid hmc; have HMA2 := Lib.hid hma; have HMV2 := Lib.hid hmv; have HBW := Lib.hid hbw; have HP3 := Lib.hid P3; have HSI := Lib.hid hsi; have HOK := Lib.hid hok
      clear hmc hma hmv ha hv C3 D3 K3 Q3 A3 P3 hsi hok hbw hx hxr hb B3
      go_wp2_with fail
      refine HMC.out.mono ?_
      rintro e w8 ⟨AA1, ca1, AA2, ca2, rfl, HX8⟩
      have h38 := HX8.bel
      have hBW8 := HBW.out.trans (h38.mono (by omega))
      have HP8 := Lib.hid (HP3.out.below h38 HP3.out.lt); have HSI8 := Lib.hid (HSI.out.on h38); have HX8' := Lib.hid HX8; have HBW8 := Lib.hid hBW8
      obtain ⟨na, hna⟩ : ∃ n, a.length = n := ⟨_, rfl⟩
      obtain ⟨nv, hnv⟩ : ∃ n, vv.length = n := ⟨_, rfl⟩
      rw [hna, hnv]
      have HNA := Lib.hid hna; have HNV := Lib.hid hnv
      have hg8 : g10 < w8.heap.size := HP8.out.lt
      clear a0 a1 a2 a3 a4 a5 a6 a7 a8 p0 p1 p2 hz2 hz1 h38 HX8 hBW8 HMC HP3 HSI HBW hna hnv cx
      obtain ⟨qq, hqq⟩ : ∃ q, x / 2 = q := ⟨_, rfl⟩
      have hqi : IntKind.i64.wrap ((x : Int) / 2) = (qq : Int) := by rw [wrap_in (by omega) (by omega), ← hqq]; omega
      have hwx : IntKind.i64.wrap (x : Int) = (x : Int) := wrap_in (by omega) (by omega)
      have hqd : (x : Int).tdiv 2 = (qq : Int) := by rw [Int.tdiv_eq_ediv_of_nonneg (by omega), ← hqq]; omega
      have htm : (x : Int).tmod 2 = ((x % 2 : Nat) : Int) := by rw [Int.tmod_eq_emod_of_nonneg (by omega)]; omega
      have hwq : IntKind.i64.wrap (qq : Int) = (qq : Int) := wrap_in (by omega) (by omega)
      clear hqq
      obtain ⟨e2, he2⟩ : ∃ e, x % 2 = e := ⟨_, rfl⟩
      rw [he2] at htm
      have he22 : e2 < 2 := by omega
      clear he2
      have hcase : (0 < na ∧ (e2 = 0 ∨ (e2 = 1 ∧ nv = 0))) ∨ (0 < nv ∧ ((0 < na ∧ e2 = 1) ∨ na = 0)) ∨ (na = 0 ∧ nv = 0) := by omega
      rcases hcase with ⟨hna, hcs⟩ | ⟨hnv, hcs⟩ | ⟨hna, hnv⟩
      · obtain ⟨j, hj⟩ : ∃ j, qq % na = j := ⟨_, rfl⟩
        have hjl : j < na := by rw [← hj]; exact Nat.mod_lt _ hna
        have hji : (qq : Int).tmod (na : Int) = (j : Int) := by rw [Int.tmod_eq_emod_of_nonneg (by omega), ← hj]; omega
        clear hj
        obtain ⟨aj, haj⟩ : ∃ aj, a[j]? = some aj := ⟨_, List.getElem?_eq_getElem (by have := HNA.out; omega)⟩
        obtain ⟨m1, m2, m3⟩ := HMA2.out j aj haj
        have hvj : (nvs a)[j]? = some (.int .i64 (aj : Int)) := by simp only [nvs, List.getElem?_map, haj, Option.map_some]
        obtain ⟨gl, hgl⟩ := own_some (n := a.length) (A := AA1) (HX8'.out.held.own 0 _ rfl) (by have := HNA.out; omega)
        subst hgl
        obtain ⟨hcj, -, hzj, -⟩ := HX8'.out.cell (i := 0) (j := j) rfl (by have := HNA.out; omega) hvj
        have hgne : g10 ≠ gl := by have := (HX8'.out.held.own 0 _ rfl).lt gl rfl; omega
        have HM3 := Lib.hid (And.intro m1 (And.intro m2 m3)); have HCJ := Lib.hid (And.intro hcj hzj)
        clear m1 m2 m3 hvj haj hcj hzj
        have hn1p : (0 : Int) < (na : Int) := by omega
        have hn1z : ¬ na = 0 := by omega
        rcases hcs with rfl | ⟨rfl, rfl⟩
        all_goals
          go_upto_region 13 with fail
          obtain ⟨w9, hw9⟩ : ∃ W, w8.drew = W := ⟨_, rfl⟩
          have b89 : Below w8.heap.size w8 w9 := by rw [← hw9]; exact (Below.refl _ w8).drew
          have HBW9 := Lib.hid (HBW8.out.trans (b89.mono (by omega))); have HP9 := Lib.hid (HP8.out.below b89 HP8.out.lt); have HSI9 := Lib.hid (HSI8.out.on b89)
          have hcj9 := (b89.cell (p := ⟨gl, j, none⟩) HCJ.out.2).trans HCJ.out.1
          have hgl9 : gl < w9.heap.size := by have := HCJ.out.2; have := b89.size; omega
          obtain ⟨C9, D9, -, -, -, -, hgc10⟩ := HW0.out w9 HBW9.out
          obtain ⟨Z', dd, hnx, hok', hcall⟩ := HPSH.out w9 gF gHd gR gC gA gB ⟨AX, cX, AE, cE, AHH, cHH⟩ Z aj C9 HSI9.out HOK.out HM3.out.1 HM3.out.2.1 HM3.out.2.2
          dsimp only [csrW, preW] at hcall
          have HCALL := Lib.hid hcall; have HOK' := Lib.hid hok'
          have hkeep : ∀ W', Kps (fun k _ => k ≠ g10) w9 W' → Kps (fun k _ => k ≠ g10) w9 W' ∧ W'.cell? ⟨gc, 0, none⟩ = some (.int .i64 (N1 : Int)) ∧ W'.cell? ⟨gc, 1, none⟩ = some (.int .i64 (s : Int)) ∧ W'.cell? ⟨gc, 2, none⟩ = some (.int .i64 (t : Int)) ∧ W'.cell? ⟨gc, 3, none⟩ = some (.slice (some ⟨gF, 0, none⟩) (N1 + 1) (N1 + 1)) ∧ W'.cell? ⟨gc, 4, none⟩ = some (.slice (some ⟨gHd, 0, none⟩) M M) ∧ W'.cell? ⟨gc, 5, none⟩ = some (.slice (some ⟨gR, 0, none⟩) M M) ∧ W'.cell? ⟨gc, 6, none⟩ = some (.slice (some ⟨gC, 0, none⟩) M M) ∧ W'.cell? ⟨gc, 7, none⟩ = some (.slice (some ⟨gA, 0, none⟩) M M) ∧ W'.cell? ⟨gc, 8, none⟩ = some (.slice (some ⟨gB, 0, none⟩) M M) ∧ W'.cell? ⟨gl, j, none⟩ = some (.int .i64 (aj : Int)) := fun W' hb => by
            obtain ⟨a0, a1, a2, a3, a4, a5, a6, a7, a8⟩ := (hb.blk D9 (by omega)).at9
            exact ⟨hb, a0, a1, a2, a3, a4, a5, a6, a7, a8, hb.cell (p := ⟨gl, j, none⟩) (fun _ _ e => hgne e.symm) hcj9⟩
          have HKEEP := Lib.hid hkeep
          obtain ⟨⟨p0, p1, p2⟩, -, hz2⟩ := HP9.out.full3
          clear hcall hnx hok' hkeep b89 C9 D9 hcj9
          refine wp_region_held_drew (S := fun W' => Kps (fun k _ => k ≠ g10) w9 W' ∧ W'.cell? ⟨gc, 0, none⟩ = some (.int .i64 (N1 : Int)) ∧ W'.cell? ⟨gc, 1, none⟩ = some (.int .i64 (s : Int)) ∧ W'.cell? ⟨gc, 2, none⟩ = some (.int .i64 (t : Int)) ∧ W'.cell? ⟨gc, 3, none⟩ = some (.slice (some ⟨gF, 0, none⟩) (N1 + 1) (N1 + 1)) ∧ W'.cell? ⟨gc, 4, none⟩ = some (.slice (some ⟨gHd, 0, none⟩) M M) ∧ W'.cell? ⟨gc, 5, none⟩ = some (.slice (some ⟨gR, 0, none⟩) M M) ∧ W'.cell? ⟨gc, 6, none⟩ = some (.slice (some ⟨gC, 0, none⟩) M M) ∧ W'.cell? ⟨gc, 7, none⟩ = some (.slice (some ⟨gA, 0, none⟩) M M) ∧ W'.cell? ⟨gc, 8, none⟩ = some (.slice (some ⟨gB, 0, none⟩) M M) ∧ W'.cell? ⟨gl, j, none⟩ = some (.int .i64 (aj : Int))) (by kernel_rfl) (by rw [hw9]; exact HKEEP.out _ Kps.refl) (fun hS0 => ?_)
          rw [hw9] at hS0 ⊢
          clear hw9
          refine tk (v := ?_) 0 76 rfl ?_ ?_
          rotate_left
          · (intro W hSw; obtain ⟨-, a0, a1, a2, a3, a4, a5, a6, a7, a8, cj⟩ := hSw; go_simp; try with_reducible rfl)
          simp only [Act.put, pa, pz, ps]
          refine tk (v := ?_) 2 78 rfl ?_ ?_
          rotate_left
          · (intro W hSw; obtain ⟨-, a0, a1, a2, a3, a4, a5, a6, a7, a8, cj⟩ := hSw; go_simp; try with_reducible rfl)
          simp only [Act.put, pa, pz, ps]
          refine tk (v := ?_) 3 79 rfl ?_ ?_
          rotate_left
          · (intro W hSw; obtain ⟨-, a0, a1, a2, a3, a4, a5, a6, a7, a8, cj⟩ := hSw; go_simp; try with_reducible rfl)
          simp only [Act.put, pa, pz, ps]
          refine tk (v := ?_) 4 80 rfl ?_ ?_
          rotate_left
          · (intro W hSw; obtain ⟨-, a0, a1, a2, a3, a4, a5, a6, a7, a8, cj⟩ := hSw; go_simp; try with_reducible rfl)
          simp only [Act.put, pa, pz, ps]
          refine tk (v := ?_) 5 81 rfl ?_ ?_
          rotate_left
          · (intro W hSw; obtain ⟨-, a0, a1, a2, a3, a4, a5, a6, a7, a8, cj⟩ := hSw; go_simp; try with_reducible rfl)
          simp only [Act.put, pa, pz, ps]
          refine tk (v := ?_) 6 82 rfl ?_ ?_
          rotate_left
          · (intro W hSw; obtain ⟨-, a0, a1, a2, a3, a4, a5, a6, a7, a8, cj⟩ := hSw; go_simp; try with_reducible rfl)
          simp only [Act.put, pa, pz, ps]
          refine tk (v := ?_) 7 83 rfl ?_ ?_
          rotate_left
          · (intro W hSw; obtain ⟨-, a0, a1, a2, a3, a4, a5, a6, a7, a8, cj⟩ := hSw; go_simp; try with_reducible rfl)
          simp only [Act.put, pa, pz, ps]
          refine tk (v := ?_) 8 84 rfl ?_ ?_
          rotate_left
          · (intro W hSw; obtain ⟨-, a0, a1, a2, a3, a4, a5, a6, a7, a8, cj⟩ := hSw; go_simp; try with_reducible rfl)
          simp only [Act.put, pa, pz, ps]
          refine tk (v := ?_) 9 85 rfl ?_ ?_
          rotate_left
          · (intro W hSw; obtain ⟨-, a0, a1, a2, a3, a4, a5, a6, a7, a8, cj⟩ := hSw; go_simp; try with_reducible rfl)
          simp only [Act.put, pa, pz, ps]
          refine wpAnyH_ready (rs := [1]) (by kernel_rfl) (by simp) ?_
          refine AllReadyH.cons rfl (fun K hK => ?_) AllReadyH.nil
          go_simp
          refine hK.out _ _ hS0 (fun hSa => ?_)
          clear hK K hSa p0 p1 p2 hz2
          try simp only [Act.put, pa, pz, ps]
          refine wpAnyH_ready (rs := [10]) (by kernel_rfl) (by simp) ?_
          refine AllReadyH.cons rfl (fun K hK => ?_) AllReadyH.nil
          go_simp
          refine HCALL.out.mono ?_
          rintro e W9 ⟨⟨AX2, cX2, AE2, cE2, AH2, cH2⟩, rfl, HX9⟩
          dsimp only [preW] at HX9 ⊢
          refine hK.out _ _ (HKEEP.out _ (Kps.all HX9.bel)) (fun hSa => ?_)
          clear hK K hS0
          try simp only [Act.put, pa, pz, ps]
          refine tk (v := ?_) 11 75 rfl ?_ ?_
          rotate_left
          · (intro W hSw; obtain ⟨-, a0, a1, a2, a3, a4, a5, a6, a7, a8, cj⟩ := hSw; go_simp; try with_reducible rfl)
          simp only [Act.put, pa, pz, ps]
          refine tk (v := ?_) 12 87 rfl ?_ ?_
          rotate_left
          · (intro W hSw; obtain ⟨-, a0, a1, a2, a3, a4, a5, a6, a7, a8, cj⟩ := hSw; go_simp; try with_reducible rfl)
          simp only [Act.put, pa, pz, ps]
          refine tk (v := ?_) 13 88 rfl ?_ ?_
          rotate_left
          · (intro W hSw; obtain ⟨-, a0, a1, a2, a3, a4, a5, a6, a7, a8, cj⟩ := hSw; go_simp; try with_reducible rfl)
          simp only [Act.put, pa, pz, ps]
          refine tk (v := ?_) 14 89 rfl ?_ ?_
          rotate_left
          · (intro W hSw; obtain ⟨-, a0, a1, a2, a3, a4, a5, a6, a7, a8, cj⟩ := hSw; go_simp; try with_reducible rfl)
          simp only [Act.put, pa, pz, ps]
          have HN9 := HP9.out.below HX9.bel HP9.out.lt
          obtain ⟨⟨q0, q1, q2⟩, ⟨f0, f1, f2⟩, hzp⟩ := HN9.full3
          refine wpAnyH_ready (rs := [15]) (by kernel_rfl) (by simp) ?_
          refine AllReadyH.cons rfl (fun K hK => ?_) AllReadyH.nil
          go_simp
          refine hK.out _ _ (HKEEP.out _ ((Kps.all HX9.bel).trans (kps_put3 (W := W9) (g := g10) (x := .slice AX2 M cX2) (y := .slice AE2 N1 cE2) (v := .slice AH2 N1 cH2)))) (fun hSz => ?_)
          clear hK K q0 q1 q2 f0 f1 f2 hzp hSa
          try simp only [Act.put, pa, pz, ps]
          refine tk (v := ?_) 16 7 rfl ?_ ?_
          rotate_left
          · (intro W hSw; obtain ⟨-, a0, a1, a2, a3, a4, a5, a6, a7, a8, cj⟩ := hSw; go_simp; try with_reducible rfl)
          simp only [Act.put, pa, pz, ps]
          refine wpAnyH_done (by kernel_rfl) ?_ _
          obtain ⟨W10, hW10⟩ : ∃ W, put3 W9 g10 (.slice AX2 M cX2) (.slice AE2 N1 cE2) (.slice AH2 N1 cH2) = W := ⟨_, rfl⟩
          have k910 : Kps (fun k _ => k ≠ g10) W9 W10 := by rw [← hW10]; exact kps_put3
          have b910 : Below g10 W9 W10 := by rw [← hW10]; exact below_put3 (Below.refl _ _) (Nat.le_refl _)
          have N10 : Blk W10 g10 49 #[.slice AX2 M cX2, .slice AE2 N1 cE2, .slice AH2 N1 cH2] := by rw [← hW10]; exact HN9.put3
          change put3 W9 g10 (.slice AX2 M cX2) (.slice AE2 N1 cE2) (.slice AH2 N1 cH2) = W10 at hW10
          dsimp only [put3] at hW10
          rw [hW10] at hSz ⊢
          have hg9 : g10 < w9.heap.size := HP9.out.lt
          have b10 := (HBW9.out.trans (HX9.bel.mono (by omega))).trans b910
          have U9 := HX9.st HOK'.out.bal.1 HOK'.out.le HOK'.out.lh
          have A9 := HX9.abv (z := g10 + 1) (by omega)
          have U10 := U9.kps A9 k910 (fun k o h => by omega) k910.size
          clear hW10 hSz k910 b910 U9 A9 HN9 HX9 HCALL HKEEP
          go_wp2_with fail
          go_roundw
          case rel => exact ⟨k + 1, Z', ⟨AX2, cX2, AE2, cE2, AH2, cH2⟩, by omega, by go_num, rfl, b10, N10, U10, HOK'.out⟩
          case measure => simp [intOf]; omega
      · obtain ⟨j, hj⟩ : ∃ j, qq % nv = j := ⟨_, rfl⟩
        have hjl : j < nv := by rw [← hj]; exact Nat.mod_lt _ hnv
        have hji : (qq : Int).tmod (nv : Int) = (j : Int) := by rw [Int.tmod_eq_emod_of_nonneg (by omega), ← hj]; omega
        clear hj
        obtain ⟨aj, haj⟩ : ∃ aj, vv[j]? = some aj := ⟨_, List.getElem?_eq_getElem (by have := HNV.out; omega)⟩
        obtain ⟨m1, m2, m3⟩ := HMV2.out j aj haj
        have hvj : (nvs vv)[j]? = some (.int .i64 (aj : Int)) := by simp only [nvs, List.getElem?_map, haj, Option.map_some]
        obtain ⟨gl, hgl⟩ := own_some (n := vv.length) (A := AA2) (HX8'.out.held.own 1 _ rfl) (by have := HNV.out; omega)
        subst hgl
        obtain ⟨hcj, -, hzj, -⟩ := HX8'.out.cell (i := 1) (j := j) rfl (by have := HNV.out; omega) hvj
        have hgne : g10 ≠ gl := by have := (HX8'.out.held.own 1 _ rfl).lt gl rfl; omega
        have HM3 := Lib.hid (And.intro m1 (And.intro m2 m3)); have HCJ := Lib.hid (And.intro hcj hzj)
        clear m1 m2 m3 hvj haj hcj hzj
        have hn1p : (0 : Int) < (nv : Int) := by omega
        have hn1z : ¬ nv = 0 := by omega
        rcases hcs with ⟨hnax, rfl⟩ | rfl
        case' inl => have hnay : (0 : Int) < (na : Int) := by omega
        case' inl => have hnvz : ¬ (nv : Int) = 0 := by omega
        all_goals
          go_upto_region 15 with fail
          obtain ⟨w9, hw9⟩ : ∃ W, w8.drew = W := ⟨_, rfl⟩
          have b89 : Below w8.heap.size w8 w9 := by rw [← hw9]; exact (Below.refl _ w8).drew
          have HBW9 := Lib.hid (HBW8.out.trans (b89.mono (by omega))); have HP9 := Lib.hid (HP8.out.below b89 HP8.out.lt); have HSI9 := Lib.hid (HSI8.out.on b89)
          have hcj9 := (b89.cell (p := ⟨gl, j, none⟩) HCJ.out.2).trans HCJ.out.1
          have hgl9 : gl < w9.heap.size := by have := HCJ.out.2; have := b89.size; omega
          obtain ⟨C9, D9, -, -, -, -, hgc10⟩ := HW0.out w9 HBW9.out
          obtain ⟨Z', hnx, hok', hcall⟩ := HLFT.out w9 gF gHd gR gC gA gB ⟨AX, cX, AE, cE, AHH, cHH⟩ Z aj C9 HSI9.out HOK.out HM3.out.1 HM3.out.2.1 HM3.out.2.2
          dsimp only [csrW, preW] at hcall
          have HCALL := Lib.hid hcall; have HOK' := Lib.hid hok'
          have hkeep : ∀ W', Kps (fun k _ => k ≠ g10) w9 W' → Kps (fun k _ => k ≠ g10) w9 W' ∧ W'.cell? ⟨gc, 0, none⟩ = some (.int .i64 (N1 : Int)) ∧ W'.cell? ⟨gc, 1, none⟩ = some (.int .i64 (s : Int)) ∧ W'.cell? ⟨gc, 2, none⟩ = some (.int .i64 (t : Int)) ∧ W'.cell? ⟨gc, 3, none⟩ = some (.slice (some ⟨gF, 0, none⟩) (N1 + 1) (N1 + 1)) ∧ W'.cell? ⟨gc, 4, none⟩ = some (.slice (some ⟨gHd, 0, none⟩) M M) ∧ W'.cell? ⟨gc, 5, none⟩ = some (.slice (some ⟨gR, 0, none⟩) M M) ∧ W'.cell? ⟨gc, 6, none⟩ = some (.slice (some ⟨gC, 0, none⟩) M M) ∧ W'.cell? ⟨gc, 7, none⟩ = some (.slice (some ⟨gA, 0, none⟩) M M) ∧ W'.cell? ⟨gc, 8, none⟩ = some (.slice (some ⟨gB, 0, none⟩) M M) ∧ W'.cell? ⟨gl, j, none⟩ = some (.int .i64 (aj : Int)) := fun W' hb => by
            obtain ⟨a0, a1, a2, a3, a4, a5, a6, a7, a8⟩ := (hb.blk D9 (by omega)).at9
            exact ⟨hb, a0, a1, a2, a3, a4, a5, a6, a7, a8, hb.cell (p := ⟨gl, j, none⟩) (fun _ _ e => hgne e.symm) hcj9⟩
          have HKEEP := Lib.hid hkeep
          obtain ⟨⟨p0, p1, p2⟩, -, hz2⟩ := HP9.out.full3
          clear hcall hnx hok' hkeep b89 C9 D9 hcj9
          refine wp_region_held_drew (S := fun W' => Kps (fun k _ => k ≠ g10) w9 W' ∧ W'.cell? ⟨gc, 0, none⟩ = some (.int .i64 (N1 : Int)) ∧ W'.cell? ⟨gc, 1, none⟩ = some (.int .i64 (s : Int)) ∧ W'.cell? ⟨gc, 2, none⟩ = some (.int .i64 (t : Int)) ∧ W'.cell? ⟨gc, 3, none⟩ = some (.slice (some ⟨gF, 0, none⟩) (N1 + 1) (N1 + 1)) ∧ W'.cell? ⟨gc, 4, none⟩ = some (.slice (some ⟨gHd, 0, none⟩) M M) ∧ W'.cell? ⟨gc, 5, none⟩ = some (.slice (some ⟨gR, 0, none⟩) M M) ∧ W'.cell? ⟨gc, 6, none⟩ = some (.slice (some ⟨gC, 0, none⟩) M M) ∧ W'.cell? ⟨gc, 7, none⟩ = some (.slice (some ⟨gA, 0, none⟩) M M) ∧ W'.cell? ⟨gc, 8, none⟩ = some (.slice (some ⟨gB, 0, none⟩) M M) ∧ W'.cell? ⟨gl, j, none⟩ = some (.int .i64 (aj : Int))) (by kernel_rfl) (by rw [hw9]; exact HKEEP.out _ Kps.refl) (fun hS0 => ?_)
          rw [hw9] at hS0 ⊢
          clear hw9
          refine tk (v := ?_) 0 95 rfl ?_ ?_
          rotate_left
          · (intro W hSw; obtain ⟨-, a0, a1, a2, a3, a4, a5, a6, a7, a8, cj⟩ := hSw; go_simp; try with_reducible rfl)
          simp only [Act.put, pa, pz, ps]
          refine tk (v := ?_) 2 97 rfl ?_ ?_
          rotate_left
          · (intro W hSw; obtain ⟨-, a0, a1, a2, a3, a4, a5, a6, a7, a8, cj⟩ := hSw; go_simp; try with_reducible rfl)
          simp only [Act.put, pa, pz, ps]
          refine tk (v := ?_) 3 98 rfl ?_ ?_
          rotate_left
          · (intro W hSw; obtain ⟨-, a0, a1, a2, a3, a4, a5, a6, a7, a8, cj⟩ := hSw; go_simp; try with_reducible rfl)
          simp only [Act.put, pa, pz, ps]
          refine tk (v := ?_) 4 99 rfl ?_ ?_
          rotate_left
          · (intro W hSw; obtain ⟨-, a0, a1, a2, a3, a4, a5, a6, a7, a8, cj⟩ := hSw; go_simp; try with_reducible rfl)
          simp only [Act.put, pa, pz, ps]
          refine tk (v := ?_) 5 100 rfl ?_ ?_
          rotate_left
          · (intro W hSw; obtain ⟨-, a0, a1, a2, a3, a4, a5, a6, a7, a8, cj⟩ := hSw; go_simp; try with_reducible rfl)
          simp only [Act.put, pa, pz, ps]
          refine tk (v := ?_) 6 101 rfl ?_ ?_
          rotate_left
          · (intro W hSw; obtain ⟨-, a0, a1, a2, a3, a4, a5, a6, a7, a8, cj⟩ := hSw; go_simp; try with_reducible rfl)
          simp only [Act.put, pa, pz, ps]
          refine tk (v := ?_) 7 102 rfl ?_ ?_
          rotate_left
          · (intro W hSw; obtain ⟨-, a0, a1, a2, a3, a4, a5, a6, a7, a8, cj⟩ := hSw; go_simp; try with_reducible rfl)
          simp only [Act.put, pa, pz, ps]
          refine tk (v := ?_) 8 103 rfl ?_ ?_
          rotate_left
          · (intro W hSw; obtain ⟨-, a0, a1, a2, a3, a4, a5, a6, a7, a8, cj⟩ := hSw; go_simp; try with_reducible rfl)
          simp only [Act.put, pa, pz, ps]
          refine tk (v := ?_) 9 104 rfl ?_ ?_
          rotate_left
          · (intro W hSw; obtain ⟨-, a0, a1, a2, a3, a4, a5, a6, a7, a8, cj⟩ := hSw; go_simp; try with_reducible rfl)
          simp only [Act.put, pa, pz, ps]
          refine wpAnyH_ready (rs := [1]) (by kernel_rfl) (by simp) ?_
          refine AllReadyH.cons rfl (fun K hK => ?_) AllReadyH.nil
          go_simp
          refine hK.out _ _ hS0 (fun hSa => ?_)
          clear hK K hSa p0 p1 p2 hz2
          try simp only [Act.put, pa, pz, ps]
          refine wpAnyH_ready (rs := [10]) (by kernel_rfl) (by simp) ?_
          refine AllReadyH.cons rfl (fun K hK => ?_) AllReadyH.nil
          go_simp
          refine HCALL.out.mono ?_
          rintro e W9 ⟨⟨AX2, cX2, AE2, cE2, AH2, cH2⟩, rfl, HX9⟩
          dsimp only [preW] at HX9 ⊢
          refine hK.out _ _ (HKEEP.out _ (Kps.all HX9.bel)) (fun hSa => ?_)
          clear hK K hS0
          try simp only [Act.put, pa, pz, ps]
          refine tk (v := ?_) 11 94 rfl ?_ ?_
          rotate_left
          · (intro W hSw; obtain ⟨-, a0, a1, a2, a3, a4, a5, a6, a7, a8, cj⟩ := hSw; go_simp; try with_reducible rfl)
          simp only [Act.put, pa, pz, ps]
          refine tk (v := ?_) 12 106 rfl ?_ ?_
          rotate_left
          · (intro W hSw; obtain ⟨-, a0, a1, a2, a3, a4, a5, a6, a7, a8, cj⟩ := hSw; go_simp; try with_reducible rfl)
          simp only [Act.put, pa, pz, ps]
          refine tk (v := ?_) 13 107 rfl ?_ ?_
          rotate_left
          · (intro W hSw; obtain ⟨-, a0, a1, a2, a3, a4, a5, a6, a7, a8, cj⟩ := hSw; go_simp; try with_reducible rfl)
          simp only [Act.put, pa, pz, ps]
          have HN9 := HP9.out.below HX9.bel HP9.out.lt
          obtain ⟨⟨q0, q1, q2⟩, ⟨f0, f1, f2⟩, hzp⟩ := HN9.full3
          refine wpAnyH_ready (rs := [14]) (by kernel_rfl) (by simp) ?_
          refine AllReadyH.cons rfl (fun K hK => ?_) AllReadyH.nil
          go_simp
          refine hK.out _ _ (HKEEP.out _ ((Kps.all HX9.bel).trans (kps_put3 (W := W9) (g := g10) (x := .slice AX2 M cX2) (y := .slice AE2 N1 cE2) (v := .slice AH2 N1 cH2)))) (fun hSz => ?_)
          clear hK K q0 q1 q2 f0 f1 f2 hzp hSa
          try simp only [Act.put, pa, pz, ps]
          refine tk (v := ?_) 15 7 rfl ?_ ?_
          rotate_left
          · (intro W hSw; obtain ⟨-, a0, a1, a2, a3, a4, a5, a6, a7, a8, cj⟩ := hSw; go_simp; try with_reducible rfl)
          simp only [Act.put, pa, pz, ps]
          refine wpAnyH_done (by kernel_rfl) ?_ _
          obtain ⟨W10, hW10⟩ : ∃ W, put3 W9 g10 (.slice AX2 M cX2) (.slice AE2 N1 cE2) (.slice AH2 N1 cH2) = W := ⟨_, rfl⟩
          have k910 : Kps (fun k _ => k ≠ g10) W9 W10 := by rw [← hW10]; exact kps_put3
          have b910 : Below g10 W9 W10 := by rw [← hW10]; exact below_put3 (Below.refl _ _) (Nat.le_refl _)
          have N10 : Blk W10 g10 49 #[.slice AX2 M cX2, .slice AE2 N1 cE2, .slice AH2 N1 cH2] := by rw [← hW10]; exact HN9.put3
          change put3 W9 g10 (.slice AX2 M cX2) (.slice AE2 N1 cE2) (.slice AH2 N1 cH2) = W10 at hW10
          dsimp only [put3] at hW10
          rw [hW10] at hSz ⊢
          have hg9 : g10 < w9.heap.size := HP9.out.lt
          have b10 := (HBW9.out.trans (HX9.bel.mono (by omega))).trans b910
          have U9 := HX9.st HOK'.out.bal.1 HOK'.out.le HOK'.out.lh
          have A9 := HX9.abv (z := g10 + 1) (by omega)
          have U10 := U9.kps A9 k910 (fun k o h => by omega) k910.size
          clear hW10 hSz k910 b910 U9 A9 HN9 HX9 HCALL HKEEP
          go_wp2_with fail
          go_roundw
          case rel => exact ⟨k + 1, Z', ⟨AX2, cX2, AE2, cE2, AH2, cH2⟩, by omega, by go_num, rfl, b10, N10, U10, HOK'.out⟩
          case measure => simp [intOf]; omega
      · subst hna; subst hnv
        go_wp2_with fail
        go_roundw
        case rel => exact ⟨k + 1, Z, ⟨AX, cX, AE, cE, AHH, cHH⟩, by omega, by go_num, rfl, HBW8.out, HP8.out, HSI8.out, HOK.out⟩
        case measure => simp [intOf]; omega
    · have HCR := Lib.hid C3; have HDR := Lib.hid D3; have HKR := Lib.hid K3; have HQR := Lib.hid Q3; have HAR := Lib.hid A3; have HBR := Lib.hid B3; have HPR := Lib.hid P3; have HSR := Lib.hid hsi; have HOK := Lib.hid hok
      have hl1' := hl1
      clear C3 D3 K3 Q3 A3 B3 P3 hsi hok hbw
      go_wp2_with fail
      refine (HRT.out wr gF gHd gR gC gA gB ⟨AX, cX, AE, cE, AHH, cHH⟩ _ _ _ HCR.out HSR.out HOK.out).mono ?_
      rintro e x1 ⟨rfl, B1⟩
      have HC1 := Lib.hid (HCR.out.on B1); have HD1 := Lib.hid (HDR.out.below B1 HDR.out.lt); have HK1 := Lib.hid (HKR.out.below B1 HKR.out.lt); have HQ1 := Lib.hid (HQR.out.below B1 HQR.out.lt); have HA1 := Lib.hid (HAR.out.on B1); have HB1 := Lib.hid (below_step HBR.out B1); have HP1 := Lib.hid (HPR.out.below B1 HPR.out.lt); have HS1 := Lib.hid (HSR.out.on B1)
      clear B1 a0 a1 a2 a3 a4 a5 a6 a7 a8 p0 p1 p2 hz1 hz2
      obtain ⟨a0, a1, a2, a3, a4, a5, a6, a7, a8⟩ := HD1.out.at9
      obtain ⟨⟨p0, p1, p2⟩, -, hz2⟩ := HP1.out.full3
      have hz1 := HD1.out.lt
      go_wp2_with fail
      refine (HRN.out x1 gF gHd gR gC gA gB ⟨AX, cX, AE, cE, AHH, cHH⟩ Z HC1.out HS1.out HOK.out).mono ?_
      rintro e x2 ⟨Q4, σ, rfl, -, hf2, HF4, hR8⟩
      obtain ⟨hst, hno⟩ := head_end HF4 hf2
      obtain ⟨y1, y2, y3, y4⟩ := HEN.out _ _ _ hst hno
      obtain ⟨lX, lE, lH⟩ := HLS.out _ _ _ hst
      have B1 := hR8.bel
      have HS2 := Lib.hid (hR8.st lX lE lH)
      have HC2 := Lib.hid (HC1.out.on B1); have HD2 := Lib.hid (HD1.out.below B1 HD1.out.lt); have HK2 := Lib.hid (HK1.out.below B1 HK1.out.lt); have HQ2 := Lib.hid (HQ1.out.below B1 HQ1.out.lt); have HA2' := Lib.hid (HA1.out.on B1); have HB2' := Lib.hid (below_step HB1.out B1)
      have HIS := Lib.hid hst
      obtain ⟨FF, hFF⟩ : ∃ F, flF ai bk σ.X l1.length M = F := ⟨_, rfl⟩
      have hFlen : FF.length = n1 := by rw [← hFF, ← hl1]; exact flF_len _
      have HFF := Lib.hid hFF
      rw [hFF] at y1 y2 y3 y4
      have hval : exOf l1 FF t = v := HV.out.same (HLST.out FF y1 y2 y4) (fun K => rfl)
      have HY1 := Lib.hid y1; have HY2 := Lib.hid y2; have HVAL := Lib.hid hval
      clear B1 hf2 HF4 hR8 hst hno lX lE lH hFF y1 y2 y3 y4 hval a0 a1 a2 a3 a4 a5 a6 a7 a8 p0 p1 p2 hz1 hz2
      obtain ⟨AX2, cX2, AE2, cE2, AH2, cH2⟩ := Q4
      go_upto_region 22 with fail
      obtain ⟨x3, hx3⟩ : ∃ x, ((x2.alloc (.cells #[.slice AX2 M cX2, .slice AE2 N1 cE2, .slice AH2 N1 cH2] 49)).alloc (.cells #[.int .i64 (σ.P : Int), .int .i64 (σ.L : Int)] 31)) = x := ⟨_, rfl⟩
      have X2 : Below x2.heap.size x2 x3 := by rw [← hx3]; exact (below_alloc _).alloc (by simp) _
      obtain ⟨g16, hg16⟩ : ∃ g, x2.heap.size = g := ⟨_, rfl⟩
      have P16 : Blk x3 g16 49 #[.slice AX2 M cX2, .slice AE2 N1 cE2, .slice AH2 N1 cH2] := by rw [← hx3, ← hg16]; exact (Blk.new rfl).alloc _
      rw [hx3, hg16]
      have HP4 := Lib.hid P16; have HS4 := Lib.hid (HS2.out.on X2); have HC4 := Lib.hid (HC2.out.on X2); have HD4 := Lib.hid (HD2.out.below X2 HD2.out.lt); have HK4 := Lib.hid (HK2.out.below X2 HK2.out.lt); have HQ4 := Lib.hid (HQ2.out.below X2 HQ2.out.lt); have HA4 := Lib.hid (HA2'.out.on X2); have HB4 := Lib.hid (below_step HB2'.out X2)
      clear hx3 hg16 X2 P16
      obtain ⟨a0, a1, a2, a3, a4, a5, a6, a7, a8⟩ := HD4.out.at9
      obtain ⟨⟨p0, p1, p2⟩, -, hz2⟩ := HP4.out.full3
      obtain ⟨m0, m1, m2, m3⟩ := HK4.out.at4
      have hz1 := HD4.out.lt
      have hz3 := HK4.out.lt
      have hfl7 := HFL.out x3 gF gHd gR gC gA gB n1 AX2 cX2 σ.X σ.E σ.H HC4.out HS4.out.iX HIS.out hl1.symm
      rw [← hl1, HFF.out, hl1] at hfl7
      have HFL7 := Lib.hid hfl7
      clear hfl7
      go_wp2_with fail
      refine HFL7.out.mono ?_
      rintro e x5 ⟨gv, rfl, hgv, hbv, B1⟩
      have HC5 := Lib.hid (HC4.out.on B1); have HD5 := Lib.hid (HD4.out.below B1 HD4.out.lt); have HK5 := Lib.hid (HK4.out.below B1 HK4.out.lt); have HQ5 := Lib.hid (HQ4.out.below B1 HQ4.out.lt); have HA5 := Lib.hid (HA4.out.on B1); have HB5 := Lib.hid (below_step HB4.out B1); have HP5 := Lib.hid (HP4.out.below B1 HP4.out.lt); have HS5 := Lib.hid (HS4.out.on B1); have HFV := Lib.hid hbv
      clear B1 hbv hgv a0 a1 a2 a3 a4 a5 a6 a7 a8 p0 p1 p2 hz1 hz2 hz3 m0 m1 m2 m3
      obtain ⟨m0, m1, m2, m3⟩ := HK5.out.at4
      have hz3 := HK5.out.lt
      go_wp2_with fail
      refine (value_good N1 s t A1 n1 c1 l1 _ n1 _ FF _ HA5.out HCK.out (HFV.out.ints hFlen) (by omega) HY1.out HY2.out).mono ?_
      rintro e x6 ⟨rfl, B1⟩
      rw [HVAL.out]
      have HC6' := Lib.hid (HC5.out.on B1); have HD6 := Lib.hid (HD5.out.below B1 HD5.out.lt); have HQ6' := Lib.hid (HQ5.out.below B1 HQ5.out.lt); have HB6' := Lib.hid (below_step HB5.out B1); have HP6 := Lib.hid (HP5.out.below B1 HP5.out.lt); have HS6 := Lib.hid (HS5.out.on B1)
      clear B1 m0 m1 m2 m3 hz3
      obtain ⟨a0, a1, a2, a3, a4, a5, a6, a7, a8⟩ := HD6.out.at9
      obtain ⟨⟨p0, p1, p2⟩, -, hz2⟩ := HP6.out.full3
      obtain ⟨⟨q0, q1, q2⟩, -, hzq⟩ := HQ6'.out.full3
      have hz1 := HD6.out.lt
      have hvv : (v == v) = true := by simp
      go_wp2_with fail
      refine (HRT.out x6 gF gHd gR gC gA gB ⟨AX2, cX2, AE2, cE2, AH2, cH2⟩ _ _ _ HC6'.out HS6.out HIS.out).mono ?_
      rintro e x7 ⟨rfl, B1⟩
      go_wp2_with fail
      refine (awake8_is x7).mono ?_
      rintro e x8 ⟨rfl, B2⟩
      go_wp2_with fail
      go_ret
      exact ⟨rfl, below_step (below_step HB6'.out B1) B2⟩

end Go.Proofs.Ytfcjmhihheeifaa
