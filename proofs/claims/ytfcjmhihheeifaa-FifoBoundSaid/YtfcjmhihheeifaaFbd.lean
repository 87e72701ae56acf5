/- FifoBound: the walk. (Written by wip/gen_fbd.py.) -/
import Derived.Test.YtfcjmhihheeifaaFsps
namespace Go.Proofs.Ytfcjmhihheeifaa
open Go.RowKit
set_option maxRecDepth 100000
attribute [local go_sem] Oper.semAt_some

theorem run_bd {N M s t : Nat} {fst hd rv ai : Nat → Nat} {cp : Nat → Int} {bk : Nat → Bool} {σ : FS} (hG : PNet N M s t fst hd rv ai cp bk) (h : HeadS N M s t fst hd rv cp 0 (hsum N (begH N s)) σ) :
    (σ.L : Int) ≤ mostL N ∧ (σ.P : Int) ≤ mostP N M := by
  have hb := beg_ok hG (k := fst (s + 1) - fst s) (by have := hG.g.mono s hG.hs; omega)
  obtain ⟨h1, h2⟩ := head_bound hG h (hsum_le hG hb).1
  obtain ⟨m0, -⟩ := mostL_bd hG.n2 hG.nN
  have e : liftsMax N = mostL N := rfl
  rw [e] at h1 h2
  refine ⟨h1, Int.le_trans h2 ?_⟩
  unfold mostP
  have : (N : Int) * (1 + (0 : Nat) + mostL N) ≤ (N : Int) * (2 * mostL N + 1) := Int.mul_le_mul_of_nonneg_left (by omega) (by omega)
  omega

set_option maxHeartbeats 16000000 in
theorem fbound_walk (N S T : Int) (A : Option Addr) (n c : Nat) (l : List ArcN) (w : World) (hA : Arcs w w.heap.size A n l) (hf : FitsAll l) (hnc : n ≤ c) :
    Calls Try.prog 4 #[.agg #[.int .i64 N, .int .i64 S, .int .i64 T, .slice A n c]] w fun e w' => e = .returned (.bool true) ∧ Below w.heap.size w w' := by
  have hso := fun W hW => some_any N S T A n c 20 50 l W hW hf hnc (by omega) (by omega) (by omega)
  obtain ⟨N1, hN1, hN2, hN3, hck, hln, hmem⟩ := some_net N S T 20 50 l (by omega) (by omega) (by omega)
  rw [hN1] at hso hck hln hmem
  generalize S % (N1 : Int) = S1 at *
  generalize someT (N1 : Int) S T = T1 at *
  generalize someL (N1 : Int) 50 l = l1 at *
  obtain ⟨-, -, -, -, hs0, hs1, ht0, ht1, hst, -, -⟩ := ends_in hck
  obtain ⟨s, rfl⟩ := Int.eq_ofNat_of_zero_le hs0
  obtain ⟨t, rfl⟩ := Int.eq_ofNat_of_zero_le ht0
  obtain ⟨M, fst, hd, rv, ai, cp, bk, hMe, hG, hI, hai, hEnd⟩ := net_rowe hck
  have hM := hG.nM; have hN := hG.nN; have hn2 := hG.n2; have hsN := hG.hs; have htN := hG.ht
  have hbeg := beg_ok hG (k := fst (s + 1) - fst s) (by have := hG.g.mono s hG.hs; omega)
  have hbd := fun σ (h : HeadS N1 M s t fst hd rv cp 0 (hsum N1 (begH N1 s)) σ) => run_bd hG h
  have hsol := fun A n c W (hA : Arcs W W.heap.size A n l1) => fsolve_is N1 M s t n c A l1 fst hd rv ai cp bk W hA hck hMe hG hI hai hEnd
  have hmost := fun A n c W (hA : Arcs W W.heap.size A n l1) => fmost_is N1 M s t A n c l1 W hA hck hMe hM
  obtain ⟨X0, hX0⟩ : ∃ X, begX fst rv cp M s (fst (s + 1) - fst s) = X := ⟨_, rfl⟩
  obtain ⟨E0, hE0⟩ : ∃ X, begE fst hd rv cp M N1 s (fst (s + 1) - fst s) = X := ⟨_, rfl⟩
  obtain ⟨H0, hH0⟩ : ∃ X, begH N1 s = X := ⟨_, rfl⟩
  have hlow := beg_low hG E0
  have hfsB : fsB N1 M s t fst hd rv cp = fs0 s t N1 fst X0 E0 H0 := by unfold fsB; rw [hX0, hE0, hH0]
  rw [hX0, hE0, hH0] at hbeg
  rw [hH0] at hlow
  have hmk := fun A n c W (hA : Arcs W W.heap.size A n l1) => make_good N1 s t A n c l1 W hA hck
  have hbg := fun W gF gHd gR gC gA gB (h : CsrAt W W.heap.size N1 l1 gF gHd gR gC gA gB) => begin_is N1 M s t (csrK N1 M gF gHd gR gC gA gB) fst hd rv ai cp bk W hG (hI _ _ _ _ _ _ _ _ h)
  rw [hX0, hE0, hH0] at hbg
  have hrn := fun W gF gHd gR gC gA gB Q X E H (h : CsrAt W W.heap.size N1 l1 gF gHd gR gC gA gB) (hQ : StIn W W.heap.size M N1 N1 Q X E H) (hS : StIs N1 M s t hd rv cp X E H) (hC : ∀ v, v < N1 → actB s t E v = true → hOf H v ≤ (0 : Nat)) => frun_is N1 M s t 0 gF gHd gR gC gA gB l1 Q fst hd rv ai cp bk X E H W h hck hMe hG hI hQ hS hC (by omega)
  have hrt := fun W gF gHd gR gC gA gB Q X E H (h : CsrAt W W.heap.size N1 l1 gF gHd gR gC gA gB) (hQ : StIn W W.heap.size M N1 N1 Q X E H) (hS : StIs N1 M s t hd rv cp X E H) => pright_is N1 M s t M N1 N1 (csrK N1 M gF gHd gR gC gA gB) Q fst hd rv ai cp bk X E H W hG (hI _ _ _ _ _ _ _ _ h) hQ (st_inr hG hS).1 (st_inr hG hS).2.2 true ⟨fun _ => ⟨rfl, rfl, rfl, hS⟩, fun _ => rfl⟩
  have hac := fun W gF gHd gR gC gA gB Q X E H (h : CsrAt W W.heap.size N1 l1 gF gHd gR gC gA gB) (hQ : StIn W W.heap.size M N1 N1 Q X E H) (hno : ∀ v, v < N1 → actB s t E v = false) => by
    have := active_is N1 M s t M N1 N1 (csrK N1 M gF gHd gR gC gA gB) Q fst hd rv X E H W hG.g (hI _ _ _ _ _ _ _ _ h).gi hQ hsN htN (by omega) hN
    rw [show activeTo s t N1 M M N1 N1 E = [] by unfold activeTo; rw [if_pos ⟨rfl, rfl, rfl⟩]; exact sel_nil.2 hno] at this
    exact this
  have hlenS := fun X E H (hS : StIs N1 M s t hd rv cp X E H) => (⟨hS.bal.1, hS.le, hS.lh⟩ : X.length = M ∧ E.length = N1 ∧ H.length = N1)
  obtain ⟨mP, hmP⟩ : ∃ x, mostP N1 M = x := ⟨_, rfl⟩
  obtain ⟨mL, hmL⟩ : ∃ x, mostL N1 = x := ⟨_, rfl⟩
  have hhs : hsum N1 (begH N1 s) = hsum N1 H0 := by rw [hH0]
  rw [hhs] at hbd
  rw [hmP, hmL] at hbd hmost
  have HSO := Lib.hid hso; have HSOL := Lib.hid hsol; have HMOST := Lib.hid hmost; have HMK := Lib.hid hmk; have HBG := Lib.hid hbg; have HRN := Lib.hid hrn; have HRT := Lib.hid hrt; have HAC := Lib.hid hac; have HLS := Lib.hid hlenS; have HBE := Lib.hid hbeg; have HLOW := Lib.hid hlow; have HFB := Lib.hid hfsB; have HME := Lib.hid hMe; have HBD := Lib.hid hbd; have HHS := Lib.hid hhs
  clear hso hsol hmost hmk hbg hrn hrt hac hlenS hbeg hlow hfsB hMe hbd hhs hck hN1 hmem hs0 hs1 ht0 ht1 hst hG hI hai hEnd hX0 hE0 hH0 hmP hmL
  go_enter Try.func4, Try.ntmps4
  go_wp2_with fail
  refine (HSO.out _ (hA.onAlloc _)).mono ?_
  rintro e w1 ⟨A1, n1, c1, rfl, o1, hl1, B1⟩
  have K1 : Blk w1 w.heap.size 24 #[.int .i64 N, .int .i64 S, .int .i64 T, .slice A n c] := (Blk.new rfl).below B1 (by simp)
  have hz1 := K1.lt
  obtain ⟨r0, r1, r2, r3⟩ := K1.at4
  obtain ⟨f0, f1, f2, f3⟩ := K1.free4
  have ST := some_stored K1 o1 hl1 (below_step (below_alloc _) B1) (.int .i64 (N1 : Int)) (.int .i64 (s : Int)) (.int .i64 (t : Int))
  go_upto_region 2 with fail
  generalize (((w1.setCell ⟨w.heap.size, 0, none⟩ (.int .i64 (N1 : Int))).setCell ⟨w.heap.size, 1, none⟩ (.int .i64 (s : Int))).setCell ⟨w.heap.size, 2, none⟩ (.int .i64 (t : Int))).setCell ⟨w.heap.size, 3, none⟩ (.slice A1 n1 c1) = w0 at *
  obtain ⟨K0, a0, Bw0⟩ := ST
  have hn1 := a0.len
  have HA0 := Lib.hid a0; have HB0 := Lib.hid Bw0; have HK0 := Lib.hid K0
  clear r0 r1 r2 r3 f0 f1 f2 f3 K1 o1 B1 hz1 HSO a0 Bw0 hA hf
  obtain ⟨n0, n1', n2, n3⟩ := HK0.out.at4
  have hz0 := HK0.out.lt
  clear K0
  go_wp2_with fail
  refine (HSOL.out A1 n1 c1 w0 HA0.out).mono ?_
  rintro e w2 ⟨gf, gs, F, K, v, σ0, rfl, hgg, hbf, hbk, hsl, B2⟩
  have hfin := hsl.fin
  rw [HFB.out] at hfin
  obtain ⟨hP0, hL0⟩ : (σ0.P : Int) ≤ mP ∧ (σ0.L : Int) ≤ mL := by
    obtain ⟨h1, h2⟩ := HBD.out σ0 (by rw [← HHS.out]; exact hsl.head)
    exact ⟨h2, h1⟩
  have HFIN := Lib.hid hfin
  have HA2 := Lib.hid (HA0.out.on B2); have HK2 := Lib.hid (HK0.out.below B2 HK0.out.lt); have HB2 := Lib.hid (below_step HB0.out B2)
  clear hgg hbf hbk hsl B2 hfin n0 n1' n2 n3 hz0
  go_upto_region 3 with fail
  obtain ⟨v0, hv0⟩ : ∃ v0, ((w2.alloc (.cells #[.slice (some ⟨gf, 0, none⟩) n1 n1, .slice (some ⟨gs, 0, none⟩) N1 N1, .int .i64 v] 29)).alloc (.cells #[.int .i64 (σ0.P : Int), .int .i64 (σ0.L : Int)] 31)) = v0 := ⟨_, rfl⟩
  have X2 : Below w2.heap.size w2 v0 := by rw [← hv0]; exact (below_alloc _).alloc (by simp) _
  obtain ⟨g4, hg4⟩ : ∃ g, w2.heap.size + 1 = g := ⟨_, rfl⟩
  have W0 : Blk v0 g4 31 #[.int .i64 (σ0.P : Int), .int .i64 (σ0.L : Int)] := by rw [← hv0, ← hg4]; exact Blk.new (by simp)
  rw [hv0, hg4]
  have hg4w : w.heap.size < g4 := by have := HB2.out.size; omega
  have HA3 := Lib.hid (HA2.out.on X2); have HK3 := Lib.hid (HK2.out.below X2 HK2.out.lt); have HB3 := Lib.hid (below_step HB2.out X2); have HW3 := Lib.hid W0
  clear hv0 X2 W0 hg4
  obtain ⟨n0, n1', n2, n3⟩ := HK3.out.at4
  have hz0 := HK3.out.lt
  go_wp2_with fail
  refine (HMOST.out A1 n1 c1 v0 HA3.out).mono ?_
  rintro e v1 ⟨rfl, B4⟩
  have HA4 := Lib.hid (HA3.out.on B4); have HK4 := Lib.hid (HK3.out.below B4 HK3.out.lt); have HB4 := Lib.hid (below_step HB3.out B4); have HW4 := Lib.hid (HW3.out.below B4 HW3.out.lt)
  clear B4 n0 n1' n2 n3 hz0
  go_upto_region 4 with fail
  obtain ⟨v2, hv2⟩ : ∃ v2, v1.alloc (.cells #[.int .i64 mP, .int .i64 mL] 31) = v2 := ⟨_, rfl⟩
  have X2 : Below v1.heap.size v1 v2 := by rw [← hv2]; exact below_alloc _
  obtain ⟨g6, hg6⟩ : ∃ g, v1.heap.size = g := ⟨_, rfl⟩
  have W2 : Blk v2 g6 31 #[.int .i64 mP, .int .i64 mL] := by rw [← hv2, ← hg6]; exact Blk.new rfl
  have HA5 := Lib.hid (HA4.out.on X2); have HK5 := Lib.hid (HK4.out.below X2 HK4.out.lt); have HB5 := Lib.hid (below_step HB4.out X2); have HW5 := Lib.hid (HW4.out.below X2 HW4.out.lt); have HV5 := Lib.hid W2
  have hg46 : g4 < g6 := by rw [← hg6]; exact HW4.out.lt
  rw [hv2, hg6]
  clear hv2 X2 W2 hg6
  obtain ⟨n0, n1', n2, n3⟩ := HK5.out.at4
  have hz0 := HK5.out.lt
  go_wp2_with fail
  refine (HMK.out A1 n1 c1 v2 HA5.out).mono ?_
  rintro e v3 ⟨gF, gHd, gR, gC, gA, gB, rfl, hgs, C6, B6⟩
  rw [HME.out]
  have HC6 := Lib.hid C6; have HK6 := Lib.hid (HK5.out.below B6 HK5.out.lt); have HB6 := Lib.hid (below_step HB5.out B6); have HW6 := Lib.hid (HW5.out.below B6 HW5.out.lt); have HV6 := Lib.hid (HV5.out.below B6 HV5.out.lt)
  clear B6 C6 hgs n0 n1' n2 n3 hz0
  go_upto_region 5 with fail
  obtain ⟨v4, hv4⟩ : ∃ v4, v3.alloc (.cells #[.int .i64 (N1 : Int), .int .i64 (s : Int), .int .i64 (t : Int), .slice (some ⟨gF, 0, none⟩) (N1 + 1) (N1 + 1), .slice (some ⟨gHd, 0, none⟩) M M, .slice (some ⟨gR, 0, none⟩) M M, .slice (some ⟨gC, 0, none⟩) M M, .slice (some ⟨gA, 0, none⟩) M M, .slice (some ⟨gB, 0, none⟩) M M] 45) = v4 := ⟨_, rfl⟩
  have X2 : Below v3.heap.size v3 v4 := by rw [← hv4]; exact below_alloc _
  obtain ⟨gc, hgc⟩ : ∃ g, v3.heap.size = g := ⟨_, rfl⟩
  have D2 : Blk v4 gc 45 #[.int .i64 (N1 : Int), .int .i64 (s : Int), .int .i64 (t : Int), .slice (some ⟨gF, 0, none⟩) (N1 + 1) (N1 + 1), .slice (some ⟨gHd, 0, none⟩) M M, .slice (some ⟨gR, 0, none⟩) M M, .slice (some ⟨gC, 0, none⟩) M M, .slice (some ⟨gA, 0, none⟩) M M, .slice (some ⟨gB, 0, none⟩) M M] := by rw [← hv4, ← hgc]; exact Blk.new rfl
  have HC7 := Lib.hid (HC6.out.on X2); have HB7 := Lib.hid (below_step HB6.out X2); have HW7 := Lib.hid (HW6.out.below X2 HW6.out.lt); have HV7 := Lib.hid (HV6.out.below X2 HV6.out.lt); have HD7 := Lib.hid D2
  rw [hv4, hgc]
  clear hv4 X2 D2 hgc
  have p0 := HW7.out.cell 0; have p1 := HW7.out.cell 1; have q0 := HV7.out.cell 0; have q1 := HV7.out.cell 1
  simp only [List.getElem?_toArray, List.getElem?_cons_zero, List.getElem?_cons_succ] at p0 p1 q0 q1
  have hz1 := HW7.out.lt; have hz2 := HV7.out.lt
  have hn1 : ¬ mP < (σ0.P : Int) := by omega
  have hn2' : ¬ mL < (σ0.L : Int) := by omega
  have hn3 : ¬ (σ0.L : Int) < 0 := by omega
  go_upto_region 7 with fail
  clear p0 p1 q0 q1 hz1 hz2 hn1 hn2' hn3
  obtain ⟨w3, hw3⟩ : ∃ w3, v4.drew = w3 := ⟨_, rfl⟩
  have h23 : Below v4.heap.size v4 w3 := by rw [← hw3]; exact (Below.refl _ v4).drew
  have HB3' := Lib.hid (below_step HB7.out h23); have HC3 := Lib.hid (HC7.out.on h23); have HD3 := Lib.hid (HD7.out.below h23 HD7.out.lt); have HW8 := Lib.hid (HW7.out.below h23 HW7.out.lt); have HV8 := Lib.hid (HV7.out.below h23 HV7.out.lt)
  have hz3 : gc < w3.heap.size := HD3.out.lt
  clear h23
  obtain ⟨b3, hb3⟩ : ∃ b3, w3.heap.size = b3 := ⟨_, rfl⟩
  have HBQ := Lib.hid hb3
  rw [hb3] at hz3
  have HBG3 := Lib.hid (fun W (hb : Below b3 w3 W) => HBG.out W gF gHd gR gC gA gB (HC3.out.on (by rw [HBQ.out]; exact hb)))
  have HRN3 := Lib.hid (fun W Q (hb : Below b3 w3 W) (hQ : StIn W W.heap.size M N1 N1 Q X0 E0 H0) => HRN.out W gF gHd gR gC gA gB Q X0 E0 H0 (HC3.out.on (by rw [HBQ.out]; exact hb)) hQ HBE.out HLOW.out)
  have hkeep : ∀ W', Below b3 w3 W' → Below b3 w3 W' ∧ W'.cell? ⟨gc, 0, none⟩ = some (.int .i64 (N1 : Int)) ∧ W'.cell? ⟨gc, 1, none⟩ = some (.int .i64 (s : Int)) ∧ W'.cell? ⟨gc, 2, none⟩ = some (.int .i64 (t : Int)) ∧ W'.cell? ⟨gc, 3, none⟩ = some (.slice (some ⟨gF, 0, none⟩) (N1 + 1) (N1 + 1)) ∧ W'.cell? ⟨gc, 4, none⟩ = some (.slice (some ⟨gHd, 0, none⟩) M M) ∧ W'.cell? ⟨gc, 5, none⟩ = some (.slice (some ⟨gR, 0, none⟩) M M) ∧ W'.cell? ⟨gc, 6, none⟩ = some (.slice (some ⟨gC, 0, none⟩) M M) ∧ W'.cell? ⟨gc, 7, none⟩ = some (.slice (some ⟨gA, 0, none⟩) M M) ∧ W'.cell? ⟨gc, 8, none⟩ = some (.slice (some ⟨gB, 0, none⟩) M M) := fun W' hb => by
    obtain ⟨a0, a1, a2, a3, a4, a5, a6, a7, a8⟩ := (HD3.out.below hb hz3).at9
    exact ⟨hb, a0, a1, a2, a3, a4, a5, a6, a7, a8⟩
  have HKEEP := Lib.hid hkeep
  clear hkeep hb3
  refine wp_region_held_drew (S := fun W' => Below b3 w3 W' ∧ W'.cell? ⟨gc, 0, none⟩ = some (.int .i64 (N1 : Int)) ∧ W'.cell? ⟨gc, 1, none⟩ = some (.int .i64 (s : Int)) ∧ W'.cell? ⟨gc, 2, none⟩ = some (.int .i64 (t : Int)) ∧ W'.cell? ⟨gc, 3, none⟩ = some (.slice (some ⟨gF, 0, none⟩) (N1 + 1) (N1 + 1)) ∧ W'.cell? ⟨gc, 4, none⟩ = some (.slice (some ⟨gHd, 0, none⟩) M M) ∧ W'.cell? ⟨gc, 5, none⟩ = some (.slice (some ⟨gR, 0, none⟩) M M) ∧ W'.cell? ⟨gc, 6, none⟩ = some (.slice (some ⟨gC, 0, none⟩) M M) ∧ W'.cell? ⟨gc, 7, none⟩ = some (.slice (some ⟨gA, 0, none⟩) M M) ∧ W'.cell? ⟨gc, 8, none⟩ = some (.slice (some ⟨gB, 0, none⟩) M M)) (by kernel_rfl) (by rw [hw3]; exact HKEEP.out _ (Below.refl _ _)) (fun hS0 => ?_)
  rw [hw3] at hS0 ⊢
  clear hw3
  refine tk (v := ?_) 0 62 rfl ?_ ?_
  rotate_left
  · (intro W hSw; obtain ⟨-, a0, a1, a2, a3, a4, a5, a6, a7, a8⟩ := hSw; go_simp; try with_reducible rfl)
  simp only [Act.put, pa, pz, ps]
  refine tk (v := ?_) 1 63 rfl ?_ ?_
  rotate_left
  · (intro W hSw; obtain ⟨-, a0, a1, a2, a3, a4, a5, a6, a7, a8⟩ := hSw; go_simp; try with_reducible rfl)
  simp only [Act.put, pa, pz, ps]
  refine (have tail : Hid ?T := ?tailp; ?main)
  case main =>
    have hSn := hS0
    have HW0 : Below b3 w3 w3 := Below.refl _ _
    refine wpAnyH_ready (rs := [2, 7, 8]) (by kernel_rfl) (by simp) ?_
    refine AllReadyH.cons rfl (fun K hK => ?_) (AllReadyH.cons rfl (fun K hK => ?_) (AllReadyH.cons rfl (fun K hK => ?_) (AllReadyH.nil)))
    · go_simp
      (with_reducible refine (HBG3.out _ HW0).mono ?_); rintro e W1 ⟨Q2, rfl, hR0⟩
      have hB0 := hR0.bel
      have HW1 : Below b3 w3 W1 := HW0.trans (hB0.mono (by have := HW0.size; have := HBQ.out; omega))
      have HX := hR0.st (HLS.out _ _ _ HBE.out).1 (HLS.out _ _ _ HBE.out).2.1 (HLS.out _ _ _ HBE.out).2.2
      refine hK.out _ _ (HKEEP.out _ HW1) (fun hSm => ?_)
      clear hK K hR0 hB0 hSn
      have hSn := hSm
      clear hSm
      try simp only [Act.put, pa, pz, ps]
      refine wpAnyH_ready (rs := [3, 7, 8]) (by kernel_rfl) (by simp) ?_
      refine AllReadyH.cons rfl (fun K hK => ?_) (AllReadyH.cons rfl (fun K hK => ?_) (AllReadyH.cons rfl (fun K hK => ?_) (AllReadyH.nil)))
      · go_simp
        (with_reducible refine (HRN3.out _ _ HW1 HX).mono ?_); rintro e W2 ⟨Q3, σ, rfl, hf1, hf2, HF4, hR0⟩
        have hB0 := hR0.bel
        have HY := hR0.low (base' := b3) (w1 := w3) (by have := HW1.size; have := HBQ.out; omega) HW1
        have HW2 : Below b3 w3 W2 := HY.bel
        refine hK.out _ _ (HKEEP.out _ HW2) (fun hSm => ?_)
        clear hK K hR0 hB0 hSn HX
        have hSn := hSm
        clear hSm
        try simp only [Act.put, pa, pz, ps]
        refine tk (v := ?_) 4 61 rfl ?_ ?_
        rotate_left
        · (intro W hSw; obtain ⟨-, a0, a1, a2, a3, a4, a5, a6, a7, a8⟩ := hSw; go_simp; try with_reducible rfl)
        simp only [Act.put, pa, pz, ps]
        refine tk (v := ?_) 5 66 rfl ?_ ?_
        rotate_left
        · (intro W hSw; obtain ⟨-, a0, a1, a2, a3, a4, a5, a6, a7, a8⟩ := hSw; go_simp; try with_reducible rfl)
        simp only [Act.put, pa, pz, ps]
        refine tk (v := ?_) 6 67 rfl ?_ ?_
        rotate_left
        · (intro W hSw; obtain ⟨-, a0, a1, a2, a3, a4, a5, a6, a7, a8⟩ := hSw; go_simp; try with_reducible rfl)
        simp only [Act.put, pa, pz, ps]
        refine wpAnyH_ready (rs := [7, 8]) (by kernel_rfl) (by simp) ?_
        refine AllReadyH.cons rfl (fun K hK => ?_) (AllReadyH.cons rfl (fun K hK => ?_) (AllReadyH.nil))
        · go_simp
          obtain ⟨gP, hgn⟩ : ∃ g, W2.heap.size = g := ⟨_, rfl⟩
          have hgP : b3 ≤ gP := by have := HW2.size; have := HBQ.out; omega
          have HW3 : Below b3 w3 (W2.alloc (.cells #[.slice none 0 0, .slice none 0 0, .slice none 0 0] 49)) := HW2.alloc (by omega) _
          have HP : Blk (W2.alloc (.cells #[.slice none 0 0, .slice none 0 0, .slice none 0 0] 49)) gP 49 #[.slice none 0 0, .slice none 0 0, .slice none 0 0] := Blk.new hgn
          replace HY := HY.alloc (.cells #[.slice none 0 0, .slice none 0 0, .slice none 0 0] 49)
          refine hK.out _ _ (HKEEP.out _ HW3) (fun hSm => ?_)
          clear hK K hSn
          have hSn := hSm
          clear hSm
          try simp only [Act.put, pa, pz, ps]
          obtain ⟨W3, hWn⟩ : ∃ W, W2.alloc (.cells #[.slice none 0 0, .slice none 0 0, .slice none 0 0] 49) = W := ⟨_, rfl⟩
          rw [hWn] at HW3 hSn HP HY ⊢
          rw [hgn]
          clear hWn hgn
          refine wpAnyH_ready (rs := [8]) (by kernel_rfl) (by simp) ?_
          refine AllReadyH.cons rfl (fun K hK => ?_) (AllReadyH.nil)
          · go_simp
            obtain ⟨gW, hgn⟩ : ∃ g, W3.heap.size = g := ⟨_, rfl⟩
            have hgW : b3 ≤ gW := by have := HW3.size; have := HBQ.out; omega
            have HW4 : Below b3 w3 (W3.alloc (.cells #[.int .i64 0, .int .i64 0] 31)) := HW3.alloc (by omega) _
            replace HP := HP.alloc (.cells #[.int .i64 0, .int .i64 0] 31)
            have HWk : Blk (W3.alloc (.cells #[.int .i64 0, .int .i64 0] 31)) gW 31 #[.int .i64 0, .int .i64 0] := Blk.new hgn
            replace HY := HY.alloc (.cells #[.int .i64 0, .int .i64 0] 31)
            refine hK.out _ _ (HKEEP.out _ HW4) (fun hSm => ?_)
            clear hK K hSn
            have hSn := hSm
            clear hSm
            try simp only [Act.put, pa, pz, ps]
            obtain ⟨W4, hWn⟩ : ∃ W, W3.alloc (.cells #[.int .i64 0, .int .i64 0] 31) = W := ⟨_, rfl⟩
            rw [hWn] at HW4 hSn HP HWk HY ⊢
            rw [hgn]
            clear hWn hgn
            clear hSn
            revert HWk
            revert HP
            revert hgW
            revert hgP
            revert HY
            revert W4
            revert gW
            revert gP
            revert HF4
            revert hf2
            revert hf1
            revert σ
            revert Q3
            revert Q2
            exact tail.out
        · go_simp
          obtain ⟨gW, hgn⟩ : ∃ g, W2.heap.size = g := ⟨_, rfl⟩
          have hgW : b3 ≤ gW := by have := HW2.size; have := HBQ.out; omega
          have HW3 : Below b3 w3 (W2.alloc (.cells #[.int .i64 0, .int .i64 0] 31)) := HW2.alloc (by omega) _
          have HWk : Blk (W2.alloc (.cells #[.int .i64 0, .int .i64 0] 31)) gW 31 #[.int .i64 0, .int .i64 0] := Blk.new hgn
          replace HY := HY.alloc (.cells #[.int .i64 0, .int .i64 0] 31)
          refine hK.out _ _ (HKEEP.out _ HW3) (fun hSm => ?_)
          clear hK K hSn
          have hSn := hSm
          clear hSm
          try simp only [Act.put, pa, pz, ps]
          obtain ⟨W3, hWn⟩ : ∃ W, W2.alloc (.cells #[.int .i64 0, .int .i64 0] 31) = W := ⟨_, rfl⟩
          rw [hWn] at HW3 hSn HWk HY ⊢
          rw [hgn]
          clear hWn hgn
          refine wpAnyH_ready (rs := [7]) (by kernel_rfl) (by simp) ?_
          refine AllReadyH.cons rfl (fun K hK => ?_) (AllReadyH.nil)
          · go_simp
            obtain ⟨gP, hgn⟩ : ∃ g, W3.heap.size = g := ⟨_, rfl⟩
            have hgP : b3 ≤ gP := by have := HW3.size; have := HBQ.out; omega
            have HW4 : Below b3 w3 (W3.alloc (.cells #[.slice none 0 0, .slice none 0 0, .slice none 0 0] 49)) := HW3.alloc (by omega) _
            replace HWk := HWk.alloc (.cells #[.slice none 0 0, .slice none 0 0, .slice none 0 0] 49)
            have HP : Blk (W3.alloc (.cells #[.slice none 0 0, .slice none 0 0, .slice none 0 0] 49)) gP 49 #[.slice none 0 0, .slice none 0 0, .slice none 0 0] := Blk.new hgn
            replace HY := HY.alloc (.cells #[.slice none 0 0, .slice none 0 0, .slice none 0 0] 49)
            refine hK.out _ _ (HKEEP.out _ HW4) (fun hSm => ?_)
            clear hK K hSn
            have hSn := hSm
            clear hSm
            try simp only [Act.put, pa, pz, ps]
            obtain ⟨W4, hWn⟩ : ∃ W, W3.alloc (.cells #[.slice none 0 0, .slice none 0 0, .slice none 0 0] 49) = W := ⟨_, rfl⟩
            rw [hWn] at HW4 hSn HP HWk HY ⊢
            rw [hgn]
            clear hWn hgn
            clear hSn
            revert HWk
            revert HP
            revert hgW
            revert hgP
            revert HY
            revert W4
            revert gW
            revert gP
            revert HF4
            revert hf2
            revert hf1
            revert σ
            revert Q3
            revert Q2
            exact tail.out
      · go_simp
        obtain ⟨gP, hgn⟩ : ∃ g, W1.heap.size = g := ⟨_, rfl⟩
        have hgP : b3 ≤ gP := by have := HW1.size; have := HBQ.out; omega
        have HW2 : Below b3 w3 (W1.alloc (.cells #[.slice none 0 0, .slice none 0 0, .slice none 0 0] 49)) := HW1.alloc (by omega) _
        have HP : Blk (W1.alloc (.cells #[.slice none 0 0, .slice none 0 0, .slice none 0 0] 49)) gP 49 #[.slice none 0 0, .slice none 0 0, .slice none 0 0] := Blk.new hgn
        replace HX := HX.onAlloc (.cells #[.slice none 0 0, .slice none 0 0, .slice none 0 0] 49)
        refine hK.out _ _ (HKEEP.out _ HW2) (fun hSm => ?_)
        clear hK K hSn
        have hSn := hSm
        clear hSm
        try simp only [Act.put, pa, pz, ps]
        obtain ⟨W2, hWn⟩ : ∃ W, W1.alloc (.cells #[.slice none 0 0, .slice none 0 0, .slice none 0 0] 49) = W := ⟨_, rfl⟩
        rw [hWn] at HW2 hSn HP HX ⊢
        rw [hgn]
        clear hWn hgn
        refine wpAnyH_ready (rs := [3, 8]) (by kernel_rfl) (by simp) ?_
        refine AllReadyH.cons rfl (fun K hK => ?_) (AllReadyH.cons rfl (fun K hK => ?_) (AllReadyH.nil))
        · go_simp
          (with_reducible refine (HRN3.out _ _ HW2 HX).mono ?_); rintro e W3 ⟨Q3, σ, rfl, hf1, hf2, HF4, hR0⟩
          have hB0 := hR0.bel
          have HY := hR0.low (base' := b3) (w1 := w3) (by have := HW2.size; have := HBQ.out; omega) HW2
          have HW3 : Below b3 w3 W3 := HY.bel
          replace HP := HP.below hB0 HP.lt
          refine hK.out _ _ (HKEEP.out _ HW3) (fun hSm => ?_)
          clear hK K hR0 hB0 hSn HX
          have hSn := hSm
          clear hSm
          try simp only [Act.put, pa, pz, ps]
          refine tk (v := ?_) 4 61 rfl ?_ ?_
          rotate_left
          · (intro W hSw; obtain ⟨-, a0, a1, a2, a3, a4, a5, a6, a7, a8⟩ := hSw; go_simp; try with_reducible rfl)
          simp only [Act.put, pa, pz, ps]
          refine tk (v := ?_) 5 66 rfl ?_ ?_
          rotate_left
          · (intro W hSw; obtain ⟨-, a0, a1, a2, a3, a4, a5, a6, a7, a8⟩ := hSw; go_simp; try with_reducible rfl)
          simp only [Act.put, pa, pz, ps]
          refine tk (v := ?_) 6 67 rfl ?_ ?_
          rotate_left
          · (intro W hSw; obtain ⟨-, a0, a1, a2, a3, a4, a5, a6, a7, a8⟩ := hSw; go_simp; try with_reducible rfl)
          simp only [Act.put, pa, pz, ps]
          refine wpAnyH_ready (rs := [8]) (by kernel_rfl) (by simp) ?_
          refine AllReadyH.cons rfl (fun K hK => ?_) (AllReadyH.nil)
          · go_simp
            obtain ⟨gW, hgn⟩ : ∃ g, W3.heap.size = g := ⟨_, rfl⟩
            have hgW : b3 ≤ gW := by have := HW3.size; have := HBQ.out; omega
            have HW4 : Below b3 w3 (W3.alloc (.cells #[.int .i64 0, .int .i64 0] 31)) := HW3.alloc (by omega) _
            replace HP := HP.alloc (.cells #[.int .i64 0, .int .i64 0] 31)
            have HWk : Blk (W3.alloc (.cells #[.int .i64 0, .int .i64 0] 31)) gW 31 #[.int .i64 0, .int .i64 0] := Blk.new hgn
            replace HY := HY.alloc (.cells #[.int .i64 0, .int .i64 0] 31)
            refine hK.out _ _ (HKEEP.out _ HW4) (fun hSm => ?_)
            clear hK K hSn
            have hSn := hSm
            clear hSm
            try simp only [Act.put, pa, pz, ps]
            obtain ⟨W4, hWn⟩ : ∃ W, W3.alloc (.cells #[.int .i64 0, .int .i64 0] 31) = W := ⟨_, rfl⟩
            rw [hWn] at HW4 hSn HP HWk HY ⊢
            rw [hgn]
            clear hWn hgn
            clear hSn
            revert HWk
            revert HP
            revert hgW
            revert hgP
            revert HY
            revert W4
            revert gW
            revert gP
            revert HF4
            revert hf2
            revert hf1
            revert σ
            revert Q3
            revert Q2
            exact tail.out
        · go_simp
          obtain ⟨gW, hgn⟩ : ∃ g, W2.heap.size = g := ⟨_, rfl⟩
          have hgW : b3 ≤ gW := by have := HW2.size; have := HBQ.out; omega
          have HW3 : Below b3 w3 (W2.alloc (.cells #[.int .i64 0, .int .i64 0] 31)) := HW2.alloc (by omega) _
          replace HP := HP.alloc (.cells #[.int .i64 0, .int .i64 0] 31)
          have HWk : Blk (W2.alloc (.cells #[.int .i64 0, .int .i64 0] 31)) gW 31 #[.int .i64 0, .int .i64 0] := Blk.new hgn
          replace HX := HX.onAlloc (.cells #[.int .i64 0, .int .i64 0] 31)
          refine hK.out _ _ (HKEEP.out _ HW3) (fun hSm => ?_)
          clear hK K hSn
          have hSn := hSm
          clear hSm
          try simp only [Act.put, pa, pz, ps]
          obtain ⟨W3, hWn⟩ : ∃ W, W2.alloc (.cells #[.int .i64 0, .int .i64 0] 31) = W := ⟨_, rfl⟩
          rw [hWn] at HW3 hSn HP HWk HX ⊢
          rw [hgn]
          clear hWn hgn
          refine wpAnyH_ready (rs := [3]) (by kernel_rfl) (by simp) ?_
          refine AllReadyH.cons rfl (fun K hK => ?_) (AllReadyH.nil)
          · go_simp
            (with_reducible refine (HRN3.out _ _ HW3 HX).mono ?_); rintro e W4 ⟨Q3, σ, rfl, hf1, hf2, HF4, hR0⟩
            have hB0 := hR0.bel
            have HY := hR0.low (base' := b3) (w1 := w3) (by have := HW3.size; have := HBQ.out; omega) HW3
            have HW4 : Below b3 w3 W4 := HY.bel
            replace HP := HP.below hB0 HP.lt
            replace HWk := HWk.below hB0 HWk.lt
            refine hK.out _ _ (HKEEP.out _ HW4) (fun hSm => ?_)
            clear hK K hR0 hB0 hSn HX
            have hSn := hSm
            clear hSm
            try simp only [Act.put, pa, pz, ps]
            refine tk (v := ?_) 4 61 rfl ?_ ?_
            rotate_left
            · (intro W hSw; obtain ⟨-, a0, a1, a2, a3, a4, a5, a6, a7, a8⟩ := hSw; go_simp; try with_reducible rfl)
            simp only [Act.put, pa, pz, ps]
            refine tk (v := ?_) 5 66 rfl ?_ ?_
            rotate_left
            · (intro W hSw; obtain ⟨-, a0, a1, a2, a3, a4, a5, a6, a7, a8⟩ := hSw; go_simp; try with_reducible rfl)
            simp only [Act.put, pa, pz, ps]
            refine tk (v := ?_) 6 67 rfl ?_ ?_
            rotate_left
            · (intro W hSw; obtain ⟨-, a0, a1, a2, a3, a4, a5, a6, a7, a8⟩ := hSw; go_simp; try with_reducible rfl)
            simp only [Act.put, pa, pz, ps]
            clear hSn
            revert HWk
            revert HP
            revert hgW
            revert hgP
            revert HY
            revert W4
            revert gW
            revert gP
            revert HF4
            revert hf2
            revert hf1
            revert σ
            revert Q3
            revert Q2
            exact tail.out
      · go_simp
        obtain ⟨gW, hgn⟩ : ∃ g, W1.heap.size = g := ⟨_, rfl⟩
        have hgW : b3 ≤ gW := by have := HW1.size; have := HBQ.out; omega
        have HW2 : Below b3 w3 (W1.alloc (.cells #[.int .i64 0, .int .i64 0] 31)) := HW1.alloc (by omega) _
        have HWk : Blk (W1.alloc (.cells #[.int .i64 0, .int .i64 0] 31)) gW 31 #[.int .i64 0, .int .i64 0] := Blk.new hgn
        replace HX := HX.onAlloc (.cells #[.int .i64 0, .int .i64 0] 31)
        refine hK.out _ _ (HKEEP.out _ HW2) (fun hSm => ?_)
        clear hK K hSn
        have hSn := hSm
        clear hSm
        try simp only [Act.put, pa, pz, ps]
        obtain ⟨W2, hWn⟩ : ∃ W, W1.alloc (.cells #[.int .i64 0, .int .i64 0] 31) = W := ⟨_, rfl⟩
        rw [hWn] at HW2 hSn HWk HX ⊢
        rw [hgn]
        clear hWn hgn
        refine wpAnyH_ready (rs := [3, 7]) (by kernel_rfl) (by simp) ?_
        refine AllReadyH.cons rfl (fun K hK => ?_) (AllReadyH.cons rfl (fun K hK => ?_) (AllReadyH.nil))
        · go_simp
          (with_reducible refine (HRN3.out _ _ HW2 HX).mono ?_); rintro e W3 ⟨Q3, σ, rfl, hf1, hf2, HF4, hR0⟩
          have hB0 := hR0.bel
          have HY := hR0.low (base' := b3) (w1 := w3) (by have := HW2.size; have := HBQ.out; omega) HW2
          have HW3 : Below b3 w3 W3 := HY.bel
          replace HWk := HWk.below hB0 HWk.lt
          refine hK.out _ _ (HKEEP.out _ HW3) (fun hSm => ?_)
          clear hK K hR0 hB0 hSn HX
          have hSn := hSm
          clear hSm
          try simp only [Act.put, pa, pz, ps]
          refine tk (v := ?_) 4 61 rfl ?_ ?_
          rotate_left
          · (intro W hSw; obtain ⟨-, a0, a1, a2, a3, a4, a5, a6, a7, a8⟩ := hSw; go_simp; try with_reducible rfl)
          simp only [Act.put, pa, pz, ps]
          refine tk (v := ?_) 5 66 rfl ?_ ?_
          rotate_left
          · (intro W hSw; obtain ⟨-, a0, a1, a2, a3, a4, a5, a6, a7, a8⟩ := hSw; go_simp; try with_reducible rfl)
          simp only [Act.put, pa, pz, ps]
          refine tk (v := ?_) 6 67 rfl ?_ ?_
          rotate_left
          · (intro W hSw; obtain ⟨-, a0, a1, a2, a3, a4, a5, a6, a7, a8⟩ := hSw; go_simp; try with_reducible rfl)
          simp only [Act.put, pa, pz, ps]
          refine wpAnyH_ready (rs := [7]) (by kernel_rfl) (by simp) ?_
          refine AllReadyH.cons rfl (fun K hK => ?_) (AllReadyH.nil)
          · go_simp
            obtain ⟨gP, hgn⟩ : ∃ g, W3.heap.size = g := ⟨_, rfl⟩
            have hgP : b3 ≤ gP := by have := HW3.size; have := HBQ.out; omega
            have HW4 : Below b3 w3 (W3.alloc (.cells #[.slice none 0 0, .slice none 0 0, .slice none 0 0] 49)) := HW3.alloc (by omega) _
            replace HWk := HWk.alloc (.cells #[.slice none 0 0, .slice none 0 0, .slice none 0 0] 49)
            have HP : Blk (W3.alloc (.cells #[.slice none 0 0, .slice none 0 0, .slice none 0 0] 49)) gP 49 #[.slice none 0 0, .slice none 0 0, .slice none 0 0] := Blk.new hgn
            replace HY := HY.alloc (.cells #[.slice none 0 0, .slice none 0 0, .slice none 0 0] 49)
            refine hK.out _ _ (HKEEP.out _ HW4) (fun hSm => ?_)
            clear hK K hSn
            have hSn := hSm
            clear hSm
            try simp only [Act.put, pa, pz, ps]
            obtain ⟨W4, hWn⟩ : ∃ W, W3.alloc (.cells #[.slice none 0 0, .slice none 0 0, .slice none 0 0] 49) = W := ⟨_, rfl⟩
            rw [hWn] at HW4 hSn HP HWk HY ⊢
            rw [hgn]
            clear hWn hgn
            clear hSn
            revert HWk
            revert HP
            revert hgW
            revert hgP
            revert HY
            revert W4
            revert gW
            revert gP
            revert HF4
            revert hf2
            revert hf1
            revert σ
            revert Q3
            revert Q2
            exact tail.out
        · go_simp
          obtain ⟨gP, hgn⟩ : ∃ g, W2.heap.size = g := ⟨_, rfl⟩
          have hgP : b3 ≤ gP := by have := HW2.size; have := HBQ.out; omega
          have HW3 : Below b3 w3 (W2.alloc (.cells #[.slice none 0 0, .slice none 0 0, .slice none 0 0] 49)) := HW2.alloc (by omega) _
          replace HWk := HWk.alloc (.cells #[.slice none 0 0, .slice none 0 0, .slice none 0 0] 49)
          have HP : Blk (W2.alloc (.cells #[.slice none 0 0, .slice none 0 0, .slice none 0 0] 49)) gP 49 #[.slice none 0 0, .slice none 0 0, .slice none 0 0] := Blk.new hgn
          replace HX := HX.onAlloc (.cells #[.slice none 0 0, .slice none 0 0, .slice none 0 0] 49)
          refine hK.out _ _ (HKEEP.out _ HW3) (fun hSm => ?_)
          clear hK K hSn
          have hSn := hSm
          clear hSm
          try simp only [Act.put, pa, pz, ps]
          obtain ⟨W3, hWn⟩ : ∃ W, W2.alloc (.cells #[.slice none 0 0, .slice none 0 0, .slice none 0 0] 49) = W := ⟨_, rfl⟩
          rw [hWn] at HW3 hSn HP HWk HX ⊢
          rw [hgn]
          clear hWn hgn
          refine wpAnyH_ready (rs := [3]) (by kernel_rfl) (by simp) ?_
          refine AllReadyH.cons rfl (fun K hK => ?_) (AllReadyH.nil)
          · go_simp
            (with_reducible refine (HRN3.out _ _ HW3 HX).mono ?_); rintro e W4 ⟨Q3, σ, rfl, hf1, hf2, HF4, hR0⟩
            have hB0 := hR0.bel
            have HY := hR0.low (base' := b3) (w1 := w3) (by have := HW3.size; have := HBQ.out; omega) HW3
            have HW4 : Below b3 w3 W4 := HY.bel
            replace HP := HP.below hB0 HP.lt
            replace HWk := HWk.below hB0 HWk.lt
            refine hK.out _ _ (HKEEP.out _ HW4) (fun hSm => ?_)
            clear hK K hR0 hB0 hSn HX
            have hSn := hSm
            clear hSm
            try simp only [Act.put, pa, pz, ps]
            refine tk (v := ?_) 4 61 rfl ?_ ?_
            rotate_left
            · (intro W hSw; obtain ⟨-, a0, a1, a2, a3, a4, a5, a6, a7, a8⟩ := hSw; go_simp; try with_reducible rfl)
            simp only [Act.put, pa, pz, ps]
            refine tk (v := ?_) 5 66 rfl ?_ ?_
            rotate_left
            · (intro W hSw; obtain ⟨-, a0, a1, a2, a3, a4, a5, a6, a7, a8⟩ := hSw; go_simp; try with_reducible rfl)
            simp only [Act.put, pa, pz, ps]
            refine tk (v := ?_) 6 67 rfl ?_ ?_
            rotate_left
            · (intro W hSw; obtain ⟨-, a0, a1, a2, a3, a4, a5, a6, a7, a8⟩ := hSw; go_simp; try with_reducible rfl)
            simp only [Act.put, pa, pz, ps]
            clear hSn
            revert HWk
            revert HP
            revert hgW
            revert hgP
            revert HY
            revert W4
            revert gW
            revert gP
            revert HF4
            revert hf2
            revert hf1
            revert σ
            revert Q3
            revert Q2
            exact tail.out
    · go_simp
      obtain ⟨gP, hgn⟩ : ∃ g, w3.heap.size = g := ⟨_, rfl⟩
      have hgP : b3 ≤ gP := by have := HW0.size; have := HBQ.out; omega
      have HW1 : Below b3 w3 (w3.alloc (.cells #[.slice none 0 0, .slice none 0 0, .slice none 0 0] 49)) := HW0.alloc (by omega) _
      have HP : Blk (w3.alloc (.cells #[.slice none 0 0, .slice none 0 0, .slice none 0 0] 49)) gP 49 #[.slice none 0 0, .slice none 0 0, .slice none 0 0] := Blk.new hgn
      refine hK.out _ _ (HKEEP.out _ HW1) (fun hSm => ?_)
      clear hK K hSn
      have hSn := hSm
      clear hSm
      try simp only [Act.put, pa, pz, ps]
      obtain ⟨W1, hWn⟩ : ∃ W, w3.alloc (.cells #[.slice none 0 0, .slice none 0 0, .slice none 0 0] 49) = W := ⟨_, rfl⟩
      rw [hWn] at HW1 hSn HP ⊢
      rw [hgn]
      clear hWn hgn
      refine wpAnyH_ready (rs := [2, 8]) (by kernel_rfl) (by simp) ?_
      refine AllReadyH.cons rfl (fun K hK => ?_) (AllReadyH.cons rfl (fun K hK => ?_) (AllReadyH.nil))
      · go_simp
        (with_reducible refine (HBG3.out _ HW1).mono ?_); rintro e W2 ⟨Q2, rfl, hR0⟩
        have hB0 := hR0.bel
        have HW2 : Below b3 w3 W2 := HW1.trans (hB0.mono (by have := HW1.size; have := HBQ.out; omega))
        have HX := hR0.st (HLS.out _ _ _ HBE.out).1 (HLS.out _ _ _ HBE.out).2.1 (HLS.out _ _ _ HBE.out).2.2
        replace HP := HP.below hB0 HP.lt
        refine hK.out _ _ (HKEEP.out _ HW2) (fun hSm => ?_)
        clear hK K hR0 hB0 hSn
        have hSn := hSm
        clear hSm
        try simp only [Act.put, pa, pz, ps]
        refine wpAnyH_ready (rs := [3, 8]) (by kernel_rfl) (by simp) ?_
        refine AllReadyH.cons rfl (fun K hK => ?_) (AllReadyH.cons rfl (fun K hK => ?_) (AllReadyH.nil))
        · go_simp
          (with_reducible refine (HRN3.out _ _ HW2 HX).mono ?_); rintro e W3 ⟨Q3, σ, rfl, hf1, hf2, HF4, hR0⟩
          have hB0 := hR0.bel
          have HY := hR0.low (base' := b3) (w1 := w3) (by have := HW2.size; have := HBQ.out; omega) HW2
          have HW3 : Below b3 w3 W3 := HY.bel
          replace HP := HP.below hB0 HP.lt
          refine hK.out _ _ (HKEEP.out _ HW3) (fun hSm => ?_)
          clear hK K hR0 hB0 hSn HX
          have hSn := hSm
          clear hSm
          try simp only [Act.put, pa, pz, ps]
          refine tk (v := ?_) 4 61 rfl ?_ ?_
          rotate_left
          · (intro W hSw; obtain ⟨-, a0, a1, a2, a3, a4, a5, a6, a7, a8⟩ := hSw; go_simp; try with_reducible rfl)
          simp only [Act.put, pa, pz, ps]
          refine tk (v := ?_) 5 66 rfl ?_ ?_
          rotate_left
          · (intro W hSw; obtain ⟨-, a0, a1, a2, a3, a4, a5, a6, a7, a8⟩ := hSw; go_simp; try with_reducible rfl)
          simp only [Act.put, pa, pz, ps]
          refine tk (v := ?_) 6 67 rfl ?_ ?_
          rotate_left
          · (intro W hSw; obtain ⟨-, a0, a1, a2, a3, a4, a5, a6, a7, a8⟩ := hSw; go_simp; try with_reducible rfl)
          simp only [Act.put, pa, pz, ps]
          refine wpAnyH_ready (rs := [8]) (by kernel_rfl) (by simp) ?_
          refine AllReadyH.cons rfl (fun K hK => ?_) (AllReadyH.nil)
          · go_simp
            obtain ⟨gW, hgn⟩ : ∃ g, W3.heap.size = g := ⟨_, rfl⟩
            have hgW : b3 ≤ gW := by have := HW3.size; have := HBQ.out; omega
            have HW4 : Below b3 w3 (W3.alloc (.cells #[.int .i64 0, .int .i64 0] 31)) := HW3.alloc (by omega) _
            replace HP := HP.alloc (.cells #[.int .i64 0, .int .i64 0] 31)
            have HWk : Blk (W3.alloc (.cells #[.int .i64 0, .int .i64 0] 31)) gW 31 #[.int .i64 0, .int .i64 0] := Blk.new hgn
            replace HY := HY.alloc (.cells #[.int .i64 0, .int .i64 0] 31)
            refine hK.out _ _ (HKEEP.out _ HW4) (fun hSm => ?_)
            clear hK K hSn
            have hSn := hSm
            clear hSm
            try simp only [Act.put, pa, pz, ps]
            obtain ⟨W4, hWn⟩ : ∃ W, W3.alloc (.cells #[.int .i64 0, .int .i64 0] 31) = W := ⟨_, rfl⟩
            rw [hWn] at HW4 hSn HP HWk HY ⊢
            rw [hgn]
            clear hWn hgn
            clear hSn
            revert HWk
            revert HP
            revert hgW
            revert hgP
            revert HY
            revert W4
            revert gW
            revert gP
            revert HF4
            revert hf2
            revert hf1
            revert σ
            revert Q3
            revert Q2
            exact tail.out
        · go_simp
          obtain ⟨gW, hgn⟩ : ∃ g, W2.heap.size = g := ⟨_, rfl⟩
          have hgW : b3 ≤ gW := by have := HW2.size; have := HBQ.out; omega
          have HW3 : Below b3 w3 (W2.alloc (.cells #[.int .i64 0, .int .i64 0] 31)) := HW2.alloc (by omega) _
          replace HP := HP.alloc (.cells #[.int .i64 0, .int .i64 0] 31)
          have HWk : Blk (W2.alloc (.cells #[.int .i64 0, .int .i64 0] 31)) gW 31 #[.int .i64 0, .int .i64 0] := Blk.new hgn
          replace HX := HX.onAlloc (.cells #[.int .i64 0, .int .i64 0] 31)
          refine hK.out _ _ (HKEEP.out _ HW3) (fun hSm => ?_)
          clear hK K hSn
          have hSn := hSm
          clear hSm
          try simp only [Act.put, pa, pz, ps]
          obtain ⟨W3, hWn⟩ : ∃ W, W2.alloc (.cells #[.int .i64 0, .int .i64 0] 31) = W := ⟨_, rfl⟩
          rw [hWn] at HW3 hSn HP HWk HX ⊢
          rw [hgn]
          clear hWn hgn
          refine wpAnyH_ready (rs := [3]) (by kernel_rfl) (by simp) ?_
          refine AllReadyH.cons rfl (fun K hK => ?_) (AllReadyH.nil)
          · go_simp
            (with_reducible refine (HRN3.out _ _ HW3 HX).mono ?_); rintro e W4 ⟨Q3, σ, rfl, hf1, hf2, HF4, hR0⟩
            have hB0 := hR0.bel
            have HY := hR0.low (base' := b3) (w1 := w3) (by have := HW3.size; have := HBQ.out; omega) HW3
            have HW4 : Below b3 w3 W4 := HY.bel
            replace HP := HP.below hB0 HP.lt
            replace HWk := HWk.below hB0 HWk.lt
            refine hK.out _ _ (HKEEP.out _ HW4) (fun hSm => ?_)
            clear hK K hR0 hB0 hSn HX
            have hSn := hSm
            clear hSm
            try simp only [Act.put, pa, pz, ps]
            refine tk (v := ?_) 4 61 rfl ?_ ?_
            rotate_left
            · (intro W hSw; obtain ⟨-, a0, a1, a2, a3, a4, a5, a6, a7, a8⟩ := hSw; go_simp; try with_reducible rfl)
            simp only [Act.put, pa, pz, ps]
            refine tk (v := ?_) 5 66 rfl ?_ ?_
            rotate_left
            · (intro W hSw; obtain ⟨-, a0, a1, a2, a3, a4, a5, a6, a7, a8⟩ := hSw; go_simp; try with_reducible rfl)
            simp only [Act.put, pa, pz, ps]
            refine tk (v := ?_) 6 67 rfl ?_ ?_
            rotate_left
            · (intro W hSw; obtain ⟨-, a0, a1, a2, a3, a4, a5, a6, a7, a8⟩ := hSw; go_simp; try with_reducible rfl)
            simp only [Act.put, pa, pz, ps]
            clear hSn
            revert HWk
            revert HP
            revert hgW
            revert hgP
            revert HY
            revert W4
            revert gW
            revert gP
            revert HF4
            revert hf2
            revert hf1
            revert σ
            revert Q3
            revert Q2
            exact tail.out
      · go_simp
        obtain ⟨gW, hgn⟩ : ∃ g, W1.heap.size = g := ⟨_, rfl⟩
        have hgW : b3 ≤ gW := by have := HW1.size; have := HBQ.out; omega
        have HW2 : Below b3 w3 (W1.alloc (.cells #[.int .i64 0, .int .i64 0] 31)) := HW1.alloc (by omega) _
        replace HP := HP.alloc (.cells #[.int .i64 0, .int .i64 0] 31)
        have HWk : Blk (W1.alloc (.cells #[.int .i64 0, .int .i64 0] 31)) gW 31 #[.int .i64 0, .int .i64 0] := Blk.new hgn
        refine hK.out _ _ (HKEEP.out _ HW2) (fun hSm => ?_)
        clear hK K hSn
        have hSn := hSm
        clear hSm
        try simp only [Act.put, pa, pz, ps]
        obtain ⟨W2, hWn⟩ : ∃ W, W1.alloc (.cells #[.int .i64 0, .int .i64 0] 31) = W := ⟨_, rfl⟩
        rw [hWn] at HW2 hSn HP HWk ⊢
        rw [hgn]
        clear hWn hgn
        refine wpAnyH_ready (rs := [2]) (by kernel_rfl) (by simp) ?_
        refine AllReadyH.cons rfl (fun K hK => ?_) (AllReadyH.nil)
        · go_simp
          (with_reducible refine (HBG3.out _ HW2).mono ?_); rintro e W3 ⟨Q2, rfl, hR0⟩
          have hB0 := hR0.bel
          have HW3 : Below b3 w3 W3 := HW2.trans (hB0.mono (by have := HW2.size; have := HBQ.out; omega))
          have HX := hR0.st (HLS.out _ _ _ HBE.out).1 (HLS.out _ _ _ HBE.out).2.1 (HLS.out _ _ _ HBE.out).2.2
          replace HP := HP.below hB0 HP.lt
          replace HWk := HWk.below hB0 HWk.lt
          refine hK.out _ _ (HKEEP.out _ HW3) (fun hSm => ?_)
          clear hK K hR0 hB0 hSn
          have hSn := hSm
          clear hSm
          try simp only [Act.put, pa, pz, ps]
          refine wpAnyH_ready (rs := [3]) (by kernel_rfl) (by simp) ?_
          refine AllReadyH.cons rfl (fun K hK => ?_) (AllReadyH.nil)
          · go_simp
            (with_reducible refine (HRN3.out _ _ HW3 HX).mono ?_); rintro e W4 ⟨Q3, σ, rfl, hf1, hf2, HF4, hR0⟩
            have hB0 := hR0.bel
            have HY := hR0.low (base' := b3) (w1 := w3) (by have := HW3.size; have := HBQ.out; omega) HW3
            have HW4 : Below b3 w3 W4 := HY.bel
            replace HP := HP.below hB0 HP.lt
            replace HWk := HWk.below hB0 HWk.lt
            refine hK.out _ _ (HKEEP.out _ HW4) (fun hSm => ?_)
            clear hK K hR0 hB0 hSn HX
            have hSn := hSm
            clear hSm
            try simp only [Act.put, pa, pz, ps]
            refine tk (v := ?_) 4 61 rfl ?_ ?_
            rotate_left
            · (intro W hSw; obtain ⟨-, a0, a1, a2, a3, a4, a5, a6, a7, a8⟩ := hSw; go_simp; try with_reducible rfl)
            simp only [Act.put, pa, pz, ps]
            refine tk (v := ?_) 5 66 rfl ?_ ?_
            rotate_left
            · (intro W hSw; obtain ⟨-, a0, a1, a2, a3, a4, a5, a6, a7, a8⟩ := hSw; go_simp; try with_reducible rfl)
            simp only [Act.put, pa, pz, ps]
            refine tk (v := ?_) 6 67 rfl ?_ ?_
            rotate_left
            · (intro W hSw; obtain ⟨-, a0, a1, a2, a3, a4, a5, a6, a7, a8⟩ := hSw; go_simp; try with_reducible rfl)
            simp only [Act.put, pa, pz, ps]
            clear hSn
            revert HWk
            revert HP
            revert hgW
            revert hgP
            revert HY
            revert W4
            revert gW
            revert gP
            revert HF4
            revert hf2
            revert hf1
            revert σ
            revert Q3
            revert Q2
            exact tail.out
    · go_simp
      obtain ⟨gW, hgn⟩ : ∃ g, w3.heap.size = g := ⟨_, rfl⟩
      have hgW : b3 ≤ gW := by have := HW0.size; have := HBQ.out; omega
      have HW1 : Below b3 w3 (w3.alloc (.cells #[.int .i64 0, .int .i64 0] 31)) := HW0.alloc (by omega) _
      have HWk : Blk (w3.alloc (.cells #[.int .i64 0, .int .i64 0] 31)) gW 31 #[.int .i64 0, .int .i64 0] := Blk.new hgn
      refine hK.out _ _ (HKEEP.out _ HW1) (fun hSm => ?_)
      clear hK K hSn
      have hSn := hSm
      clear hSm
      try simp only [Act.put, pa, pz, ps]
      obtain ⟨W1, hWn⟩ : ∃ W, w3.alloc (.cells #[.int .i64 0, .int .i64 0] 31) = W := ⟨_, rfl⟩
      rw [hWn] at HW1 hSn HWk ⊢
      rw [hgn]
      clear hWn hgn
      refine wpAnyH_ready (rs := [2, 7]) (by kernel_rfl) (by simp) ?_
      refine AllReadyH.cons rfl (fun K hK => ?_) (AllReadyH.cons rfl (fun K hK => ?_) (AllReadyH.nil))
      · go_simp
        (with_reducible refine (HBG3.out _ HW1).mono ?_); rintro e W2 ⟨Q2, rfl, hR0⟩
        have hB0 := hR0.bel
        have HW2 : Below b3 w3 W2 := HW1.trans (hB0.mono (by have := HW1.size; have := HBQ.out; omega))
        have HX := hR0.st (HLS.out _ _ _ HBE.out).1 (HLS.out _ _ _ HBE.out).2.1 (HLS.out _ _ _ HBE.out).2.2
        replace HWk := HWk.below hB0 HWk.lt
        refine hK.out _ _ (HKEEP.out _ HW2) (fun hSm => ?_)
        clear hK K hR0 hB0 hSn
        have hSn := hSm
        clear hSm
        try simp only [Act.put, pa, pz, ps]
        refine wpAnyH_ready (rs := [3, 7]) (by kernel_rfl) (by simp) ?_
        refine AllReadyH.cons rfl (fun K hK => ?_) (AllReadyH.cons rfl (fun K hK => ?_) (AllReadyH.nil))
        · go_simp
          (with_reducible refine (HRN3.out _ _ HW2 HX).mono ?_); rintro e W3 ⟨Q3, σ, rfl, hf1, hf2, HF4, hR0⟩
          have hB0 := hR0.bel
          have HY := hR0.low (base' := b3) (w1 := w3) (by have := HW2.size; have := HBQ.out; omega) HW2
          have HW3 : Below b3 w3 W3 := HY.bel
          replace HWk := HWk.below hB0 HWk.lt
          refine hK.out _ _ (HKEEP.out _ HW3) (fun hSm => ?_)
          clear hK K hR0 hB0 hSn HX
          have hSn := hSm
          clear hSm
          try simp only [Act.put, pa, pz, ps]
          refine tk (v := ?_) 4 61 rfl ?_ ?_
          rotate_left
          · (intro W hSw; obtain ⟨-, a0, a1, a2, a3, a4, a5, a6, a7, a8⟩ := hSw; go_simp; try with_reducible rfl)
          simp only [Act.put, pa, pz, ps]
          refine tk (v := ?_) 5 66 rfl ?_ ?_
          rotate_left
          · (intro W hSw; obtain ⟨-, a0, a1, a2, a3, a4, a5, a6, a7, a8⟩ := hSw; go_simp; try with_reducible rfl)
          simp only [Act.put, pa, pz, ps]
          refine tk (v := ?_) 6 67 rfl ?_ ?_
          rotate_left
          · (intro W hSw; obtain ⟨-, a0, a1, a2, a3, a4, a5, a6, a7, a8⟩ := hSw; go_simp; try with_reducible rfl)
          simp only [Act.put, pa, pz, ps]
          refine wpAnyH_ready (rs := [7]) (by kernel_rfl) (by simp) ?_
          refine AllReadyH.cons rfl (fun K hK => ?_) (AllReadyH.nil)
          · go_simp
            obtain ⟨gP, hgn⟩ : ∃ g, W3.heap.size = g := ⟨_, rfl⟩
            have hgP : b3 ≤ gP := by have := HW3.size; have := HBQ.out; omega
            have HW4 : Below b3 w3 (W3.alloc (.cells #[.slice none 0 0, .slice none 0 0, .slice none 0 0] 49)) := HW3.alloc (by omega) _
            replace HWk := HWk.alloc (.cells #[.slice none 0 0, .slice none 0 0, .slice none 0 0] 49)
            have HP : Blk (W3.alloc (.cells #[.slice none 0 0, .slice none 0 0, .slice none 0 0] 49)) gP 49 #[.slice none 0 0, .slice none 0 0, .slice none 0 0] := Blk.new hgn
            replace HY := HY.alloc (.cells #[.slice none 0 0, .slice none 0 0, .slice none 0 0] 49)
            refine hK.out _ _ (HKEEP.out _ HW4) (fun hSm => ?_)
            clear hK K hSn
            have hSn := hSm
            clear hSm
            try simp only [Act.put, pa, pz, ps]
            obtain ⟨W4, hWn⟩ : ∃ W, W3.alloc (.cells #[.slice none 0 0, .slice none 0 0, .slice none 0 0] 49) = W := ⟨_, rfl⟩
            rw [hWn] at HW4 hSn HP HWk HY ⊢
            rw [hgn]
            clear hWn hgn
            clear hSn
            revert HWk
            revert HP
            revert hgW
            revert hgP
            revert HY
            revert W4
            revert gW
            revert gP
            revert HF4
            revert hf2
            revert hf1
            revert σ
            revert Q3
            revert Q2
            exact tail.out
        · go_simp
          obtain ⟨gP, hgn⟩ : ∃ g, W2.heap.size = g := ⟨_, rfl⟩
          have hgP : b3 ≤ gP := by have := HW2.size; have := HBQ.out; omega
          have HW3 : Below b3 w3 (W2.alloc (.cells #[.slice none 0 0, .slice none 0 0, .slice none 0 0] 49)) := HW2.alloc (by omega) _
          replace HWk := HWk.alloc (.cells #[.slice none 0 0, .slice none 0 0, .slice none 0 0] 49)
          have HP : Blk (W2.alloc (.cells #[.slice none 0 0, .slice none 0 0, .slice none 0 0] 49)) gP 49 #[.slice none 0 0, .slice none 0 0, .slice none 0 0] := Blk.new hgn
          replace HX := HX.onAlloc (.cells #[.slice none 0 0, .slice none 0 0, .slice none 0 0] 49)
          refine hK.out _ _ (HKEEP.out _ HW3) (fun hSm => ?_)
          clear hK K hSn
          have hSn := hSm
          clear hSm
          try simp only [Act.put, pa, pz, ps]
          obtain ⟨W3, hWn⟩ : ∃ W, W2.alloc (.cells #[.slice none 0 0, .slice none 0 0, .slice none 0 0] 49) = W := ⟨_, rfl⟩
          rw [hWn] at HW3 hSn HP HWk HX ⊢
          rw [hgn]
          clear hWn hgn
          refine wpAnyH_ready (rs := [3]) (by kernel_rfl) (by simp) ?_
          refine AllReadyH.cons rfl (fun K hK => ?_) (AllReadyH.nil)
          · go_simp
            (with_reducible refine (HRN3.out _ _ HW3 HX).mono ?_); rintro e W4 ⟨Q3, σ, rfl, hf1, hf2, HF4, hR0⟩
            have hB0 := hR0.bel
            have HY := hR0.low (base' := b3) (w1 := w3) (by have := HW3.size; have := HBQ.out; omega) HW3
            have HW4 : Below b3 w3 W4 := HY.bel
            replace HP := HP.below hB0 HP.lt
            replace HWk := HWk.below hB0 HWk.lt
            refine hK.out _ _ (HKEEP.out _ HW4) (fun hSm => ?_)
            clear hK K hR0 hB0 hSn HX
            have hSn := hSm
            clear hSm
            try simp only [Act.put, pa, pz, ps]
            refine tk (v := ?_) 4 61 rfl ?_ ?_
            rotate_left
            · (intro W hSw; obtain ⟨-, a0, a1, a2, a3, a4, a5, a6, a7, a8⟩ := hSw; go_simp; try with_reducible rfl)
            simp only [Act.put, pa, pz, ps]
            refine tk (v := ?_) 5 66 rfl ?_ ?_
            rotate_left
            · (intro W hSw; obtain ⟨-, a0, a1, a2, a3, a4, a5, a6, a7, a8⟩ := hSw; go_simp; try with_reducible rfl)
            simp only [Act.put, pa, pz, ps]
            refine tk (v := ?_) 6 67 rfl ?_ ?_
            rotate_left
            · (intro W hSw; obtain ⟨-, a0, a1, a2, a3, a4, a5, a6, a7, a8⟩ := hSw; go_simp; try with_reducible rfl)
            simp only [Act.put, pa, pz, ps]
            clear hSn
            revert HWk
            revert HP
            revert hgW
            revert hgP
            revert HY
            revert W4
            revert gW
            revert gP
            revert HF4
            revert hf2
            revert hf1
            revert σ
            revert Q3
            revert Q2
            exact tail.out
      · go_simp
        obtain ⟨gP, hgn⟩ : ∃ g, W1.heap.size = g := ⟨_, rfl⟩
        have hgP : b3 ≤ gP := by have := HW1.size; have := HBQ.out; omega
        have HW2 : Below b3 w3 (W1.alloc (.cells #[.slice none 0 0, .slice none 0 0, .slice none 0 0] 49)) := HW1.alloc (by omega) _
        replace HWk := HWk.alloc (.cells #[.slice none 0 0, .slice none 0 0, .slice none 0 0] 49)
        have HP : Blk (W1.alloc (.cells #[.slice none 0 0, .slice none 0 0, .slice none 0 0] 49)) gP 49 #[.slice none 0 0, .slice none 0 0, .slice none 0 0] := Blk.new hgn
        refine hK.out _ _ (HKEEP.out _ HW2) (fun hSm => ?_)
        clear hK K hSn
        have hSn := hSm
        clear hSm
        try simp only [Act.put, pa, pz, ps]
        obtain ⟨W2, hWn⟩ : ∃ W, W1.alloc (.cells #[.slice none 0 0, .slice none 0 0, .slice none 0 0] 49) = W := ⟨_, rfl⟩
        rw [hWn] at HW2 hSn HP HWk ⊢
        rw [hgn]
        clear hWn hgn
        refine wpAnyH_ready (rs := [2]) (by kernel_rfl) (by simp) ?_
        refine AllReadyH.cons rfl (fun K hK => ?_) (AllReadyH.nil)
        · go_simp
          (with_reducible refine (HBG3.out _ HW2).mono ?_); rintro e W3 ⟨Q2, rfl, hR0⟩
          have hB0 := hR0.bel
          have HW3 : Below b3 w3 W3 := HW2.trans (hB0.mono (by have := HW2.size; have := HBQ.out; omega))
          have HX := hR0.st (HLS.out _ _ _ HBE.out).1 (HLS.out _ _ _ HBE.out).2.1 (HLS.out _ _ _ HBE.out).2.2
          replace HP := HP.below hB0 HP.lt
          replace HWk := HWk.below hB0 HWk.lt
          refine hK.out _ _ (HKEEP.out _ HW3) (fun hSm => ?_)
          clear hK K hR0 hB0 hSn
          have hSn := hSm
          clear hSm
          try simp only [Act.put, pa, pz, ps]
          refine wpAnyH_ready (rs := [3]) (by kernel_rfl) (by simp) ?_
          refine AllReadyH.cons rfl (fun K hK => ?_) (AllReadyH.nil)
          · go_simp
            (with_reducible refine (HRN3.out _ _ HW3 HX).mono ?_); rintro e W4 ⟨Q3, σ, rfl, hf1, hf2, HF4, hR0⟩
            have hB0 := hR0.bel
            have HY := hR0.low (base' := b3) (w1 := w3) (by have := HW3.size; have := HBQ.out; omega) HW3
            have HW4 : Below b3 w3 W4 := HY.bel
            replace HP := HP.below hB0 HP.lt
            replace HWk := HWk.below hB0 HWk.lt
            refine hK.out _ _ (HKEEP.out _ HW4) (fun hSm => ?_)
            clear hK K hR0 hB0 hSn HX
            have hSn := hSm
            clear hSm
            try simp only [Act.put, pa, pz, ps]
            refine tk (v := ?_) 4 61 rfl ?_ ?_
            rotate_left
            · (intro W hSw; obtain ⟨-, a0, a1, a2, a3, a4, a5, a6, a7, a8⟩ := hSw; go_simp; try with_reducible rfl)
            simp only [Act.put, pa, pz, ps]
            refine tk (v := ?_) 5 66 rfl ?_ ?_
            rotate_left
            · (intro W hSw; obtain ⟨-, a0, a1, a2, a3, a4, a5, a6, a7, a8⟩ := hSw; go_simp; try with_reducible rfl)
            simp only [Act.put, pa, pz, ps]
            refine tk (v := ?_) 6 67 rfl ?_ ?_
            rotate_left
            · (intro W hSw; obtain ⟨-, a0, a1, a2, a3, a4, a5, a6, a7, a8⟩ := hSw; go_simp; try with_reducible rfl)
            simp only [Act.put, pa, pz, ps]
            clear hSn
            revert HWk
            revert HP
            revert hgW
            revert hgP
            revert HY
            revert W4
            revert gW
            revert gP
            revert HF4
            revert hf2
            revert hf1
            revert σ
            revert Q3
            revert Q2
            exact tail.out
  case tailp =>
    refine Lib.hid ?_
    intro Q2 Q3 σ hf1 hf2 HF4 gP gW W5 hbW5 HY hgP hgW HP HWk
    have hSn := HKEEP.out _ HY.bel
    obtain ⟨AX, cX, AE, cE, AHH, cHH⟩ := Q3
    obtain ⟨⟨e0, e1, e2⟩, ⟨f0, f1, f2⟩, hze⟩ := HP.full3
    refine wpAnyH_ready (rs := [9]) (by kernel_rfl) (by simp) ?_
    refine AllReadyH.cons rfl (fun K hK => ?_) AllReadyH.nil
    go_simp
    have hne1 : gW ≠ gP := HWk.ne HP (by decide)
    have hY6 := HY.put3 (x := .slice AX M cX) (y := .slice AE N1 cE) (z := .slice AHH N1 cHH) HP pst_ne (by omega)
    have hP6 := HP.put3 (x := .slice AX M cX) (y := .slice AE N1 cE) (z := .slice AHH N1 cHH)
    have hW6 := HWk.far3 (g := gP) (x := .slice AX M cX) (y := .slice AE N1 cE) (z := .slice AHH N1 cHH) hne1
    refine hK.out _ _ (HKEEP.out _ hY6.bel) (fun hSm => ?_)
    clear hK K hSn hbW5 HY HP HWk e0 e1 e2 f0 f1 f2 hze
    have hSn := hSm
    clear hSm
    dsimp only [put3] at hY6 hP6 hW6
    generalize ((W5.setCell ⟨gP, 0, none⟩ (.slice AX M cX)).setCell ⟨gP, 1, none⟩ (.slice AE N1 cE)).setCell ⟨gP, 2, none⟩ (.slice AHH N1 cHH) = W6 at *
    have p0 := hW6.cell 0; have p1 := hW6.cell 1; have r0 := hW6.frozen 0; have r1 := hW6.frozen 1
    simp only [List.getElem?_toArray, List.getElem?_cons_zero, List.getElem?_cons_succ] at p0 p1
    have hzw := hW6.lt
    refine wpAnyH_ready (rs := [10]) (by kernel_rfl) (by simp) ?_
    refine AllReadyH.cons rfl (fun K hK => ?_) AllReadyH.nil
    go_simp
    have hY7 := (hY6.far hW6 wk_ne (by omega) 0 (.int .i64 (σ.P : Int))).far (hW6.set 0 _) wk_ne (by omega) 1 (.int .i64 (σ.L : Int))
    have hW7 : Blk _ _ _ #[.int .i64 (σ.P : Int), .int .i64 (σ.L : Int)] := (hW6.set 0 (.int .i64 (σ.P : Int))).set 1 (.int .i64 (σ.L : Int))
    have hP7 := (hP6.far (p := ⟨gW, 0, none⟩) (fun e => hne1 e.symm) (.int .i64 (σ.P : Int))).far (p := ⟨gW, 1, none⟩) (fun e => hne1 e.symm) (.int .i64 (σ.L : Int))
    refine hK.out _ _ (HKEEP.out _ hY7.bel) (fun hSm => ?_)
    clear hK K hSn hSm hY6 hP6 hW6 p0 p1 r0 r1 hzw
    generalize (W6.setCell ⟨gW, 0, none⟩ (.int .i64 (σ.P : Int))).setCell ⟨gW, 1, none⟩ (.int .i64 (σ.L : Int)) = W7 at *
    refine wpAnyH_done (by kernel_rfl) ?_ _
    have hsame := HFIN.out.same hf1
    subst hsame
    obtain ⟨hst, hno⟩ := head_end HF4 hf2
    obtain ⟨lX, lE, lH⟩ := HLS.out _ _ _ hst
    have hB7 := hY7.bel
    have hC7 := HC3.out.on (show Below w3.heap.size w3 W7 by rw [HBQ.out]; exact hB7)
    have hStn := hY7.st lX lE lH
    have hrn7 := HRN.out W7 gF gHd gR gC gA gB ⟨AX, cX, AE, cE, AHH, cHH⟩ σ0.X σ0.E σ0.H hC7 hStn hst (fun v hv ha => by rw [hno v hv] at ha; cases ha)
    have hBw7 : Below w.heap.size w W7 := below_step HB3'.out (by rw [HBQ.out]; exact hB7)
    have HW9 := Lib.hid (HW8.out.below hB7 (by have := HW8.out.lt; have := HBQ.out; omega))
    have HD9 := Lib.hid (HD3.out.below hB7 hz3)
    have HC9 := Lib.hid hC7; have HP9 := Lib.hid hP7; have HW10 := Lib.hid hW7; have HBW9 := Lib.hid hBw7; have HST9 := Lib.hid hStn; have HRN9 := Lib.hid hrn7; have HIS := Lib.hid hst; have HNO := Lib.hid hno
    clear hst hno lX lE lH hB7 hC7 hStn hrn7 hBw7 hY7 hP7 hW7 hf1 hf2 HF4
    obtain ⟨a0, a1, a2, a3, a4, a5, a6, a7, a8⟩ := HD9.out.at9
    obtain ⟨⟨q0, q1, q2⟩, -, hzq⟩ := HP9.out.full3
    have hz9 := HD9.out.lt
    go_wp2_with fail
    refine HRN9.out.mono ?_
    rintro e w8 ⟨Q4, σ4, rfl, hg1, hg2, -, hR8⟩
    have he4 := hg1.rest (by show selTo _ _ = []; exact sel_nil.2 HNO.out)
    subst he4
    obtain ⟨lX, lE, lH⟩ := HLS.out _ _ _ HIS.out
    have hB8 := hR8.bel
    have HS4 := Lib.hid (hR8.st lX lE lH)
    have HS8 := Lib.hid (HST9.out.on hB8)
    have HC10 := Lib.hid (HC9.out.on hB8); have HD10 := Lib.hid (HD9.out.below hB8 HD9.out.lt); have HP10 := Lib.hid (HP9.out.below hB8 HP9.out.lt); have HW11 := Lib.hid (HW10.out.below hB8 HW10.out.lt); have HW12 := Lib.hid (HW9.out.below hB8 HW9.out.lt); have HB8 := Lib.hid (below_step HBW9.out hB8)
    clear hg1 hg2 hR8 lX lE lH hB8 a0 a1 a2 a3 a4 a5 a6 a7 a8 q0 q1 q2 hzq hz9
    obtain ⟨AX2, cX2, AE2, cE2, AH2, cH2⟩ := Q4
    go_upto_region 9 with fail
    obtain ⟨v9, hv9⟩ : ∃ v9, ((w8.alloc (.cells #[.slice AX2 M cX2, .slice AE2 N1 cE2, .slice AH2 N1 cH2] 49)).alloc (.cells #[.int .i64 0, .int .i64 0] 31)) = v9 := ⟨_, rfl⟩
    have X2 : Below w8.heap.size w8 v9 := by rw [← hv9]; exact (below_alloc _).alloc (by simp) _
    obtain ⟨g12, hg12⟩ : ∃ g, w8.heap.size = g := ⟨_, rfl⟩
    obtain ⟨g13, hg13⟩ : ∃ g, g12 + 1 = g := ⟨_, rfl⟩
    have P9 : Blk v9 g12 49 #[.slice AX2 M cX2, .slice AE2 N1 cE2, .slice AH2 N1 cH2] := by rw [← hv9, ← hg12]; exact (Blk.new rfl).alloc _
    have V9 : Blk v9 g13 31 #[.int .i64 0, .int .i64 0] := by rw [← hv9, ← hg13, ← hg12]; exact Blk.new (by simp)
    have HC11 := Lib.hid (HC10.out.on X2); have HD11 := Lib.hid (HD10.out.below X2 HD10.out.lt); have HP11 := Lib.hid (HP10.out.below X2 HP10.out.lt); have HW13 := Lib.hid (HW11.out.below X2 HW11.out.lt); have HW14 := Lib.hid (HW12.out.below X2 HW12.out.lt); have HB9 := Lib.hid (below_step HB8.out X2); have HSA := Lib.hid (HS8.out.on X2); have HSB := Lib.hid (HS4.out.on X2); have HPP := Lib.hid P9; have HVV := Lib.hid V9
    first | rw [hv9, hg12, hg13] | (simp only [Int.natCast_zero] at hv9 ⊢; rw [hv9, hg12, hg13])
    clear hv9 X2 hg12 hg13 P9 V9
    have p0 := HW13.out.cell 0; have p1 := HW13.out.cell 1; have r0 := HW14.out.cell 0; have r1 := HW14.out.cell 1
    simp only [List.getElem?_toArray, List.getElem?_cons_zero, List.getElem?_cons_succ] at p0 p1 r0 r1
    have hz1 := HW13.out.lt; have hz2 := HW14.out.lt
    obtain ⟨a0, a1, a2, a3, a4, a5, a6, a7, a8⟩ := HD11.out.at9
    obtain ⟨⟨q0, q1, q2⟩, -, hzq⟩ := HP11.out.full3
    have hz9 := HD11.out.lt
    go_wp2_with fail
    refine (HRT.out v9 gF gHd gR gC gA gB ⟨AX, cX, AE, cE, AHH, cHH⟩ σ0.X σ0.E σ0.H HC11.out HSA.out HIS.out).mono ?_
    rintro e v10 ⟨rfl, X2⟩
    have HC12 := Lib.hid (HC11.out.on X2); have HD12 := Lib.hid (HD11.out.below X2 HD11.out.lt); have HP12 := Lib.hid (HP11.out.below X2 HP11.out.lt); have HB10 := Lib.hid (below_step HB9.out X2); have HSA1 := Lib.hid (HSA.out.on X2); have HSB1 := Lib.hid (HSB.out.on X2); have HPP1 := Lib.hid (HPP.out.below X2 HPP.out.lt); have HVV1 := Lib.hid (HVV.out.below X2 HVV.out.lt)
    clear X2 a0 a1 a2 a3 a4 a5 a6 a7 a8 q0 q1 q2 hzq hz9 p0 p1 r0 r1 hz1 hz2
    obtain ⟨a0, a1, a2, a3, a4, a5, a6, a7, a8⟩ := HD12.out.at9
    obtain ⟨⟨q0, q1, q2⟩, -, hzq⟩ := HP12.out.full3
    have hz9 := HD12.out.lt
    go_wp2_with fail
    refine (HAC.out v10 gF gHd gR gC gA gB ⟨AX, cX, AE, cE, AHH, cHH⟩ σ0.X σ0.E σ0.H HC12.out HSA1.out HNO.out).mono ?_
    rintro e v11 ⟨AQ, cQ, rfl, -, X2⟩
    have HP13 := Lib.hid (HP12.out.below X2 HP12.out.lt); have HB11 := Lib.hid (below_step HB10.out X2); have HSA2 := Lib.hid (HSA1.out.on X2); have HSB2 := Lib.hid (HSB1.out.on X2); have HPP2 := Lib.hid (HPP1.out.below X2 HPP1.out.lt); have HVV2 := Lib.hid (HVV1.out.below X2 HVV1.out.lt)
    clear X2 a0 a1 a2 a3 a4 a5 a6 a7 a8 q0 q1 q2 hzq hz9
    obtain ⟨⟨q0, q1, q2⟩, -, hzq⟩ := HP13.out.full3
    obtain ⟨⟨p0, p1, p2⟩, -, hzp⟩ := HPP2.out.full3
    have hl0 : (([] : List Nat).length : Int) = 0 := rfl
    go_wp2_with fail
    refine (sameP_is M N1 N1 M N1 N1 ⟨AX2, cX2, AE2, cE2, AH2, cH2⟩ ⟨AX, cX, AE, cE, AHH, cHH⟩ σ0.X σ0.E σ0.H σ0.X σ0.E σ0.H true v11 HSB2.out HSA2.out (by omega) (by omega) (by omega) (by omega) (by omega) (by omega) (by simp)).mono ?_
    rintro e v12 ⟨rfl, X2⟩
    have HB12 := Lib.hid (below_step HB11.out X2); have HVV3 := Lib.hid (HVV2.out.below X2 HVV2.out.lt)
    clear X2 q0 q1 q2 hzq p0 p1 p2 hzp
    have p0 := HVV3.out.cell 0; have p1 := HVV3.out.cell 1
    simp only [List.getElem?_toArray, List.getElem?_cons_zero, List.getElem?_cons_succ] at p0 p1
    have hzv := HVV3.out.lt
    go_wp2_with fail
    refine (awake8_is v12).mono ?_
    rintro e v13 ⟨rfl, X2⟩
    go_wp2_with fail
    go_ret
    exact ⟨rfl, below_step HB12.out X2⟩

end Go.Proofs.Ytfcjmhihheeifaa
