/- PreTells: the document's own Push. PreTells: the document's own Lift. PreTells: the document's own May. -/
import Derived.Test.YtgjokddcaadjdaaPcq
import Derived.Test.YtgjokddcaadjdaaPlap
/-! Pps -/
namespace Go.Proofs.Ytgjokddcaadjdaa
open Go.RowKit Go.Shelf
set_option maxRecDepth 100000

set_option maxHeartbeats 32000000 in
theorem rpush_is (N M s t : Nat) (K : CsrS) (Q : PreS) (fst hd rv ai : Nat → Nat) (cp : Nat → Int) (bk : Nat → Bool) (X E H : List Int) (a : Int) (w : World) (hG : PNet N M s t fst hd rv ai cp bk) (hI : PIn w w.heap.size N M K fst hd rv ai cp bk)
    (hQ : StIn w w.heap.size M N N Q X E H) (hS : StIs N M s t hd rv cp X E H) :
    Calls Try.prog 23 #[csrW N M s t K, preW M N N Q, .int .i64 a] w (RetPush (pushS M s t hd rv X E H a).1 (pushC M s t hd rv X E H a) (pushS M s t hd rv X E H a).2.1 (pushS M s t hd rv X E H a).2.2.1 (pushS M s t hd rv X E H a).2.2.2 w) := by
  have hM := hG.nM; have hN := hG.nN
  obtain ⟨R, hR⟩ : ∃ R, pushS M s t hd rv X E H a = R := ⟨_, rfl⟩
  obtain ⟨cc, hcc⟩ : ∃ cc, pushC M s t hd rv X E H a = cc := ⟨_, rfl⟩
  rw [hR, hcc]
  have HRR := Lib.hid hR; have HCC := Lib.hid hcc
  clear hR hcc
  by_cases hr : 0 ≤ a ∧ a < (M : Int)
  · obtain ⟨a, rfl⟩ := Int.eq_ofNat_of_zero_le hr.1
    have ha : a < M := by omega
    have hC0 : pushC M s t hd rv X E H (a : Int) = if (actB s t E (hd (rv a)) && admB hd rv X H a) = true then 0 else 30 := by unfold pushC; rw [if_neg (fun h => h hr)]; rfl
    have hpu := fun W (hb : Below w.heap.size w W) => rpushes_is N M s t a K Q fst hd rv X E H W hG.g (hI.gi.on hb) (hQ.on hb) ha (by omega) hN hS.bnd
    have htl := fun W (hb : Below w.heap.size w W) => rtail_is N M s t a K fst hd rv W hG.g (hI.gi.on hb) ha hN
    have hcopy := fun W (hb : Below w.heap.size w W) => rcopy_is M N N Q X E H W (hQ.on hb) (by omega) (by omega) (by omega)
    have hra := hG.g.rvl a ha
    have hne := hG.rne ha
    have hu := hG.mN ha
    have hv := hG.g.hdl a ha
    have huv := hG.nol a ha
    have hN0 : 0 < N := by omega
    have hM0 : 0 < M := by omega
    obtain ⟨bE, oE, hEa⟩ := hQ.iE.adr hN0
    obtain ⟨bX, oX, hXa⟩ := hQ.iX.adr hM0
    obtain ⟨bH, oH, hHa⟩ := hI.gi.iH.adr hM0
    obtain ⟨bR, oR, hRa⟩ := hI.gi.iR.adr hM0
    have hiE := hQ.iE; have hiX := hQ.iX; have hiH := hI.gi.iH; have hiR := hI.gi.iR
    have hlx := hS.bal.1; have hle := hS.le; have hlh := hS.lh
    have h0d : 0 ≤ pushD hd rv X E a ∨ (actB s t E (hd (rv a)) && admB hd rv X H a) = false := by
      cases hb : (actB s t E (hd (rv a)) && admB hd rv X H a) with
      | false => exact .inr rfl
      | true =>
        rw [Bool.and_eq_true, act_iff, adm_iff] at hb
        refine .inl ?_
        unfold pushD
        omega
    have hfit := fun d h0 h1 => move_fit hG hS.bal hS.le hS.exc ha (d := d) h0 h1
    have HPU := Lib.hid hpu; have HTL := Lib.hid htl; have HCO := Lib.hid hcopy; have HFI := Lib.hid hfit; have H0D := Lib.hid h0d; have HC0 := Lib.hid hC0; have HLX := Lib.hid hlx; have HLE := Lib.hid hle; have HLH := Lib.hid hlh
    clear hpu htl hcopy hfit h0d hC0
    obtain ⟨AF, cF, AH, cH, AR, cR, AC, cC, AA, cA, AB, cB⟩ := K
    obtain ⟨AX, cX, AE, cE, AHH, cHH⟩ := Q
    dsimp only [csrW, preW] at hEa hXa hHa hRa hiE hiX hiH hiR HPU HTL HCO ⊢
    subst hEa; subst hXa; subst hHa; subst hRa
    obtain ⟨w1, hw1⟩ : ∃ W, ((w.alloc (.cells #[.int .i64 (N : Int), .int .i64 (s : Int), .int .i64 (t : Int), .slice AF (N + 1) cF, .slice (some ⟨bH, oH, none⟩) M cH, .slice (some ⟨bR, oR, none⟩) M cR, .slice AC M cC, .slice AA M cA, .slice AB M cB] 32)).alloc (.cells #[.slice (some ⟨bX, oX, none⟩) M cX, .slice (some ⟨bE, oE, none⟩) N cE, .slice AHH N cHH] 29)).alloc (.cells #[.slice none 0 0, .slice none 0 0, .slice none 0 0] 29) = W := ⟨_, rfl⟩
    have B1 : Below w.heap.size w w1 := by rw [← hw1]; exact ((below_alloc _).alloc (by simp) _).alloc (by simp; omega) _
    have HC1 := Lib.hid (show Blk w1 w.heap.size 32 #[.int .i64 (N : Int), .int .i64 (s : Int), .int .i64 (t : Int), .slice AF (N + 1) cF, .slice (some ⟨bH, oH, none⟩) M cH, .slice (some ⟨bR, oR, none⟩) M cR, .slice AC M cC, .slice AA M cA, .slice AB M cB] by rw [← hw1]; exact ((Blk.new rfl).alloc _).alloc _)
    have HP1 := Lib.hid (show Blk w1 (w.heap.size + 1) 29 #[.slice (some ⟨bX, oX, none⟩) M cX, .slice (some ⟨bE, oE, none⟩) N cE, .slice AHH N cHH] by rw [← hw1]; exact (Blk.new (by simp)).alloc _)
    have HR1 := Lib.hid (show Blk w1 (w.heap.size + 1 + 1) 29 #[.slice none 0 0, .slice none 0 0, .slice none 0 0] by rw [← hw1]; exact Blk.new (by simp))
    have HB1 := Lib.hid B1
    have HIE := Lib.hid hiE; have HIX := Lib.hid hiX; have HIH0 := Lib.hid hiH; have HIR0 := Lib.hid hiR
    obtain ⟨a0, a1, a2, a3, a4, a5, a6, a7, a8⟩ := HC1.out.at9
    obtain ⟨⟨p0, p1, p2⟩, -, hz2⟩ := HP1.out.full3
    have hz1 := HC1.out.lt
    clear B1 hG hI hQ hS hiE hiX hiH hiR
    obtain ⟨r, hrr⟩ : ∃ r, (actB s t E (hd (rv a)) && admB hd rv X H a) = r := ⟨_, rfl⟩
    simp only [hrr] at HPU H0D HC0
    clear hrr
    have hr1 : ¬ (a : Int) < 0 := by omega
    have hr2 : ¬ (M : Int) ≤ (a : Int) := by omega
    go_enter Try.func23, Try.ntmps23
    go_wp2_with fail
    refine (HPU.out _ HB1.out).mono ?_
    rintro e w2 ⟨rfl, B2⟩
    clear hw1 a0 a1 a2 a3 a4 a5 a6 a7 a8 p0 p1 p2 hz1 hz2
    have HB2 := Lib.hid (below_step HB1.out B2)
    have HC2 := Lib.hid (HC1.out.below B2 HC1.out.lt); have HP2 := Lib.hid (HP1.out.below B2 HP1.out.lt); have HR2 := Lib.hid (HR1.out.below B2 HR1.out.lt)
    clear B2 HC1 HP1 HR1 HB1 HPU
    cases r with
    | false =>
      have hC30 : pushC M s t hd rv X E H (a : Int) = 30 := by rw [HC0.out]; rfl
      have hps : pushS M s t hd rv X E H (a : Int) = (0, [], [], []) := by unfold pushS; rw [hC30]; rfl
      obtain rfl := HRR.out.symm.trans hps
      obtain rfl := HCC.out.symm.trans hC30
      clear hps hC30
      obtain ⟨⟨r0, r1, r2⟩, ⟨s0, s1, s2⟩, hz3⟩ := HR2.out.full3
      go_wp2_with fail
      have K9 := HR2.out.put3 (x := .slice none 0 0) (y := .slice none 0 0) (z := .slice none 0 0)
      have B9 := below_put3 (g := w.heap.size + 1 + 1) (x := .slice none 0 0) (y := .slice none 0 0) (z := .slice none 0 0) HB2.out (by omega)
      obtain ⟨⟨q0, q1, q2⟩, -, -⟩ := K9.full3
      dsimp only [put3] at q0 q1 q2
      refine bodyPost_ret (v := .tuple #[.agg #[.slice none 0 0, .slice none 0 0, .slice none 0 0], .int .i64 0, .int .i64 30]) (by simp [results, Try.results23, go_sem, q0, q1, q2]) rfl ⟨⟨none, 0, none, 0, none, 0⟩, rfl, nil_st B9 B9.size⟩
    | true =>
      have hC00 : pushC M s t hd rv X E H (a : Int) = 0 := by rw [HC0.out]; rfl
      have hps : pushS M s t hd rv X E H (a : Int) = (pushD hd rv X E a, mvX rv X a (pushD hd rv X E a), mvE hd rv E a (pushD hd rv X E a), H) := by unfold pushS; rw [hC00]; rfl
      obtain rfl := HRR.out.symm.trans hps
      obtain rfl := HCC.out.symm.trans hC00
      have h0 : 0 ≤ pushD hd rv X E a := H0D.out.elim id (fun h => by cases h)
      have hdm : pushD hd rv X E a = min (hOf E (hd (rv a))) (hOf X a) := rfl
      obtain ⟨f1, f2, f3, f4⟩ := HFI.out _ h0 (by rw [hdm]; omega)
      clear hps hC00 HFI H0D HC0 HRR HCC
      obtain ⟨d, hd'⟩ : ∃ d, pushD hd rv X E a = d := ⟨_, rfl⟩
      obtain ⟨q, hq⟩ : ∃ q, rv a = q := ⟨_, rfl⟩
      obtain ⟨u, hu'⟩ : ∃ u, hd (rv a) = u := ⟨_, rfl⟩
      obtain ⟨v, hv'⟩ : ∃ v, hd a = v := ⟨_, rfl⟩
      obtain ⟨x, hx'⟩ : ∃ x, hOf X a = x := ⟨_, rfl⟩
      obtain ⟨y, hy'⟩ : ∃ y, hOf X (rv a) = y := ⟨_, rfl⟩
      obtain ⟨eu, heu⟩ : ∃ y, hOf E (hd (rv a)) = y := ⟨_, rfl⟩
      obtain ⟨ev, hev⟩ : ∃ y, hOf E (hd a) = y := ⟨_, rfl⟩
      have HXE := Lib.hid hx'
      have HYE := Lib.hid (show hOf X q = y by rw [← hq]; exact hy')
      have HEU := Lib.hid (show hOf E u = eu by rw [← hu']; exact heu); have HEV := Lib.hid (show hOf E v = ev by rw [← hv']; exact hev)
      have HDD := Lib.hid hd'
      have HMX := Lib.hid (show mvX rv X a (pushD hd rv X E a) = (X.set a (x - d)).set q (y + d) by unfold mvX; rw [hd', hx', hy', hq])
      have HME := Lib.hid (show mvE hd rv E a (pushD hd rv X E a) = (E.set u (eu - d)).set v (ev + d) by unfold mvE; rw [hd', heu, hev, hu', hv'])
      have HQE := Lib.hid hq; have HVE := Lib.hid hv'
      rw [hd', hx'] at f1; rw [hd', hy'] at f2; rw [hd', heu] at f3; rw [hd', hev] at f4
      rw [hd', heu, hx'] at hdm
      rw [hu'] at hu huv HTL
      rw [hv'] at hv huv
      rw [hq] at hra hne
      have wr1 : IntKind.i64.wrap (x - d) = x - d := wrap_in f1.1 (by unfold InR at f1; omega)
      have wr2 : IntKind.i64.wrap (y + d) = y + d := wrap_in f2.1 (by unfold InR at f2; omega)
      have wr3 : IntKind.i64.wrap (eu - d) = eu - d := wrap_in f3.1 (by unfold InR at f3; omega)
      have wr4 : IntKind.i64.wrap (ev + d) = ev + d := wrap_in f4.1 (by unfold InR at f4; omega)
      clear f1 f2 f3 f4 h0 hd' hq hu' hv' hx' hy' heu hev
      obtain ⟨a0, a1, a2, a3, a4, a5, a6, a7, a8⟩ := HC2.out.at9
      obtain ⟨⟨p0, p1, p2⟩, -, hz2⟩ := HP2.out.full3
      have hz1 := HC2.out.lt
      go_wp2_with fail
      refine (HTL.out _ HB2.out).mono ?_
      rintro e w3 ⟨rfl, B3⟩
      clear a0 a1 a2 a3 a4 a5 a6 a7 a8 p0 p1 p2 hz1 hz2
      have HB3 := Lib.hid (below_step HB2.out B3)
      have HC3 := Lib.hid (HC2.out.below B3 HC2.out.lt); have HP3 := Lib.hid (HP2.out.below B3 HP2.out.lt); have HR3 := Lib.hid (HR2.out.below B3 HR2.out.lt)
      have HIR := Lib.hid (HIR0.out.on HB3.out); have HIH := Lib.hid (HIH0.out.on HB3.out)
      obtain ⟨hbE, ce3⟩ := (HIE.out.on HB3.out).cel (hOf_get HLE.out hu)
      obtain ⟨hbX, cx3⟩ := (HIX.out.on HB3.out).cel (hOf_get HLX.out ha)
      rw [HEU.out] at ce3
      rw [HXE.out] at cx3
      clear B3 HC2 HP2 HR2 HB2 HTL HIE HIX HIH0 HIR0
      by_cases hlt : x < eu
      · have hdd : d = x := by omega
        have cx3' : w3.cell? ⟨bX, oX + a, none⟩ = some (.int .i64 d) := by rw [hdd]; exact cx3
        have hl1 : d < eu := by omega
        clear cx3 hdd hlt hdm
        obtain ⟨a0, a1, a2, a3, a4, a5, a6, a7, a8⟩ := HC3.out.at9
        obtain ⟨⟨p0, p1, p2⟩, -, hz2⟩ := HP3.out.full3
        have hz1 := HC3.out.lt
        go_wp2_with fail
        refine (HCO.out _ HB3.out).mono ?_
        rintro e w4 ⟨⟨AX2, cX2, AE2, cE2, AH2, cH2⟩, rfl, HX4⟩
        clear a0 a1 a2 a3 a4 a5 a6 a7 a8 p0 p1 p2 hz1 hz2 cx3' hl1 ce3
        obtain ⟨gX, rfl⟩ := own_some (n := M) (A := AX2) (HX4.held.own 0 _ rfl) (by omega)
        obtain ⟨gE, rfl⟩ := own_some (n := N) (A := AE2) (HX4.held.own 1 _ rfl) (by omega)
        dsimp only [preW]
        obtain ⟨gO, hgO⟩ : ∃ g, w4.heap.size = g := ⟨_, rfl⟩
        obtain ⟨w5, hw5⟩ : ∃ W, w4.alloc (.cells #[.slice (some ⟨gX, 0, none⟩) M cX2, .slice (some ⟨gE, 0, none⟩) N cE2, .slice AH2 N cH2] 29) = W := ⟨_, rfl⟩
        have hbo : w3.heap.size ≤ gO := by rw [← hgO]; exact HX4.bel.size
        have HX5 := Lib.hid (show Hx w3 w5 w3.heap.size (pstR M N N ⟨some ⟨gX, 0, none⟩, cX2, some ⟨gE, 0, none⟩, cE2, AH2, cH2⟩ X E H) by rw [← hw5]; exact HX4.alloc _)
        have HO5 := Lib.hid (show Blk w5 gO 29 #[.slice (some ⟨gX, 0, none⟩) M cX2, .slice (some ⟨gE, 0, none⟩) N cE2, .slice AH2 N cH2] by rw [← hw5]; exact Blk.new hgO)
        have nx := own_apart (n := M) (g := gX) (HX5.out.held.own 0 _ rfl) HO5.out (show (2 : TypeId) ≠ 29 by decide)
        have ny := own_apart (n := N) (g := gE) (HX5.out.held.own 1 _ rfl) HO5.out (show (2 : TypeId) ≠ 29 by decide)
        have HNE := Lib.hid (And.intro nx ny)
        clear nx ny HX4
        go_wp2_with fail
        clear hw5 hgO
        obtain ⟨hcx, hfx, hzx, -⟩ := HX5.out.cell (i := 0) (j := a) rfl ha (lvs_at (by omega))
        rw [HXE.out] at hcx
        obtain ⟨⟨o0, o1, o2⟩, -, hzo⟩ := HO5.out.full3
        have hcc := HC3.out.below HX5.out.bel HC3.out.lt
        obtain ⟨a0, a1, a2, a3, a4, a5, a6, a7, a8⟩ := hcc.at9
        have hzc := hcc.lt
        have cr := (tab_cell (HIR.out.below HX5.out.bel) ha).2
        have hbR := (tab_cell (HIR.out.below HX5.out.bel) ha).1
        have chd := (tab_cell (HIH.out.below HX5.out.bel) ha).2
        have hbH := (tab_cell (HIH.out.below HX5.out.bel) ha).1
        rw [HQE.out] at cr
        rw [HVE.out] at chd
        have hzs5 := HX5.out.bel.size
        have zR : bR < w5.heap.size := by omega
        have zH : bH < w5.heap.size := by omega
        clear hcc
        obtain ⟨w6, hw6⟩ : ∃ W, w5.drew.setCell ⟨gX, a, none⟩ (.int .i64 (x - d)) = W := ⟨_, rfl⟩
        have HX6 := Lib.hid (show Hx w3 w6 w3.heap.size (pstR M N N ⟨some ⟨gX, 0, none⟩, cX2, some ⟨gE, 0, none⟩, cE2, AH2, cH2⟩ (X.set a (x - d)) (E) H) by rw [← hw6]; exact (HX5.out.drew 1).putX a (x - d))
        have HO6 := Lib.hid (show Blk w6 gO 29 #[.slice (some ⟨gX, 0, none⟩) M cX2, .slice (some ⟨gE, 0, none⟩) N cE2, .slice AH2 N cH2] by rw [← hw6]; exact HO5.out.drew.far (p := ⟨gX, a, none⟩) HNE.out.1 (.int .i64 (x - d)))
        refine wp_region_lastL (S := fun W' => W'.cell? ⟨gO, 0, none⟩ = some (.slice (some ⟨gX, 0, none⟩) M cX2) ∧ W'.cell? ⟨gX, a, none⟩ = some (.int .i64 x)) rfl (by kernel_rfl) (by kernel_rfl) ⟨o0, hcx⟩ (fun hS0 => ?_)
        simp only [List.dropLast]
        refine tk (v := ?_) 0 50 rfl ?_ ?_
        rotate_left
        · (intro W' hSw; obtain ⟨t0, t1⟩ := hSw; go_simp; try with_reducible rfl)
        simp only [Act.put, pa, pz, ps]
        refine tk (v := ?_) 1 51 rfl ?_ ?_
        rotate_left
        · (intro W' hSw; obtain ⟨t0, t1⟩ := hSw; go_simp; try with_reducible rfl)
        simp only [Act.put, pa, pz, ps]
        refine tk (v := ?_) 2 52 rfl ?_ ?_
        rotate_left
        · (intro W' hSw; obtain ⟨t0, t1⟩ := hSw; go_simp; try with_reducible rfl)
        simp only [Act.put, pa, pz, ps]
        refine tk (v := ?_) 3 53 rfl ?_ ?_
        rotate_left
        · (intro W' hSw; obtain ⟨t0, t1⟩ := hSw; go_simp; try with_reducible rfl)
        simp only [Act.put, pa, pz, ps]
        refine tk (v := ?_) 4 54 rfl ?_ ?_
        rotate_left
        · (intro W' hSw; obtain ⟨t0, t1⟩ := hSw; go_simp; try with_reducible rfl)
        simp only [Act.put, pa, pz, ps]
        refine tk (v := ?_) 5 55 rfl ?_ ?_
        rotate_left
        · (intro W' hSw; obtain ⟨t0, t1⟩ := hSw; go_simp; try with_reducible rfl)
        simp only [Act.put, pa, pz, ps]
        refine tk (v := ?_) 6 56 rfl ?_ ?_
        rotate_left
        · (intro W' hSw; obtain ⟨t0, t1⟩ := hSw; go_simp; try with_reducible rfl)
        simp only [Act.put, pa, pz, ps]
        refine tk (v := ?_) 7 57 rfl ?_ ?_
        rotate_left
        · (intro W' hSw; obtain ⟨t0, t1⟩ := hSw; go_simp; try with_reducible rfl)
        simp only [Act.put, pa, pz, ps]
        refine tk (v := ?_) 8 58 rfl ?_ ?_
        rotate_left
        · (intro W' hSw; obtain ⟨t0, t1⟩ := hSw; go_simp; try with_reducible rfl)
        simp only [Act.put, pa, pz, ps]
        refine tk (v := ?_) 9 59 rfl ?_ ?_
        rotate_left
        · (intro W' hSw; obtain ⟨t0, t1⟩ := hSw; go_simp; try with_reducible rfl)
        simp only [Act.put, pa, pz, ps]
        refine tk (v := ?_) 10 60 rfl ?_ ?_
        rotate_left
        · (intro W' hSw; obtain ⟨t0, t1⟩ := hSw; go_simp; try with_reducible rfl)
        simp only [Act.put, pa, pz, ps]
        refine wpAnyH_done (by kernel_rfl) ?_ _
        clear hS0
        go_wp2_with fail
        clear hw6
        clear o0 o1 o2 hzo a0 a1 a2 a3 a4 a5 a6 a7 a8 hzc cr chd hbR hbH zR zH hcx hfx hzx hzs5
        obtain ⟨hcx, hfx, hzx, -⟩ := HX6.out.cell (i := 0) (j := q) rfl hra (lvs_at (by rw [List.length_set]; omega))
        rw [hOf_put (by omega), if_neg (fun e => hne e.symm), HYE.out] at hcx
        obtain ⟨⟨o0, o1, o2⟩, -, hzo⟩ := HO6.out.full3
        have hcc := HC3.out.below HX6.out.bel HC3.out.lt
        obtain ⟨a0, a1, a2, a3, a4, a5, a6, a7, a8⟩ := hcc.at9
        have hzc := hcc.lt
        have cr := (tab_cell (HIR.out.below HX6.out.bel) ha).2
        have hbR := (tab_cell (HIR.out.below HX6.out.bel) ha).1
        have chd := (tab_cell (HIH.out.below HX6.out.bel) ha).2
        have hbH := (tab_cell (HIH.out.below HX6.out.bel) ha).1
        rw [HQE.out] at cr
        rw [HVE.out] at chd
        have hzs6 := HX6.out.bel.size
        have zR : bR < w6.heap.size := by omega
        have zH : bH < w6.heap.size := by omega
        clear hcc
        obtain ⟨w7, hw7⟩ : ∃ W, w6.drew.setCell ⟨gX, q, none⟩ (.int .i64 (y + d)) = W := ⟨_, rfl⟩
        have HX7 := Lib.hid (show Hx w3 w7 w3.heap.size (pstR M N N ⟨some ⟨gX, 0, none⟩, cX2, some ⟨gE, 0, none⟩, cE2, AH2, cH2⟩ ((X.set a (x - d)).set q (y + d)) (E) H) by rw [← hw7]; exact (HX6.out.drew 1).putX q (y + d))
        have HO7 := Lib.hid (show Blk w7 gO 29 #[.slice (some ⟨gX, 0, none⟩) M cX2, .slice (some ⟨gE, 0, none⟩) N cE2, .slice AH2 N cH2] by rw [← hw7]; exact HO6.out.drew.far (p := ⟨gX, q, none⟩) HNE.out.1 (.int .i64 (y + d)))
        refine wp_region_lastL (S := fun W' => W'.cell? ⟨gO, 0, none⟩ = some (.slice (some ⟨gX, 0, none⟩) M cX2) ∧ W'.cell? ⟨w.heap.size, 5, none⟩ = some (.slice (some ⟨bR, oR, none⟩) M cR) ∧ W'.cell? ⟨bR, oR + a, none⟩ = some (.int .i64 (q : Int)) ∧ W'.cell? ⟨gX, q, none⟩ = some (.int .i64 y)) rfl (by kernel_rfl) (by kernel_rfl) ⟨o0, a5, cr, hcx⟩ (fun hS0 => ?_)
        simp only [List.dropLast]
        refine tk (v := ?_) 0 61 rfl ?_ ?_
        rotate_left
        · (intro W' hSw; obtain ⟨t0, t1, t2, t3⟩ := hSw; go_simp; try with_reducible rfl)
        simp only [Act.put, pa, pz, ps]
        refine tk (v := ?_) 1 62 rfl ?_ ?_
        rotate_left
        · (intro W' hSw; obtain ⟨t0, t1, t2, t3⟩ := hSw; go_simp; try with_reducible rfl)
        simp only [Act.put, pa, pz, ps]
        refine tk (v := ?_) 2 63 rfl ?_ ?_
        rotate_left
        · (intro W' hSw; obtain ⟨t0, t1, t2, t3⟩ := hSw; go_simp; try with_reducible rfl)
        simp only [Act.put, pa, pz, ps]
        refine tk (v := ?_) 3 64 rfl ?_ ?_
        rotate_left
        · (intro W' hSw; obtain ⟨t0, t1, t2, t3⟩ := hSw; go_simp; try with_reducible rfl)
        simp only [Act.put, pa, pz, ps]
        refine tk (v := ?_) 4 65 rfl ?_ ?_
        rotate_left
        · (intro W' hSw; obtain ⟨t0, t1, t2, t3⟩ := hSw; go_simp; try with_reducible rfl)
        simp only [Act.put, pa, pz, ps]
        refine tk (v := ?_) 5 66 rfl ?_ ?_
        rotate_left
        · (intro W' hSw; obtain ⟨t0, t1, t2, t3⟩ := hSw; go_simp; try with_reducible rfl)
        simp only [Act.put, pa, pz, ps]
        refine tk (v := ?_) 6 67 rfl ?_ ?_
        rotate_left
        · (intro W' hSw; obtain ⟨t0, t1, t2, t3⟩ := hSw; go_simp; try with_reducible rfl)
        simp only [Act.put, pa, pz, ps]
        refine tk (v := ?_) 7 68 rfl ?_ ?_
        rotate_left
        · (intro W' hSw; obtain ⟨t0, t1, t2, t3⟩ := hSw; go_simp; try with_reducible rfl)
        simp only [Act.put, pa, pz, ps]
        refine tk (v := ?_) 8 69 rfl ?_ ?_
        rotate_left
        · (intro W' hSw; obtain ⟨t0, t1, t2, t3⟩ := hSw; go_simp; try with_reducible rfl)
        simp only [Act.put, pa, pz, ps]
        refine tk (v := ?_) 9 70 rfl ?_ ?_
        rotate_left
        · (intro W' hSw; obtain ⟨t0, t1, t2, t3⟩ := hSw; go_simp; try with_reducible rfl)
        simp only [Act.put, pa, pz, ps]
        refine tk (v := ?_) 10 71 rfl ?_ ?_
        rotate_left
        · (intro W' hSw; obtain ⟨t0, t1, t2, t3⟩ := hSw; go_simp; try with_reducible rfl)
        simp only [Act.put, pa, pz, ps]
        refine tk (v := ?_) 11 72 rfl ?_ ?_
        rotate_left
        · (intro W' hSw; obtain ⟨t0, t1, t2, t3⟩ := hSw; go_simp; try with_reducible rfl)
        simp only [Act.put, pa, pz, ps]
        refine tk (v := ?_) 12 73 rfl ?_ ?_
        rotate_left
        · (intro W' hSw; obtain ⟨t0, t1, t2, t3⟩ := hSw; go_simp; try with_reducible rfl)
        simp only [Act.put, pa, pz, ps]
        refine tk (v := ?_) 13 74 rfl ?_ ?_
        rotate_left
        · (intro W' hSw; obtain ⟨t0, t1, t2, t3⟩ := hSw; go_simp; try with_reducible rfl)
        simp only [Act.put, pa, pz, ps]
        refine tk (v := ?_) 14 75 rfl ?_ ?_
        rotate_left
        · (intro W' hSw; obtain ⟨t0, t1, t2, t3⟩ := hSw; go_simp; try with_reducible rfl)
        simp only [Act.put, pa, pz, ps]
        refine tk (v := ?_) 15 76 rfl ?_ ?_
        rotate_left
        · (intro W' hSw; obtain ⟨t0, t1, t2, t3⟩ := hSw; go_simp; try with_reducible rfl)
        simp only [Act.put, pa, pz, ps]
        refine tk (v := ?_) 16 77 rfl ?_ ?_
        rotate_left
        · (intro W' hSw; obtain ⟨t0, t1, t2, t3⟩ := hSw; go_simp; try with_reducible rfl)
        simp only [Act.put, pa, pz, ps]
        refine tk (v := ?_) 17 78 rfl ?_ ?_
        rotate_left
        · (intro W' hSw; obtain ⟨t0, t1, t2, t3⟩ := hSw; go_simp; try with_reducible rfl)
        simp only [Act.put, pa, pz, ps]
        refine tk (v := ?_) 18 79 rfl ?_ ?_
        rotate_left
        · (intro W' hSw; obtain ⟨t0, t1, t2, t3⟩ := hSw; go_simp; try with_reducible rfl)
        simp only [Act.put, pa, pz, ps]
        refine wpAnyH_done (by kernel_rfl) ?_ _
        clear hS0
        go_wp2_with fail
        clear hw7
        clear o0 o1 o2 hzo a0 a1 a2 a3 a4 a5 a6 a7 a8 hzc cr chd hbR hbH zR zH hcx hfx hzx hzs6
        obtain ⟨hcx, hfx, hzx, -⟩ := HX7.out.cell (i := 1) (j := u) rfl hu (lvs_at (by omega))
        rw [HEU.out] at hcx
        obtain ⟨⟨o0, o1, o2⟩, -, hzo⟩ := HO7.out.full3
        have hcc := HC3.out.below HX7.out.bel HC3.out.lt
        obtain ⟨a0, a1, a2, a3, a4, a5, a6, a7, a8⟩ := hcc.at9
        have hzc := hcc.lt
        have cr := (tab_cell (HIR.out.below HX7.out.bel) ha).2
        have hbR := (tab_cell (HIR.out.below HX7.out.bel) ha).1
        have chd := (tab_cell (HIH.out.below HX7.out.bel) ha).2
        have hbH := (tab_cell (HIH.out.below HX7.out.bel) ha).1
        rw [HQE.out] at cr
        rw [HVE.out] at chd
        have hzs7 := HX7.out.bel.size
        have zR : bR < w7.heap.size := by omega
        have zH : bH < w7.heap.size := by omega
        clear hcc
        obtain ⟨w8, hw8⟩ : ∃ W, w7.drew.setCell ⟨gE, u, none⟩ (.int .i64 (eu - d)) = W := ⟨_, rfl⟩
        have HX8 := Lib.hid (show Hx w3 w8 w3.heap.size (pstR M N N ⟨some ⟨gX, 0, none⟩, cX2, some ⟨gE, 0, none⟩, cE2, AH2, cH2⟩ ((X.set a (x - d)).set q (y + d)) (E.set u (eu - d)) H) by rw [← hw8]; exact (HX7.out.drew 1).putE u (eu - d))
        have HO8 := Lib.hid (show Blk w8 gO 29 #[.slice (some ⟨gX, 0, none⟩) M cX2, .slice (some ⟨gE, 0, none⟩) N cE2, .slice AH2 N cH2] by rw [← hw8]; exact HO7.out.drew.far (p := ⟨gE, u, none⟩) HNE.out.2 (.int .i64 (eu - d)))
        refine wp_region_lastL (S := fun W' => W'.cell? ⟨gO, 1, none⟩ = some (.slice (some ⟨gE, 0, none⟩) N cE2) ∧ W'.cell? ⟨gE, u, none⟩ = some (.int .i64 eu)) rfl (by kernel_rfl) (by kernel_rfl) ⟨o1, hcx⟩ (fun hS0 => ?_)
        simp only [List.dropLast]
        refine tk (v := ?_) 0 80 rfl ?_ ?_
        rotate_left
        · (intro W' hSw; obtain ⟨t0, t1⟩ := hSw; go_simp; try with_reducible rfl)
        simp only [Act.put, pa, pz, ps]
        refine tk (v := ?_) 1 81 rfl ?_ ?_
        rotate_left
        · (intro W' hSw; obtain ⟨t0, t1⟩ := hSw; go_simp; try with_reducible rfl)
        simp only [Act.put, pa, pz, ps]
        refine tk (v := ?_) 2 82 rfl ?_ ?_
        rotate_left
        · (intro W' hSw; obtain ⟨t0, t1⟩ := hSw; go_simp; try with_reducible rfl)
        simp only [Act.put, pa, pz, ps]
        refine tk (v := ?_) 3 83 rfl ?_ ?_
        rotate_left
        · (intro W' hSw; obtain ⟨t0, t1⟩ := hSw; go_simp; try with_reducible rfl)
        simp only [Act.put, pa, pz, ps]
        refine tk (v := ?_) 4 84 rfl ?_ ?_
        rotate_left
        · (intro W' hSw; obtain ⟨t0, t1⟩ := hSw; go_simp; try with_reducible rfl)
        simp only [Act.put, pa, pz, ps]
        refine tk (v := ?_) 5 85 rfl ?_ ?_
        rotate_left
        · (intro W' hSw; obtain ⟨t0, t1⟩ := hSw; go_simp; try with_reducible rfl)
        simp only [Act.put, pa, pz, ps]
        refine tk (v := ?_) 6 86 rfl ?_ ?_
        rotate_left
        · (intro W' hSw; obtain ⟨t0, t1⟩ := hSw; go_simp; try with_reducible rfl)
        simp only [Act.put, pa, pz, ps]
        refine tk (v := ?_) 7 87 rfl ?_ ?_
        rotate_left
        · (intro W' hSw; obtain ⟨t0, t1⟩ := hSw; go_simp; try with_reducible rfl)
        simp only [Act.put, pa, pz, ps]
        refine tk (v := ?_) 8 88 rfl ?_ ?_
        rotate_left
        · (intro W' hSw; obtain ⟨t0, t1⟩ := hSw; go_simp; try with_reducible rfl)
        simp only [Act.put, pa, pz, ps]
        refine tk (v := ?_) 9 89 rfl ?_ ?_
        rotate_left
        · (intro W' hSw; obtain ⟨t0, t1⟩ := hSw; go_simp; try with_reducible rfl)
        simp only [Act.put, pa, pz, ps]
        refine tk (v := ?_) 10 90 rfl ?_ ?_
        rotate_left
        · (intro W' hSw; obtain ⟨t0, t1⟩ := hSw; go_simp; try with_reducible rfl)
        simp only [Act.put, pa, pz, ps]
        refine wpAnyH_done (by kernel_rfl) ?_ _
        clear hS0
        go_wp2_with fail
        clear hw8
        clear o0 o1 o2 hzo a0 a1 a2 a3 a4 a5 a6 a7 a8 hzc cr chd hbR hbH zR zH hcx hfx hzx hzs7
        obtain ⟨hcx, hfx, hzx, -⟩ := HX8.out.cell (i := 1) (j := v) rfl hv (lvs_at (by rw [List.length_set]; omega))
        rw [hOf_put (by omega), if_neg huv, HEV.out] at hcx
        obtain ⟨⟨o0, o1, o2⟩, -, hzo⟩ := HO8.out.full3
        have hcc := HC3.out.below HX8.out.bel HC3.out.lt
        obtain ⟨a0, a1, a2, a3, a4, a5, a6, a7, a8⟩ := hcc.at9
        have hzc := hcc.lt
        have cr := (tab_cell (HIR.out.below HX8.out.bel) ha).2
        have hbR := (tab_cell (HIR.out.below HX8.out.bel) ha).1
        have chd := (tab_cell (HIH.out.below HX8.out.bel) ha).2
        have hbH := (tab_cell (HIH.out.below HX8.out.bel) ha).1
        rw [HQE.out] at cr
        rw [HVE.out] at chd
        have hzs8 := HX8.out.bel.size
        have zR : bR < w8.heap.size := by omega
        have zH : bH < w8.heap.size := by omega
        clear hcc
        have B8 : Below w.heap.size w w8 := HB3.out.trans (HX8.out.bel.mono HB3.out.size)
        obtain ⟨w9, hw9⟩ : ∃ W, w8.drew.setCell ⟨gE, v, none⟩ (.int .i64 (ev + d)) = W := ⟨_, rfl⟩
        have HX9 := Lib.hid (show Hx w3 w9 w3.heap.size (pstR M N N ⟨some ⟨gX, 0, none⟩, cX2, some ⟨gE, 0, none⟩, cE2, AH2, cH2⟩ ((X.set a (x - d)).set q (y + d)) ((E.set u (eu - d)).set v (ev + d)) H) by rw [← hw9]; exact (HX8.out.drew 1).putE v (ev + d))
        have O9 : Blk w9 gO 29 #[.slice (some ⟨gX, 0, none⟩) M cX2, .slice (some ⟨gE, 0, none⟩) N cE2, .slice AH2 N cH2] := by rw [← hw9]; exact HO8.out.drew.far (p := ⟨gE, v, none⟩) HNE.out.2 (.int .i64 (ev + d))
        have HR9 := Lib.hid (HR3.out.below HX9.out.bel HR3.out.lt)
        obtain ⟨⟨i0, i1, i2⟩, -, hzi⟩ := O9.full3
        obtain ⟨⟨r0, r1, r2⟩, ⟨s0, s1, s2⟩, hzr⟩ := HR9.out.full3
        clear O9 B8
        refine wp_region_lastL (S := fun W' => W'.cell? ⟨gO, 1, none⟩ = some (.slice (some ⟨gE, 0, none⟩) N cE2) ∧ W'.cell? ⟨w.heap.size, 4, none⟩ = some (.slice (some ⟨bH, oH, none⟩) M cH) ∧ W'.cell? ⟨bH, oH + a, none⟩ = some (.int .i64 (v : Int)) ∧ W'.cell? ⟨gE, v, none⟩ = some (.int .i64 ev)) rfl (by kernel_rfl) (by kernel_rfl) ⟨o1, a4, chd, hcx⟩ (fun hS0 => ?_)
        simp only [List.dropLast]
        refine tk (v := ?_) 0 91 rfl ?_ ?_
        rotate_left
        · (intro W' hSw; obtain ⟨t0, t1, t2, t3⟩ := hSw; go_simp; try with_reducible rfl)
        simp only [Act.put, pa, pz, ps]
        refine tk (v := ?_) 1 92 rfl ?_ ?_
        rotate_left
        · (intro W' hSw; obtain ⟨t0, t1, t2, t3⟩ := hSw; go_simp; try with_reducible rfl)
        simp only [Act.put, pa, pz, ps]
        refine tk (v := ?_) 2 93 rfl ?_ ?_
        rotate_left
        · (intro W' hSw; obtain ⟨t0, t1, t2, t3⟩ := hSw; go_simp; try with_reducible rfl)
        simp only [Act.put, pa, pz, ps]
        refine tk (v := ?_) 3 94 rfl ?_ ?_
        rotate_left
        · (intro W' hSw; obtain ⟨t0, t1, t2, t3⟩ := hSw; go_simp; try with_reducible rfl)
        simp only [Act.put, pa, pz, ps]
        refine tk (v := ?_) 4 95 rfl ?_ ?_
        rotate_left
        · (intro W' hSw; obtain ⟨t0, t1, t2, t3⟩ := hSw; go_simp; try with_reducible rfl)
        simp only [Act.put, pa, pz, ps]
        refine tk (v := ?_) 5 96 rfl ?_ ?_
        rotate_left
        · (intro W' hSw; obtain ⟨t0, t1, t2, t3⟩ := hSw; go_simp; try with_reducible rfl)
        simp only [Act.put, pa, pz, ps]
        refine tk (v := ?_) 6 97 rfl ?_ ?_
        rotate_left
        · (intro W' hSw; obtain ⟨t0, t1, t2, t3⟩ := hSw; go_simp; try with_reducible rfl)
        simp only [Act.put, pa, pz, ps]
        refine tk (v := ?_) 7 98 rfl ?_ ?_
        rotate_left
        · (intro W' hSw; obtain ⟨t0, t1, t2, t3⟩ := hSw; go_simp; try with_reducible rfl)
        simp only [Act.put, pa, pz, ps]
        refine tk (v := ?_) 8 99 rfl ?_ ?_
        rotate_left
        · (intro W' hSw; obtain ⟨t0, t1, t2, t3⟩ := hSw; go_simp; try with_reducible rfl)
        simp only [Act.put, pa, pz, ps]
        refine tk (v := ?_) 9 100 rfl ?_ ?_
        rotate_left
        · (intro W' hSw; obtain ⟨t0, t1, t2, t3⟩ := hSw; go_simp; try with_reducible rfl)
        simp only [Act.put, pa, pz, ps]
        refine tk (v := ?_) 10 101 rfl ?_ ?_
        rotate_left
        · (intro W' hSw; obtain ⟨t0, t1, t2, t3⟩ := hSw; go_simp; try with_reducible rfl)
        simp only [Act.put, pa, pz, ps]
        refine tk (v := ?_) 11 102 rfl ?_ ?_
        rotate_left
        · (intro W' hSw; obtain ⟨t0, t1, t2, t3⟩ := hSw; go_simp; try with_reducible rfl)
        simp only [Act.put, pa, pz, ps]
        refine tk (v := ?_) 12 103 rfl ?_ ?_
        rotate_left
        · (intro W' hSw; obtain ⟨t0, t1, t2, t3⟩ := hSw; go_simp; try with_reducible rfl)
        simp only [Act.put, pa, pz, ps]
        refine tk (v := ?_) 13 104 rfl ?_ ?_
        rotate_left
        · (intro W' hSw; obtain ⟨t0, t1, t2, t3⟩ := hSw; go_simp; try with_reducible rfl)
        simp only [Act.put, pa, pz, ps]
        refine tk (v := ?_) 14 105 rfl ?_ ?_
        rotate_left
        · (intro W' hSw; obtain ⟨t0, t1, t2, t3⟩ := hSw; go_simp; try with_reducible rfl)
        simp only [Act.put, pa, pz, ps]
        refine tk (v := ?_) 15 106 rfl ?_ ?_
        rotate_left
        · (intro W' hSw; obtain ⟨t0, t1, t2, t3⟩ := hSw; go_simp; try with_reducible rfl)
        simp only [Act.put, pa, pz, ps]
        refine tk (v := ?_) 16 107 rfl ?_ ?_
        rotate_left
        · (intro W' hSw; obtain ⟨t0, t1, t2, t3⟩ := hSw; go_simp; try with_reducible rfl)
        simp only [Act.put, pa, pz, ps]
        refine tk (v := ?_) 17 108 rfl ?_ ?_
        rotate_left
        · (intro W' hSw; obtain ⟨t0, t1, t2, t3⟩ := hSw; go_simp; try with_reducible rfl)
        simp only [Act.put, pa, pz, ps]
        refine tk (v := ?_) 18 109 rfl ?_ ?_
        rotate_left
        · (intro W' hSw; obtain ⟨t0, t1, t2, t3⟩ := hSw; go_simp; try with_reducible rfl)
        simp only [Act.put, pa, pz, ps]
        refine wpAnyH_done (by kernel_rfl) ?_ _
        clear hS0
        go_wp2_with fail
        clear hw9 o0 o1 o2 hzo a0 a1 a2 a3 a4 a5 a6 a7 a8 hzc cr chd hbR hbH zR zH hcx hfx hzx hzs8 i0 i1 i2 hzi r0 r1 r2 s0 s1 s2 hzr
        have K9 := HR9.out.put3 (x := .slice (some ⟨gX, 0, none⟩) M cX2) (y := .slice (some ⟨gE, 0, none⟩) N cE2) (z := .slice AH2 N cH2)
        have X9 := (HX9.out.low (show w.heap.size ≤ w3.heap.size from HB3.out.size) HB3.out).put3 (x := .slice (some ⟨gX, 0, none⟩) M cX2) (y := .slice (some ⟨gE, 0, none⟩) N cE2) (z := .slice AH2 N cH2) HR9.out pst_ne (by omega)
        obtain ⟨⟨q0, q1, q2⟩, -, -⟩ := K9.full3
        dsimp only [put3] at q0 q1 q2
        refine bodyPost_ret (v := .tuple #[.agg #[.slice (some ⟨gX, 0, none⟩) M cX2, .slice (some ⟨gE, 0, none⟩) N cE2, .slice AH2 N cH2], .int .i64 d, .int .i64 0]) (by simp [results, Try.results23, go_sem, q0, q1, q2]) rfl ⟨⟨some ⟨gX, 0, none⟩, cX2, some ⟨gE, 0, none⟩, cE2, AH2, cH2⟩, ?_, ?_⟩
        · rw [HMX.out, HME.out, HDD.out, List.length_set, List.length_set, List.length_set, List.length_set, HLX.out, HLE.out, HLH.out]; first | done | rfl
        · rw [HMX.out, HME.out, List.length_set, List.length_set, List.length_set, List.length_set, HLX.out, HLE.out, HLH.out]
          exact X9
      · have hdd : d = eu := by omega
        have ce3' : w3.cell? ⟨bE, oE + u, none⟩ = some (.int .i64 d) := by rw [hdd]; exact ce3
        have hl1 : ¬ x < d := by omega
        clear ce3 hdd hlt hdm
        obtain ⟨a0, a1, a2, a3, a4, a5, a6, a7, a8⟩ := HC3.out.at9
        obtain ⟨⟨p0, p1, p2⟩, -, hz2⟩ := HP3.out.full3
        have hz1 := HC3.out.lt
        go_wp2_with fail
        refine (HCO.out _ HB3.out).mono ?_
        rintro e w4 ⟨⟨AX2, cX2, AE2, cE2, AH2, cH2⟩, rfl, HX4⟩
        clear a0 a1 a2 a3 a4 a5 a6 a7 a8 p0 p1 p2 hz1 hz2 ce3' hl1 cx3
        obtain ⟨gX, rfl⟩ := own_some (n := M) (A := AX2) (HX4.held.own 0 _ rfl) (by omega)
        obtain ⟨gE, rfl⟩ := own_some (n := N) (A := AE2) (HX4.held.own 1 _ rfl) (by omega)
        dsimp only [preW]
        obtain ⟨gO, hgO⟩ : ∃ g, w4.heap.size = g := ⟨_, rfl⟩
        obtain ⟨w5, hw5⟩ : ∃ W, w4.alloc (.cells #[.slice (some ⟨gX, 0, none⟩) M cX2, .slice (some ⟨gE, 0, none⟩) N cE2, .slice AH2 N cH2] 29) = W := ⟨_, rfl⟩
        have hbo : w3.heap.size ≤ gO := by rw [← hgO]; exact HX4.bel.size
        have HX5 := Lib.hid (show Hx w3 w5 w3.heap.size (pstR M N N ⟨some ⟨gX, 0, none⟩, cX2, some ⟨gE, 0, none⟩, cE2, AH2, cH2⟩ X E H) by rw [← hw5]; exact HX4.alloc _)
        have HO5 := Lib.hid (show Blk w5 gO 29 #[.slice (some ⟨gX, 0, none⟩) M cX2, .slice (some ⟨gE, 0, none⟩) N cE2, .slice AH2 N cH2] by rw [← hw5]; exact Blk.new hgO)
        have nx := own_apart (n := M) (g := gX) (HX5.out.held.own 0 _ rfl) HO5.out (show (2 : TypeId) ≠ 29 by decide)
        have ny := own_apart (n := N) (g := gE) (HX5.out.held.own 1 _ rfl) HO5.out (show (2 : TypeId) ≠ 29 by decide)
        have HNE := Lib.hid (And.intro nx ny)
        clear nx ny HX4
        go_wp2_with fail
        clear hw5 hgO
        obtain ⟨hcx, hfx, hzx, -⟩ := HX5.out.cell (i := 0) (j := a) rfl ha (lvs_at (by omega))
        rw [HXE.out] at hcx
        obtain ⟨⟨o0, o1, o2⟩, -, hzo⟩ := HO5.out.full3
        have hcc := HC3.out.below HX5.out.bel HC3.out.lt
        obtain ⟨a0, a1, a2, a3, a4, a5, a6, a7, a8⟩ := hcc.at9
        have hzc := hcc.lt
        have cr := (tab_cell (HIR.out.below HX5.out.bel) ha).2
        have hbR := (tab_cell (HIR.out.below HX5.out.bel) ha).1
        have chd := (tab_cell (HIH.out.below HX5.out.bel) ha).2
        have hbH := (tab_cell (HIH.out.below HX5.out.bel) ha).1
        rw [HQE.out] at cr
        rw [HVE.out] at chd
        have hzs5 := HX5.out.bel.size
        have zR : bR < w5.heap.size := by omega
        have zH : bH < w5.heap.size := by omega
        clear hcc
        obtain ⟨w6, hw6⟩ : ∃ W, w5.drew.setCell ⟨gX, a, none⟩ (.int .i64 (x - d)) = W := ⟨_, rfl⟩
        have HX6 := Lib.hid (show Hx w3 w6 w3.heap.size (pstR M N N ⟨some ⟨gX, 0, none⟩, cX2, some ⟨gE, 0, none⟩, cE2, AH2, cH2⟩ (X.set a (x - d)) (E) H) by rw [← hw6]; exact (HX5.out.drew 1).putX a (x - d))
        have HO6 := Lib.hid (show Blk w6 gO 29 #[.slice (some ⟨gX, 0, none⟩) M cX2, .slice (some ⟨gE, 0, none⟩) N cE2, .slice AH2 N cH2] by rw [← hw6]; exact HO5.out.drew.far (p := ⟨gX, a, none⟩) HNE.out.1 (.int .i64 (x - d)))
        refine wp_region_lastL (S := fun W' => W'.cell? ⟨gO, 0, none⟩ = some (.slice (some ⟨gX, 0, none⟩) M cX2) ∧ W'.cell? ⟨gX, a, none⟩ = some (.int .i64 x)) rfl (by kernel_rfl) (by kernel_rfl) ⟨o0, hcx⟩ (fun hS0 => ?_)
        simp only [List.dropLast]
        refine tk (v := ?_) 0 50 rfl ?_ ?_
        rotate_left
        · (intro W' hSw; obtain ⟨t0, t1⟩ := hSw; go_simp; try with_reducible rfl)
        simp only [Act.put, pa, pz, ps]
        refine tk (v := ?_) 1 51 rfl ?_ ?_
        rotate_left
        · (intro W' hSw; obtain ⟨t0, t1⟩ := hSw; go_simp; try with_reducible rfl)
        simp only [Act.put, pa, pz, ps]
        refine tk (v := ?_) 2 52 rfl ?_ ?_
        rotate_left
        · (intro W' hSw; obtain ⟨t0, t1⟩ := hSw; go_simp; try with_reducible rfl)
        simp only [Act.put, pa, pz, ps]
        refine tk (v := ?_) 3 53 rfl ?_ ?_
        rotate_left
        · (intro W' hSw; obtain ⟨t0, t1⟩ := hSw; go_simp; try with_reducible rfl)
        simp only [Act.put, pa, pz, ps]
        refine tk (v := ?_) 4 54 rfl ?_ ?_
        rotate_left
        · (intro W' hSw; obtain ⟨t0, t1⟩ := hSw; go_simp; try with_reducible rfl)
        simp only [Act.put, pa, pz, ps]
        refine tk (v := ?_) 5 55 rfl ?_ ?_
        rotate_left
        · (intro W' hSw; obtain ⟨t0, t1⟩ := hSw; go_simp; try with_reducible rfl)
        simp only [Act.put, pa, pz, ps]
        refine tk (v := ?_) 6 56 rfl ?_ ?_
        rotate_left
        · (intro W' hSw; obtain ⟨t0, t1⟩ := hSw; go_simp; try with_reducible rfl)
        simp only [Act.put, pa, pz, ps]
        refine tk (v := ?_) 7 57 rfl ?_ ?_
        rotate_left
        · (intro W' hSw; obtain ⟨t0, t1⟩ := hSw; go_simp; try with_reducible rfl)
        simp only [Act.put, pa, pz, ps]
        refine tk (v := ?_) 8 58 rfl ?_ ?_
        rotate_left
        · (intro W' hSw; obtain ⟨t0, t1⟩ := hSw; go_simp; try with_reducible rfl)
        simp only [Act.put, pa, pz, ps]
        refine tk (v := ?_) 9 59 rfl ?_ ?_
        rotate_left
        · (intro W' hSw; obtain ⟨t0, t1⟩ := hSw; go_simp; try with_reducible rfl)
        simp only [Act.put, pa, pz, ps]
        refine tk (v := ?_) 10 60 rfl ?_ ?_
        rotate_left
        · (intro W' hSw; obtain ⟨t0, t1⟩ := hSw; go_simp; try with_reducible rfl)
        simp only [Act.put, pa, pz, ps]
        refine wpAnyH_done (by kernel_rfl) ?_ _
        clear hS0
        go_wp2_with fail
        clear hw6
        clear o0 o1 o2 hzo a0 a1 a2 a3 a4 a5 a6 a7 a8 hzc cr chd hbR hbH zR zH hcx hfx hzx hzs5
        obtain ⟨hcx, hfx, hzx, -⟩ := HX6.out.cell (i := 0) (j := q) rfl hra (lvs_at (by rw [List.length_set]; omega))
        rw [hOf_put (by omega), if_neg (fun e => hne e.symm), HYE.out] at hcx
        obtain ⟨⟨o0, o1, o2⟩, -, hzo⟩ := HO6.out.full3
        have hcc := HC3.out.below HX6.out.bel HC3.out.lt
        obtain ⟨a0, a1, a2, a3, a4, a5, a6, a7, a8⟩ := hcc.at9
        have hzc := hcc.lt
        have cr := (tab_cell (HIR.out.below HX6.out.bel) ha).2
        have hbR := (tab_cell (HIR.out.below HX6.out.bel) ha).1
        have chd := (tab_cell (HIH.out.below HX6.out.bel) ha).2
        have hbH := (tab_cell (HIH.out.below HX6.out.bel) ha).1
        rw [HQE.out] at cr
        rw [HVE.out] at chd
        have hzs6 := HX6.out.bel.size
        have zR : bR < w6.heap.size := by omega
        have zH : bH < w6.heap.size := by omega
        clear hcc
        obtain ⟨w7, hw7⟩ : ∃ W, w6.drew.setCell ⟨gX, q, none⟩ (.int .i64 (y + d)) = W := ⟨_, rfl⟩
        have HX7 := Lib.hid (show Hx w3 w7 w3.heap.size (pstR M N N ⟨some ⟨gX, 0, none⟩, cX2, some ⟨gE, 0, none⟩, cE2, AH2, cH2⟩ ((X.set a (x - d)).set q (y + d)) (E) H) by rw [← hw7]; exact (HX6.out.drew 1).putX q (y + d))
        have HO7 := Lib.hid (show Blk w7 gO 29 #[.slice (some ⟨gX, 0, none⟩) M cX2, .slice (some ⟨gE, 0, none⟩) N cE2, .slice AH2 N cH2] by rw [← hw7]; exact HO6.out.drew.far (p := ⟨gX, q, none⟩) HNE.out.1 (.int .i64 (y + d)))
        refine wp_region_lastL (S := fun W' => W'.cell? ⟨gO, 0, none⟩ = some (.slice (some ⟨gX, 0, none⟩) M cX2) ∧ W'.cell? ⟨w.heap.size, 5, none⟩ = some (.slice (some ⟨bR, oR, none⟩) M cR) ∧ W'.cell? ⟨bR, oR + a, none⟩ = some (.int .i64 (q : Int)) ∧ W'.cell? ⟨gX, q, none⟩ = some (.int .i64 y)) rfl (by kernel_rfl) (by kernel_rfl) ⟨o0, a5, cr, hcx⟩ (fun hS0 => ?_)
        simp only [List.dropLast]
        refine tk (v := ?_) 0 61 rfl ?_ ?_
        rotate_left
        · (intro W' hSw; obtain ⟨t0, t1, t2, t3⟩ := hSw; go_simp; try with_reducible rfl)
        simp only [Act.put, pa, pz, ps]
        refine tk (v := ?_) 1 62 rfl ?_ ?_
        rotate_left
        · (intro W' hSw; obtain ⟨t0, t1, t2, t3⟩ := hSw; go_simp; try with_reducible rfl)
        simp only [Act.put, pa, pz, ps]
        refine tk (v := ?_) 2 63 rfl ?_ ?_
        rotate_left
        · (intro W' hSw; obtain ⟨t0, t1, t2, t3⟩ := hSw; go_simp; try with_reducible rfl)
        simp only [Act.put, pa, pz, ps]
        refine tk (v := ?_) 3 64 rfl ?_ ?_
        rotate_left
        · (intro W' hSw; obtain ⟨t0, t1, t2, t3⟩ := hSw; go_simp; try with_reducible rfl)
        simp only [Act.put, pa, pz, ps]
        refine tk (v := ?_) 4 65 rfl ?_ ?_
        rotate_left
        · (intro W' hSw; obtain ⟨t0, t1, t2, t3⟩ := hSw; go_simp; try with_reducible rfl)
        simp only [Act.put, pa, pz, ps]
        refine tk (v := ?_) 5 66 rfl ?_ ?_
        rotate_left
        · (intro W' hSw; obtain ⟨t0, t1, t2, t3⟩ := hSw; go_simp; try with_reducible rfl)
        simp only [Act.put, pa, pz, ps]
        refine tk (v := ?_) 6 67 rfl ?_ ?_
        rotate_left
        · (intro W' hSw; obtain ⟨t0, t1, t2, t3⟩ := hSw; go_simp; try with_reducible rfl)
        simp only [Act.put, pa, pz, ps]
        refine tk (v := ?_) 7 68 rfl ?_ ?_
        rotate_left
        · (intro W' hSw; obtain ⟨t0, t1, t2, t3⟩ := hSw; go_simp; try with_reducible rfl)
        simp only [Act.put, pa, pz, ps]
        refine tk (v := ?_) 8 69 rfl ?_ ?_
        rotate_left
        · (intro W' hSw; obtain ⟨t0, t1, t2, t3⟩ := hSw; go_simp; try with_reducible rfl)
        simp only [Act.put, pa, pz, ps]
        refine tk (v := ?_) 9 70 rfl ?_ ?_
        rotate_left
        · (intro W' hSw; obtain ⟨t0, t1, t2, t3⟩ := hSw; go_simp; try with_reducible rfl)
        simp only [Act.put, pa, pz, ps]
        refine tk (v := ?_) 10 71 rfl ?_ ?_
        rotate_left
        · (intro W' hSw; obtain ⟨t0, t1, t2, t3⟩ := hSw; go_simp; try with_reducible rfl)
        simp only [Act.put, pa, pz, ps]
        refine tk (v := ?_) 11 72 rfl ?_ ?_
        rotate_left
        · (intro W' hSw; obtain ⟨t0, t1, t2, t3⟩ := hSw; go_simp; try with_reducible rfl)
        simp only [Act.put, pa, pz, ps]
        refine tk (v := ?_) 12 73 rfl ?_ ?_
        rotate_left
        · (intro W' hSw; obtain ⟨t0, t1, t2, t3⟩ := hSw; go_simp; try with_reducible rfl)
        simp only [Act.put, pa, pz, ps]
        refine tk (v := ?_) 13 74 rfl ?_ ?_
        rotate_left
        · (intro W' hSw; obtain ⟨t0, t1, t2, t3⟩ := hSw; go_simp; try with_reducible rfl)
        simp only [Act.put, pa, pz, ps]
        refine tk (v := ?_) 14 75 rfl ?_ ?_
        rotate_left
        · (intro W' hSw; obtain ⟨t0, t1, t2, t3⟩ := hSw; go_simp; try with_reducible rfl)
        simp only [Act.put, pa, pz, ps]
        refine tk (v := ?_) 15 76 rfl ?_ ?_
        rotate_left
        · (intro W' hSw; obtain ⟨t0, t1, t2, t3⟩ := hSw; go_simp; try with_reducible rfl)
        simp only [Act.put, pa, pz, ps]
        refine tk (v := ?_) 16 77 rfl ?_ ?_
        rotate_left
        · (intro W' hSw; obtain ⟨t0, t1, t2, t3⟩ := hSw; go_simp; try with_reducible rfl)
        simp only [Act.put, pa, pz, ps]
        refine tk (v := ?_) 17 78 rfl ?_ ?_
        rotate_left
        · (intro W' hSw; obtain ⟨t0, t1, t2, t3⟩ := hSw; go_simp; try with_reducible rfl)
        simp only [Act.put, pa, pz, ps]
        refine tk (v := ?_) 18 79 rfl ?_ ?_
        rotate_left
        · (intro W' hSw; obtain ⟨t0, t1, t2, t3⟩ := hSw; go_simp; try with_reducible rfl)
        simp only [Act.put, pa, pz, ps]
        refine wpAnyH_done (by kernel_rfl) ?_ _
        clear hS0
        go_wp2_with fail
        clear hw7
        clear o0 o1 o2 hzo a0 a1 a2 a3 a4 a5 a6 a7 a8 hzc cr chd hbR hbH zR zH hcx hfx hzx hzs6
        obtain ⟨hcx, hfx, hzx, -⟩ := HX7.out.cell (i := 1) (j := u) rfl hu (lvs_at (by omega))
        rw [HEU.out] at hcx
        obtain ⟨⟨o0, o1, o2⟩, -, hzo⟩ := HO7.out.full3
        have hcc := HC3.out.below HX7.out.bel HC3.out.lt
        obtain ⟨a0, a1, a2, a3, a4, a5, a6, a7, a8⟩ := hcc.at9
        have hzc := hcc.lt
        have cr := (tab_cell (HIR.out.below HX7.out.bel) ha).2
        have hbR := (tab_cell (HIR.out.below HX7.out.bel) ha).1
        have chd := (tab_cell (HIH.out.below HX7.out.bel) ha).2
        have hbH := (tab_cell (HIH.out.below HX7.out.bel) ha).1
        rw [HQE.out] at cr
        rw [HVE.out] at chd
        have hzs7 := HX7.out.bel.size
        have zR : bR < w7.heap.size := by omega
        have zH : bH < w7.heap.size := by omega
        clear hcc
        obtain ⟨w8, hw8⟩ : ∃ W, w7.drew.setCell ⟨gE, u, none⟩ (.int .i64 (eu - d)) = W := ⟨_, rfl⟩
        have HX8 := Lib.hid (show Hx w3 w8 w3.heap.size (pstR M N N ⟨some ⟨gX, 0, none⟩, cX2, some ⟨gE, 0, none⟩, cE2, AH2, cH2⟩ ((X.set a (x - d)).set q (y + d)) (E.set u (eu - d)) H) by rw [← hw8]; exact (HX7.out.drew 1).putE u (eu - d))
        have HO8 := Lib.hid (show Blk w8 gO 29 #[.slice (some ⟨gX, 0, none⟩) M cX2, .slice (some ⟨gE, 0, none⟩) N cE2, .slice AH2 N cH2] by rw [← hw8]; exact HO7.out.drew.far (p := ⟨gE, u, none⟩) HNE.out.2 (.int .i64 (eu - d)))
        refine wp_region_lastL (S := fun W' => W'.cell? ⟨gO, 1, none⟩ = some (.slice (some ⟨gE, 0, none⟩) N cE2) ∧ W'.cell? ⟨gE, u, none⟩ = some (.int .i64 eu)) rfl (by kernel_rfl) (by kernel_rfl) ⟨o1, hcx⟩ (fun hS0 => ?_)
        simp only [List.dropLast]
        refine tk (v := ?_) 0 80 rfl ?_ ?_
        rotate_left
        · (intro W' hSw; obtain ⟨t0, t1⟩ := hSw; go_simp; try with_reducible rfl)
        simp only [Act.put, pa, pz, ps]
        refine tk (v := ?_) 1 81 rfl ?_ ?_
        rotate_left
        · (intro W' hSw; obtain ⟨t0, t1⟩ := hSw; go_simp; try with_reducible rfl)
        simp only [Act.put, pa, pz, ps]
        refine tk (v := ?_) 2 82 rfl ?_ ?_
        rotate_left
        · (intro W' hSw; obtain ⟨t0, t1⟩ := hSw; go_simp; try with_reducible rfl)
        simp only [Act.put, pa, pz, ps]
        refine tk (v := ?_) 3 83 rfl ?_ ?_
        rotate_left
        · (intro W' hSw; obtain ⟨t0, t1⟩ := hSw; go_simp; try with_reducible rfl)
        simp only [Act.put, pa, pz, ps]
        refine tk (v := ?_) 4 84 rfl ?_ ?_
        rotate_left
        · (intro W' hSw; obtain ⟨t0, t1⟩ := hSw; go_simp; try with_reducible rfl)
        simp only [Act.put, pa, pz, ps]
        refine tk (v := ?_) 5 85 rfl ?_ ?_
        rotate_left
        · (intro W' hSw; obtain ⟨t0, t1⟩ := hSw; go_simp; try with_reducible rfl)
        simp only [Act.put, pa, pz, ps]
        refine tk (v := ?_) 6 86 rfl ?_ ?_
        rotate_left
        · (intro W' hSw; obtain ⟨t0, t1⟩ := hSw; go_simp; try with_reducible rfl)
        simp only [Act.put, pa, pz, ps]
        refine tk (v := ?_) 7 87 rfl ?_ ?_
        rotate_left
        · (intro W' hSw; obtain ⟨t0, t1⟩ := hSw; go_simp; try with_reducible rfl)
        simp only [Act.put, pa, pz, ps]
        refine tk (v := ?_) 8 88 rfl ?_ ?_
        rotate_left
        · (intro W' hSw; obtain ⟨t0, t1⟩ := hSw; go_simp; try with_reducible rfl)
        simp only [Act.put, pa, pz, ps]
        refine tk (v := ?_) 9 89 rfl ?_ ?_
        rotate_left
        · (intro W' hSw; obtain ⟨t0, t1⟩ := hSw; go_simp; try with_reducible rfl)
        simp only [Act.put, pa, pz, ps]
        refine tk (v := ?_) 10 90 rfl ?_ ?_
        rotate_left
        · (intro W' hSw; obtain ⟨t0, t1⟩ := hSw; go_simp; try with_reducible rfl)
        simp only [Act.put, pa, pz, ps]
        refine wpAnyH_done (by kernel_rfl) ?_ _
        clear hS0
        go_wp2_with fail
        clear hw8
        clear o0 o1 o2 hzo a0 a1 a2 a3 a4 a5 a6 a7 a8 hzc cr chd hbR hbH zR zH hcx hfx hzx hzs7
        obtain ⟨hcx, hfx, hzx, -⟩ := HX8.out.cell (i := 1) (j := v) rfl hv (lvs_at (by rw [List.length_set]; omega))
        rw [hOf_put (by omega), if_neg huv, HEV.out] at hcx
        obtain ⟨⟨o0, o1, o2⟩, -, hzo⟩ := HO8.out.full3
        have hcc := HC3.out.below HX8.out.bel HC3.out.lt
        obtain ⟨a0, a1, a2, a3, a4, a5, a6, a7, a8⟩ := hcc.at9
        have hzc := hcc.lt
        have cr := (tab_cell (HIR.out.below HX8.out.bel) ha).2
        have hbR := (tab_cell (HIR.out.below HX8.out.bel) ha).1
        have chd := (tab_cell (HIH.out.below HX8.out.bel) ha).2
        have hbH := (tab_cell (HIH.out.below HX8.out.bel) ha).1
        rw [HQE.out] at cr
        rw [HVE.out] at chd
        have hzs8 := HX8.out.bel.size
        have zR : bR < w8.heap.size := by omega
        have zH : bH < w8.heap.size := by omega
        clear hcc
        have B8 : Below w.heap.size w w8 := HB3.out.trans (HX8.out.bel.mono HB3.out.size)
        obtain ⟨w9, hw9⟩ : ∃ W, w8.drew.setCell ⟨gE, v, none⟩ (.int .i64 (ev + d)) = W := ⟨_, rfl⟩
        have HX9 := Lib.hid (show Hx w3 w9 w3.heap.size (pstR M N N ⟨some ⟨gX, 0, none⟩, cX2, some ⟨gE, 0, none⟩, cE2, AH2, cH2⟩ ((X.set a (x - d)).set q (y + d)) ((E.set u (eu - d)).set v (ev + d)) H) by rw [← hw9]; exact (HX8.out.drew 1).putE v (ev + d))
        have O9 : Blk w9 gO 29 #[.slice (some ⟨gX, 0, none⟩) M cX2, .slice (some ⟨gE, 0, none⟩) N cE2, .slice AH2 N cH2] := by rw [← hw9]; exact HO8.out.drew.far (p := ⟨gE, v, none⟩) HNE.out.2 (.int .i64 (ev + d))
        have HR9 := Lib.hid (HR3.out.below HX9.out.bel HR3.out.lt)
        obtain ⟨⟨i0, i1, i2⟩, -, hzi⟩ := O9.full3
        obtain ⟨⟨r0, r1, r2⟩, ⟨s0, s1, s2⟩, hzr⟩ := HR9.out.full3
        clear O9 B8
        refine wp_region_lastL (S := fun W' => W'.cell? ⟨gO, 1, none⟩ = some (.slice (some ⟨gE, 0, none⟩) N cE2) ∧ W'.cell? ⟨w.heap.size, 4, none⟩ = some (.slice (some ⟨bH, oH, none⟩) M cH) ∧ W'.cell? ⟨bH, oH + a, none⟩ = some (.int .i64 (v : Int)) ∧ W'.cell? ⟨gE, v, none⟩ = some (.int .i64 ev)) rfl (by kernel_rfl) (by kernel_rfl) ⟨o1, a4, chd, hcx⟩ (fun hS0 => ?_)
        simp only [List.dropLast]
        refine tk (v := ?_) 0 91 rfl ?_ ?_
        rotate_left
        · (intro W' hSw; obtain ⟨t0, t1, t2, t3⟩ := hSw; go_simp; try with_reducible rfl)
        simp only [Act.put, pa, pz, ps]
        refine tk (v := ?_) 1 92 rfl ?_ ?_
        rotate_left
        · (intro W' hSw; obtain ⟨t0, t1, t2, t3⟩ := hSw; go_simp; try with_reducible rfl)
        simp only [Act.put, pa, pz, ps]
        refine tk (v := ?_) 2 93 rfl ?_ ?_
        rotate_left
        · (intro W' hSw; obtain ⟨t0, t1, t2, t3⟩ := hSw; go_simp; try with_reducible rfl)
        simp only [Act.put, pa, pz, ps]
        refine tk (v := ?_) 3 94 rfl ?_ ?_
        rotate_left
        · (intro W' hSw; obtain ⟨t0, t1, t2, t3⟩ := hSw; go_simp; try with_reducible rfl)
        simp only [Act.put, pa, pz, ps]
        refine tk (v := ?_) 4 95 rfl ?_ ?_
        rotate_left
        · (intro W' hSw; obtain ⟨t0, t1, t2, t3⟩ := hSw; go_simp; try with_reducible rfl)
        simp only [Act.put, pa, pz, ps]
        refine tk (v := ?_) 5 96 rfl ?_ ?_
        rotate_left
        · (intro W' hSw; obtain ⟨t0, t1, t2, t3⟩ := hSw; go_simp; try with_reducible rfl)
        simp only [Act.put, pa, pz, ps]
        refine tk (v := ?_) 6 97 rfl ?_ ?_
        rotate_left
        · (intro W' hSw; obtain ⟨t0, t1, t2, t3⟩ := hSw; go_simp; try with_reducible rfl)
        simp only [Act.put, pa, pz, ps]
        refine tk (v := ?_) 7 98 rfl ?_ ?_
        rotate_left
        · (intro W' hSw; obtain ⟨t0, t1, t2, t3⟩ := hSw; go_simp; try with_reducible rfl)
        simp only [Act.put, pa, pz, ps]
        refine tk (v := ?_) 8 99 rfl ?_ ?_
        rotate_left
        · (intro W' hSw; obtain ⟨t0, t1, t2, t3⟩ := hSw; go_simp; try with_reducible rfl)
        simp only [Act.put, pa, pz, ps]
        refine tk (v := ?_) 9 100 rfl ?_ ?_
        rotate_left
        · (intro W' hSw; obtain ⟨t0, t1, t2, t3⟩ := hSw; go_simp; try with_reducible rfl)
        simp only [Act.put, pa, pz, ps]
        refine tk (v := ?_) 10 101 rfl ?_ ?_
        rotate_left
        · (intro W' hSw; obtain ⟨t0, t1, t2, t3⟩ := hSw; go_simp; try with_reducible rfl)
        simp only [Act.put, pa, pz, ps]
        refine tk (v := ?_) 11 102 rfl ?_ ?_
        rotate_left
        · (intro W' hSw; obtain ⟨t0, t1, t2, t3⟩ := hSw; go_simp; try with_reducible rfl)
        simp only [Act.put, pa, pz, ps]
        refine tk (v := ?_) 12 103 rfl ?_ ?_
        rotate_left
        · (intro W' hSw; obtain ⟨t0, t1, t2, t3⟩ := hSw; go_simp; try with_reducible rfl)
        simp only [Act.put, pa, pz, ps]
        refine tk (v := ?_) 13 104 rfl ?_ ?_
        rotate_left
        · (intro W' hSw; obtain ⟨t0, t1, t2, t3⟩ := hSw; go_simp; try with_reducible rfl)
        simp only [Act.put, pa, pz, ps]
        refine tk (v := ?_) 14 105 rfl ?_ ?_
        rotate_left
        · (intro W' hSw; obtain ⟨t0, t1, t2, t3⟩ := hSw; go_simp; try with_reducible rfl)
        simp only [Act.put, pa, pz, ps]
        refine tk (v := ?_) 15 106 rfl ?_ ?_
        rotate_left
        · (intro W' hSw; obtain ⟨t0, t1, t2, t3⟩ := hSw; go_simp; try with_reducible rfl)
        simp only [Act.put, pa, pz, ps]
        refine tk (v := ?_) 16 107 rfl ?_ ?_
        rotate_left
        · (intro W' hSw; obtain ⟨t0, t1, t2, t3⟩ := hSw; go_simp; try with_reducible rfl)
        simp only [Act.put, pa, pz, ps]
        refine tk (v := ?_) 17 108 rfl ?_ ?_
        rotate_left
        · (intro W' hSw; obtain ⟨t0, t1, t2, t3⟩ := hSw; go_simp; try with_reducible rfl)
        simp only [Act.put, pa, pz, ps]
        refine tk (v := ?_) 18 109 rfl ?_ ?_
        rotate_left
        · (intro W' hSw; obtain ⟨t0, t1, t2, t3⟩ := hSw; go_simp; try with_reducible rfl)
        simp only [Act.put, pa, pz, ps]
        refine wpAnyH_done (by kernel_rfl) ?_ _
        clear hS0
        go_wp2_with fail
        clear hw9 o0 o1 o2 hzo a0 a1 a2 a3 a4 a5 a6 a7 a8 hzc cr chd hbR hbH zR zH hcx hfx hzx hzs8 i0 i1 i2 hzi r0 r1 r2 s0 s1 s2 hzr
        have K9 := HR9.out.put3 (x := .slice (some ⟨gX, 0, none⟩) M cX2) (y := .slice (some ⟨gE, 0, none⟩) N cE2) (z := .slice AH2 N cH2)
        have X9 := (HX9.out.low (show w.heap.size ≤ w3.heap.size from HB3.out.size) HB3.out).put3 (x := .slice (some ⟨gX, 0, none⟩) M cX2) (y := .slice (some ⟨gE, 0, none⟩) N cE2) (z := .slice AH2 N cH2) HR9.out pst_ne (by omega)
        obtain ⟨⟨q0, q1, q2⟩, -, -⟩ := K9.full3
        dsimp only [put3] at q0 q1 q2
        refine bodyPost_ret (v := .tuple #[.agg #[.slice (some ⟨gX, 0, none⟩) M cX2, .slice (some ⟨gE, 0, none⟩) N cE2, .slice AH2 N cH2], .int .i64 d, .int .i64 0]) (by simp [results, Try.results23, go_sem, q0, q1, q2]) rfl ⟨⟨some ⟨gX, 0, none⟩, cX2, some ⟨gE, 0, none⟩, cE2, AH2, cH2⟩, ?_, ?_⟩
        · rw [HMX.out, HME.out, HDD.out, List.length_set, List.length_set, List.length_set, List.length_set, HLX.out, HLE.out, HLH.out]; first | done | rfl
        · rw [HMX.out, HME.out, List.length_set, List.length_set, List.length_set, List.length_set, HLX.out, HLE.out, HLH.out]
          exact X9
  · have hC2 : pushC M s t hd rv X E H a = 2 := if_pos hr
    have hps : pushS M s t hd rv X E H a = (0, [], [], []) := by unfold pushS; rw [hC2]; rfl
    obtain rfl := HRR.out.symm.trans hps
    obtain rfl := HCC.out.symm.trans hC2
    clear hps hC2
    obtain ⟨AF, cF, AH, cH, AR, cR, AC, cC, AA, cA, AB, cB⟩ := K
    obtain ⟨AX, cX, AE, cE, AHH, cHH⟩ := Q
    dsimp only [csrW, preW]
    obtain ⟨w1, hw1⟩ : ∃ W, ((w.alloc (.cells #[.int .i64 (N : Int), .int .i64 (s : Int), .int .i64 (t : Int), .slice AF (N + 1) cF, .slice AH M cH, .slice AR M cR, .slice AC M cC, .slice AA M cA, .slice AB M cB] 32)).alloc (.cells #[.slice AX M cX, .slice AE N cE, .slice AHH N cHH] 29)).alloc (.cells #[.slice none 0 0, .slice none 0 0, .slice none 0 0] 29) = W := ⟨_, rfl⟩
    have B1 : Below w.heap.size w w1 := by rw [← hw1]; exact ((below_alloc _).alloc (by simp) _).alloc (by simp; omega) _
    have HC1 := Lib.hid (show Blk w1 w.heap.size 32 #[.int .i64 (N : Int), .int .i64 (s : Int), .int .i64 (t : Int), .slice AF (N + 1) cF, .slice AH M cH, .slice AR M cR, .slice AC M cC, .slice AA M cA, .slice AB M cB] by rw [← hw1]; exact ((Blk.new rfl).alloc _).alloc _)
    have HR1 := Lib.hid (show Blk w1 (w.heap.size + 1 + 1) 29 #[.slice none 0 0, .slice none 0 0, .slice none 0 0] by rw [← hw1]; exact Blk.new (by simp))
    have HB1 := Lib.hid B1
    obtain ⟨a0, a1, a2, a3, a4, a5, a6, a7, a8⟩ := HC1.out.at9
    obtain ⟨⟨r0, r1, r2⟩, ⟨s0, s1, s2⟩, hz3⟩ := HR1.out.full3
    have hz1 := HC1.out.lt
    clear B1 hG hI hQ hS
    by_cases hneg : a < 0
    · go_enter Try.func23, Try.ntmps23
      go_wp2_with fail
      have K9 := HR1.out.put3 (x := .slice none 0 0) (y := .slice none 0 0) (z := .slice none 0 0)
      have B9 := below_put3 (g := w.heap.size + 1 + 1) (x := .slice none 0 0) (y := .slice none 0 0) (z := .slice none 0 0) HB1.out (by omega)
      obtain ⟨⟨q0, q1, q2⟩, -, -⟩ := K9.full3
      dsimp only [put3] at q0 q1 q2
      refine bodyPost_ret (v := .tuple #[.agg #[.slice none 0 0, .slice none 0 0, .slice none 0 0], .int .i64 0, .int .i64 2]) (by simp [results, Try.results23, go_sem, q0, q1, q2]) rfl ⟨⟨none, 0, none, 0, none, 0⟩, rfl, nil_st B9 B9.size⟩
    · have hbig : (M : Int) ≤ a := by omega
      go_enter Try.func23, Try.ntmps23
      go_wp2_with fail
      have K9 := HR1.out.put3 (x := .slice none 0 0) (y := .slice none 0 0) (z := .slice none 0 0)
      have B9 := below_put3 (g := w.heap.size + 1 + 1) (x := .slice none 0 0) (y := .slice none 0 0) (z := .slice none 0 0) HB1.out (by omega)
      obtain ⟨⟨q0, q1, q2⟩, -, -⟩ := K9.full3
      dsimp only [put3] at q0 q1 q2
      refine bodyPost_ret (v := .tuple #[.agg #[.slice none 0 0, .slice none 0 0, .slice none 0 0], .int .i64 0, .int .i64 2]) (by simp [results, Try.results23, go_sem, q0, q1, q2]) rfl ⟨⟨none, 0, none, 0, none, 0⟩, rfl, nil_st B9 B9.size⟩

end Go.Proofs.Ytgjokddcaadjdaa

/-! Plf -/
namespace Go.Proofs.Ytgjokddcaadjdaa
open Go.RowKit Go.Shelf
set_option maxRecDepth 100000

/-- The least so far, of the first k of a row. -/
structure LstK (N : Nat) (fst hd : Nat → Nat) (X H : List Int) (u k : Nat) (x : Int) : Prop where
  le : ∀ j, j < k → opn X (fst u + j) = true → x ≤ hOf H (hd (fst u + j))
  is : x = 2 * (N : Int) ∨ ∃ j, j < k ∧ opn X (fst u + j) = true ∧ x = hOf H (hd (fst u + j))
  b0 : 0 ≤ x
  b1 : x ≤ 2 * (N : Int)
section
variable {N : Nat} {fst hd : Nat → Nat} {X H : List Int} {u k : Nat} {x : Int}
theorem LstK.zero : LstK N fst hd X H u 0 (2 * (N : Int)) := ⟨fun j h => by omega, .inl rfl, by omega, Int.le_refl _⟩
theorem LstK.shut (h : LstK N fst hd X H u k x) (ho : opn X (fst u + k) = false) : LstK N fst hd X H u (k + 1) x := by
  refine ⟨fun j hj hp => ?_, h.is.imp id (fun ⟨j, h1, h2⟩ => ⟨j, by omega, h2⟩), h.b0, h.b1⟩
  by_cases e : j = k
  · subst e; rw [ho] at hp; cases hp
  · exact h.le j (by omega) hp
theorem LstK.keep (h : LstK N fst hd X H u k x) (hl : ¬ hOf H (hd (fst u + k)) < x) : LstK N fst hd X H u (k + 1) x := by
  refine ⟨fun j hj hp => ?_, h.is.imp id (fun ⟨j, h1, h2⟩ => ⟨j, by omega, h2⟩), h.b0, h.b1⟩
  by_cases e : j = k
  · subst e; omega
  · exact h.le j (by omega) hp
theorem LstK.less (h : LstK N fst hd X H u k x) (ho : opn X (fst u + k) = true) (hl : hOf H (hd (fst u + k)) < x) (h0 : 0 ≤ hOf H (hd (fst u + k))) : LstK N fst hd X H u (k + 1) (hOf H (hd (fst u + k))) := by
  refine ⟨fun j hj hp => ?_, .inr ⟨k, by omega, ho, rfl⟩, h0, by have := h.b1; omega⟩
  by_cases e : j = k
  · subst e; exact Int.le_refl _
  · have := h.le j (by omega) hp; omega
end
theorem Hx.putH {w0 w : World} {base nX nE nH cX cE gH cH : Nat} {AX AE : Option Addr} {X E H : List Int} (h : Hx w0 w base (pstR nX nE nH ⟨AX, cX, AE, cE, some ⟨gH, 0, none⟩, cH⟩ X E H)) (i : Nat) (x : Int) : Hx w0 (w.setCell ⟨gH, i, none⟩ (.int .i64 x)) base (pstR nX nE nH ⟨AX, cX, AE, cE, some ⟨gH, 0, none⟩, cH⟩ X E (H.set i x)) := by
  have := h.put (i := 2) rfl i (.int .i64 x)
  unfold pstR
  rw [lvs_set]
  exact this

set_option maxHeartbeats 32000000 in
theorem rlift_is (N M s t : Nat) (K : CsrS) (Q : PreS) (fst hd rv ai : Nat → Nat) (cp : Nat → Int) (bk : Nat → Bool) (X E H : List Int) (u : Int) (w : World) (hG : PNet N M s t fst hd rv ai cp bk) (hI : PIn w w.heap.size N M K fst hd rv ai cp bk)
    (hQ : StIn w w.heap.size M N N Q X E H) (hS : StIs N M s t hd rv cp X E H) :
    Calls Try.prog 25 #[csrW N M s t K, preW M N N Q, .int .i64 u] w (RetLift (liftC N s t fst hd rv X E H u) (liftS N s t fst hd rv X E H u).1 (liftS N s t fst hd rv X E H u).2.1 (liftS N s t fst hd rv X E H u).2.2 w) := by
  have hM := hG.nM; have hN := hG.nN
  obtain ⟨R, hR⟩ : ∃ R, liftS N s t fst hd rv X E H u = R := ⟨_, rfl⟩
  obtain ⟨cc, hcc⟩ : ∃ cc, liftC N s t fst hd rv X E H u = cc := ⟨_, rfl⟩
  rw [hR, hcc]
  have HRR := Lib.hid hR; have HCC := Lib.hid hcc
  clear hR hcc
  by_cases hr : 0 ≤ u ∧ u < (N : Int)
  · obtain ⟨u, rfl⟩ := Int.eq_ofNat_of_zero_le hr.1
    have hu : u < N := by omega
    have hC0 : liftC N s t fst hd rv X E H (u : Int) = if (actB s t E u && (rls fst u (admB hd rv X H) (fst (u + 1) - fst u)).isEmpty) = true then 0 else 30 := by unfold liftC; rw [if_neg (fun h => h hr)]; rfl
    have hno : actB s t E u = false → liftC N s t fst hd rv X E H (u : Int) = 30 := fun h => by rw [hC0, h]; rfl
    have h30 : liftC N s t fst hd rv X E H (u : Int) = 30 → liftS N s t fst hd rv X E H (u : Int) = ([], [], []) := fun h => by unfold liftS; rw [h]; rfl
    have hac := act_iff (s := s) (t := t) (E := E) (v := u)
    have hpu := fun (k : Nat) (h : k < M) W (hb : Below w.heap.size w W) => rpushes_is N M s t k K Q fst hd rv X E H W hG.g (hI.gi.on hb) (hQ.on hb) h (by omega) hN hS.bnd
    have hcopy := fun W (hb : Below w.heap.size w W) => rcopy_is M N N Q X E H W (hQ.on hb) (by omega) (by omega) (by omega)
    have hmo := hG.g.mono u hu
    have hfl := hG.g.fle (v := u + 1) (by omega)
    have hdl := fun (k : Nat) (h : k < M) => hG.g.hdl k h
    have htl := fun (k : Nat) h1 h2 => hG.g.tail u k hu h1 h2
    have hlow := fun h => OkS.lowV hS hG hu h
    have hN0 : 0 < N := by omega
    obtain ⟨bE, oE, hEa⟩ := hQ.iE.adr hN0
    obtain ⟨bH, oH, hHa⟩ := hQ.iH.adr hN0
    obtain ⟨bF, oF, hFa⟩ := hI.gi.iF.adr (by omega)
    have hiE := hQ.iE; have hiX := hQ.iX; have hiH := hQ.iH; have hiF := hI.gi.iF; have hiD := hI.gi.iH
    have hlx := hS.bal.1; have hle := hS.le; have hlh := hS.lh; have hbn := hS.bnd
    have HPU := Lib.hid hpu; have HCO := Lib.hid hcopy; have HAC := Lib.hid hac; have HC0 := Lib.hid hC0; have HNO := Lib.hid hno; have H30 := Lib.hid h30; have HDL := Lib.hid hdl; have HTL := Lib.hid htl; have HLOW := Lib.hid hlow
    have HLX := Lib.hid hlx; have HLE := Lib.hid hle; have HLH := Lib.hid hlh; have HBN := Lib.hid hbn; have HG := Lib.hid hG.g
    clear hpu hcopy hac hC0 hno h30 hdl htl hlow hbn
    obtain ⟨AF, cF, AH, cH, AR, cR, AC, cC, AA, cA, AB, cB⟩ := K
    obtain ⟨AX, cX, AE, cE, AHH, cHH⟩ := Q
    dsimp only [csrW, preW] at hEa hHa hFa hiE hiX hiH hiF hiD HPU HCO ⊢
    subst hEa; subst hHa; subst hFa
    obtain ⟨w1, hw1⟩ : ∃ W, ((w.alloc (.cells #[.int .i64 (N : Int), .int .i64 (s : Int), .int .i64 (t : Int), .slice (some ⟨bF, oF, none⟩) (N + 1) cF, .slice AH M cH, .slice AR M cR, .slice AC M cC, .slice AA M cA, .slice AB M cB] 32)).alloc (.cells #[.slice AX M cX, .slice (some ⟨bE, oE, none⟩) N cE, .slice (some ⟨bH, oH, none⟩) N cHH] 29)).alloc (.cells #[.slice none 0 0, .slice none 0 0, .slice none 0 0] 29) = W := ⟨_, rfl⟩
    have B1 : Below w.heap.size w w1 := by rw [← hw1]; exact ((below_alloc _).alloc (by simp) _).alloc (by simp; omega) _
    have HC1 := Lib.hid (show Blk w1 w.heap.size 32 #[.int .i64 (N : Int), .int .i64 (s : Int), .int .i64 (t : Int), .slice (some ⟨bF, oF, none⟩) (N + 1) cF, .slice AH M cH, .slice AR M cR, .slice AC M cC, .slice AA M cA, .slice AB M cB] by rw [← hw1]; exact ((Blk.new rfl).alloc _).alloc _)
    have HP1 := Lib.hid (show Blk w1 (w.heap.size + 1) 29 #[.slice AX M cX, .slice (some ⟨bE, oE, none⟩) N cE, .slice (some ⟨bH, oH, none⟩) N cHH] by rw [← hw1]; exact (Blk.new (by simp)).alloc _)
    have HR1 := Lib.hid (show Blk w1 (w.heap.size + 1 + 1) 29 #[.slice none 0 0, .slice none 0 0, .slice none 0 0] by rw [← hw1]; exact Blk.new (by simp))
    have HB1 := Lib.hid B1
    have HIE := Lib.hid hiE; have HIX := Lib.hid hiX; have HIH := Lib.hid hiH; have HIF := Lib.hid hiF; have HID := Lib.hid hiD
    obtain ⟨a0, a1, a2, a3, a4, a5, a6, a7, a8⟩ := HC1.out.at9
    obtain ⟨⟨p0, p1, p2⟩, -, hz2⟩ := HP1.out.full3
    obtain ⟨⟨r0, r1, r2⟩, ⟨s0, s1, s2⟩, hz3⟩ := HR1.out.full3
    have hz1 := HC1.out.lt
    obtain ⟨hbE, ce⟩ := (hiE.on B1).cel (hOf_get hle hu)
    obtain ⟨hbF, cf⟩ := tab_cell (hiF.on B1) (k := u) (by omega)
    obtain ⟨-, cf1⟩ := tab_cell (hiF.on B1) (k := u + 1) (by omega)
    obtain ⟨y, hy⟩ : ∃ y, hOf E u = y := ⟨_, rfl⟩
    rw [hy] at ce
    have HY := Lib.hid hy
    have hr1 : ¬ (u : Int) < 0 := by omega
    have hr2 : ¬ (N : Int) ≤ (u : Int) := by omega
    have hw2 : IntKind.i64.wrap (2 * (N : Int)) = 2 * (N : Int) := wrap_in (by omega) (by omega)
    clear B1 hG hI hQ hS hiE hiX hiH hiF hiD hy
    by_cases h1 : u = s
    · have hf : actB s t E u = false := by rw [← Bool.not_eq_true, HAC.out]; exact fun h => h.1 h1
      have hC30 := HNO.out hf
      obtain rfl := HRR.out.symm.trans (H30.out hC30)
      obtain rfl := HCC.out.symm.trans hC30
      clear hf hC30
      subst h1
      go_enter Try.func25, Try.ntmps25
      go_wp2_with fail
      have K9 := HR1.out.put3 (x := .slice none 0 0) (y := .slice none 0 0) (z := .slice none 0 0)
      have B9 := below_put3 (g := w.heap.size + 1 + 1) (x := .slice none 0 0) (y := .slice none 0 0) (z := .slice none 0 0) HB1.out (by omega)
      obtain ⟨⟨q0, q1, q2⟩, -, -⟩ := K9.full3
      dsimp only [put3] at q0 q1 q2
      refine bodyPost_ret (v := .tuple #[.agg #[.slice none 0 0, .slice none 0 0, .slice none 0 0], .int .i64 30]) (by simp [results, Try.results25, go_sem, q0, q1, q2]) rfl ⟨⟨none, 0, none, 0, none, 0⟩, rfl, nil_st B9 B9.size⟩
    have h1' : ¬ (u : Int) = (s : Int) := by omega
    have h1b : ((u : Int) == (s : Int)) = false := by simpa using h1'
    by_cases h2 : u = t
    · have hf : actB s t E u = false := by rw [← Bool.not_eq_true, HAC.out]; exact fun h => h.2.1 h2
      have hC30 := HNO.out hf
      obtain rfl := HRR.out.symm.trans (H30.out hC30)
      obtain rfl := HCC.out.symm.trans hC30
      clear hf hC30
      subst h2
      go_enter Try.func25, Try.ntmps25
      go_wp2_with fail
      have K9 := HR1.out.put3 (x := .slice none 0 0) (y := .slice none 0 0) (z := .slice none 0 0)
      have B9 := below_put3 (g := w.heap.size + 1 + 1) (x := .slice none 0 0) (y := .slice none 0 0) (z := .slice none 0 0) HB1.out (by omega)
      obtain ⟨⟨q0, q1, q2⟩, -, -⟩ := K9.full3
      dsimp only [put3] at q0 q1 q2
      refine bodyPost_ret (v := .tuple #[.agg #[.slice none 0 0, .slice none 0 0, .slice none 0 0], .int .i64 30]) (by simp [results, Try.results25, go_sem, q0, q1, q2]) rfl ⟨⟨none, 0, none, 0, none, 0⟩, rfl, nil_st B9 B9.size⟩
    have h2' : ¬ (u : Int) = (t : Int) := by omega
    have h2b : ((u : Int) == (t : Int)) = false := by simpa using h2'
    by_cases h3 : y ≤ 0
    · have hf : actB s t E u = false := by rw [← Bool.not_eq_true, HAC.out, HY.out]; exact fun h => by omega
      have hC30 := HNO.out hf
      obtain rfl := HRR.out.symm.trans (H30.out hC30)
      obtain rfl := HCC.out.symm.trans hC30
      clear hf hC30
      go_enter Try.func25, Try.ntmps25
      go_wp2_with fail
      have K9 := HR1.out.put3 (x := .slice none 0 0) (y := .slice none 0 0) (z := .slice none 0 0)
      have B9 := below_put3 (g := w.heap.size + 1 + 1) (x := .slice none 0 0) (y := .slice none 0 0) (z := .slice none 0 0) HB1.out (by omega)
      obtain ⟨⟨q0, q1, q2⟩, -, -⟩ := K9.full3
      dsimp only [put3] at q0 q1 q2
      refine bodyPost_ret (v := .tuple #[.agg #[.slice none 0 0, .slice none 0 0, .slice none 0 0], .int .i64 30]) (by simp [results, Try.results25, go_sem, q0, q1, q2]) rfl ⟨⟨none, 0, none, 0, none, 0⟩, rfl, nil_st B9 B9.size⟩
    have hact : actB s t E u = true := HAC.out.2 ⟨h1, h2, by rw [HY.out]; omega⟩
    have HACT := Lib.hid hact
    obtain ⟨f0, hf0⟩ : ∃ f, fst u = f := ⟨_, rfl⟩
    obtain ⟨f1, hf1⟩ : ∃ f, fst (u + 1) = f := ⟨_, rfl⟩
    rw [hf0] at cf hmo
    rw [hf1] at cf1 hmo hfl
    have HF0 := Lib.hid hf0; have HF1 := Lib.hid hf1
    have hwu : IntKind.i64.wrap ((u : Int) + 1) = (u : Int) + 1 := wrap_in (by omega) (by omega)
    clear hact hf0 hf1
    go_enter Try.func25, Try.ntmps25
    go_wp2_with fail
    clear hw1 a0 a1 a2 a3 a4 a5 a6 a7 a8 p0 p1 p2 r0 r1 r2 s0 s1 s2 hz1 hz2 hz3 ce cf cf1
    go_loopw [8, 9] (fun l i wr => ∃ (k : Nat) (x : Int), k ≤ f1 - f0 ∧ i = .int .i64 ((f0 + k : Nat) : Int) ∧ l = .int .i64 x ∧ LstK N fst hd X H u k x ∧ (∀ j, j < k → admB hd rv X H (f0 + j) = false) ∧ Below w1.heap.size w1 wr) (fun _ i _ => f1 - (intOf i).toNat)
    case atStart => exact ⟨0, _, Nat.zero_le _, rfl, rfl, LstK.zero, fun j h => by omega, Below.refl _ _⟩
    case round =>
      obtain ⟨k, x, hk, rfl, rfl, hlst, hadm, Br⟩ := hrel
      have HLST := Lib.hid hlst; have HADM := Lib.hid hadm; have HBR := Lib.hid Br
      have Bw := below_step HB1.out Br
      have HBw := Lib.hid Bw
      have Cr := HC1.out.below Br HC1.out.lt; have Pr := HP1.out.below Br HP1.out.lt
      obtain ⟨a0, a1, a2, a3, a4, a5, a6, a7, a8⟩ := Cr.at9
      obtain ⟨⟨p0, p1, p2⟩, -, hz2⟩ := Pr.full3
      have hz1 := Cr.lt
      obtain ⟨hbF', cf1⟩ := tab_cell (HIF.out.on Bw) (k := u + 1) (by omega)
      rw [HF1.out] at cf1
      obtain ⟨a, hae⟩ : ∃ a, f0 + k = a := ⟨_, rfl⟩
      rw [hae]
      clear hlst hadm Br Bw Cr Pr
      by_cases hlt : a < f1
      · have haM : a < M := by omega
        have hpu := HPU.out a haM _ HBw.out
        rw [HTL.out a (by rw [HF0.out]; omega) (by rw [HF1.out]; omega), HACT.out, Bool.true_and] at hpu
        obtain ⟨r, hrr⟩ : ∃ r, admB hd rv X H a = r := ⟨_, rfl⟩
        rw [hrr] at hpu
        have HPP := Lib.hid hpu; have HRA := Lib.hid hrr
        clear hpu hrr
        go_wp2_with fail
        refine HPP.out.mono ?_
        rintro e w2 ⟨rfl, B2⟩
        have HB2 := Lib.hid (below_step HBR.out B2)
        have HBw2 := Lib.hid (below_step HBw.out B2)
        clear B2 a0 a1 a2 a3 a4 a5 a6 a7 a8 p0 p1 p2 hz1 hz2 cf1 hbF' HPP
        have Cr := HC1.out.below HB2.out HC1.out.lt; have Pr := HP1.out.below HB2.out HP1.out.lt; have Rr := HR1.out.below HB2.out HR1.out.lt
        obtain ⟨a0, a1, a2, a3, a4, a5, a6, a7, a8⟩ := Cr.at9
        obtain ⟨⟨p0, p1, p2⟩, -, hz2⟩ := Pr.full3
        have hz1 := Cr.lt
        have HRr := Lib.hid Rr
        clear Cr Pr Rr
        cases r with
        | true =>
          have hC30 : liftC N s t fst hd rv X E H (u : Int) = 30 := by
            rw [HC0.out, if_neg]
            intro h
            rw [HACT.out, Bool.true_and, List.isEmpty_iff] at h
            have hm : a ∈ rls fst u (admB hd rv X H) (fst (u + 1) - fst u) := (rls_mem (by rw [HF0.out, HF1.out]; omega)).2 ⟨by rw [HF0.out]; omega, by rw [HF0.out, HF1.out]; omega, HRA.out⟩
            rw [h] at hm
            cases hm
          obtain rfl := HRR.out.symm.trans (H30.out hC30)
          obtain rfl := HCC.out.symm.trans hC30
          clear hC30
          obtain ⟨⟨r0, r1, r2⟩, ⟨s0, s1, s2⟩, hz3⟩ := HRr.out.full3
          go_wp2_with fail
          have K9 := HRr.out.put3 (x := .slice none 0 0) (y := .slice none 0 0) (z := .slice none 0 0)
          have B9 := below_put3 (g := w.heap.size + 1 + 1) (x := .slice none 0 0) (y := .slice none 0 0) (z := .slice none 0 0) (HBw2.out) (by omega)
          obtain ⟨⟨q0, q1, q2⟩, -, -⟩ := K9.full3
          dsimp only [put3] at q0 q1 q2
          refine bodyPost_ret (v := .tuple #[.agg #[.slice none 0 0, .slice none 0 0, .slice none 0 0], .int .i64 30]) (by simp [results, Try.results25, go_sem, q0, q1, q2]) rfl ⟨⟨none, 0, none, 0, none, 0⟩, rfl, nil_st B9 B9.size⟩
        | false =>
          obtain ⟨bX, oX, hXa⟩ := HIX.out.adr (by omega)
          obtain ⟨bD, oD, hDa⟩ := HID.out.adr (by omega)
          subst hXa; subst hDa
          obtain ⟨hbX, cx⟩ := (HIX.out.on HBw2.out).cel (hOf_get HLX.out haM)
          obtain ⟨hbD, cd⟩ := tab_cell (HID.out.on HBw2.out) haM
          have hdn := HDL.out a haM
          obtain ⟨hbH, ch⟩ := (HIH.out.on HBw2.out).cel (hOf_get HLH.out hdn)
          have hbn := HBN.out _ hdn
          have hop : opn X a = decide (0 < hOf X a) := opn_hOf X a
          obtain ⟨v, hv⟩ : ∃ v, hd a = v := ⟨_, rfl⟩
          have hst := HLST.out
          have hsh := fun h => hst.shut (k := k) (by rw [HF0.out, hae]; exact h)
          have hke := fun h => hst.keep (k := k) (by rw [HF0.out, hae]; exact h)
          have hle' := fun h h' h'' => hst.less (k := k) (by rw [HF0.out, hae]; exact h) (by rw [HF0.out, hae]; exact h') (by rw [HF0.out, hae]; exact h'')
          rw [HF0.out, hae] at hle'
          rw [hv] at cd ch hbn hdn hke hle'
          obtain ⟨yx, hyx⟩ : ∃ y, hOf X a = y := ⟨_, rfl⟩
          obtain ⟨yh, hyh⟩ : ∃ y, hOf H v = y := ⟨_, rfl⟩
          rw [hyx] at cx hop
          rw [hyh] at ch hbn hke hle'
          have hx0 := hst.b0; have hx1 := hst.b1
          have had : ∀ j, j < k + 1 → admB hd rv X H (f0 + j) = false := fun j hj => by
            by_cases e : j = k
            · subst e; rw [hae]; exact HRA.out
            · exact HADM.out j (by omega)
          have HSH := Lib.hid hsh; have HKE := Lib.hid hke; have HLS := Lib.hid hle'; have HOP := Lib.hid hop; have HAD := Lib.hid had
          have hk1 : f0 + (k + 1) = a + 1 := by omega
          have hkl : k + 1 ≤ f1 - f0 := by omega
          have hms : f1 - (a + 1) < f1 - a := by omega
          have HK1 := Lib.hid (And.intro hk1 (And.intro hkl hms))
          clear hst hsh hke hle' hop had hv hyx hyh hk1 hkl hms
          by_cases h4 : 0 < yx
          · have h4b : decide (0 < yx) = true := decide_eq_true h4
            by_cases h5 : yh < x
            · have h5b : decide (yh < x) = true := decide_eq_true h5
              go_wp2_with fail
              go_quiet (fail)
              go_wp2_with fail
              go_quiet (fail)
              go_wp2_with fail
              refine ⟨⟨k + 1, yh, HK1.out.2.1, by rw [HK1.out.1]; go_num, rfl, HLS.out (by rw [HOP.out]; exact h4b) h5 hbn.1, HAD.out, below_drewN' HB2.out _⟩, ?_⟩
              have := HK1.out.2.2
              simp [intOf]; omega
            · have h5b : decide (yh < x) = false := decide_eq_false h5
              go_wp2_with fail
              go_quiet (fail)
              go_wp2_with fail
              refine ⟨⟨k + 1, x, HK1.out.2.1, by rw [HK1.out.1]; go_num, rfl, HKE.out h5, HAD.out, below_drewN' HB2.out _⟩, ?_⟩
              have := HK1.out.2.2
              simp [intOf]; omega
          · have h4b : decide (0 < yx) = false := decide_eq_false h4
            go_wp2_with fail
            go_quiet (fail)
            go_wp2_with fail
            refine ⟨⟨k + 1, x, HK1.out.2.1, by rw [HK1.out.1]; go_num, rfl, HSH.out (by rw [HOP.out]; exact h4b), HAD.out, below_drewN' HB2.out _⟩, ?_⟩
            have := HK1.out.2.2
            simp [intOf]; omega
      · have hkl : k = f1 - f0 := by omega
        have hnil : rls fst u (admB hd rv X H) (fst (u + 1) - fst u) = [] := by
          rw [List.eq_nil_iff_forall_not_mem]
          intro b hb
          obtain ⟨b1, b2, b3⟩ := (rls_mem (by rw [HF0.out, HF1.out]; omega)).1 hb
          rw [HF0.out, HF1.out] at b2
          rw [HF0.out] at b1
          have := HADM.out (b - f0) (by omega)
          rw [show f0 + (b - f0) = b by omega, b3] at this
          cases this
        have hC00 : liftC N s t fst hd rv X E H (u : Int) = 0 := by rw [HC0.out, HACT.out, hnil]; rfl
        have hlv : lowV fst hd X H u = x := by
          obtain ⟨b, hb, -⟩ := HLOW.out HACT.out
          refine lowV_eq ?_
          have hst := HLST.out
          have b1 := hb.r1; have b2 := hb.r2; have b3 := hb.op
          rw [HF0.out] at b1; rw [HF1.out] at b2
          have b4 := hst.le (b - f0) (by omega) (by rw [HF0.out, show f0 + (b - f0) = b by omega]; exact b3)
          rw [HF0.out, show f0 + (b - f0) = b by omega] at b4
          have b5 := HBN.out _ (HDL.out b (by omega))
          refine ⟨?_, fun c c1 c2 c3 => ?_⟩
          · rcases hst.is with h | ⟨j, j1, j2, j3⟩
            · omega
            · exact ⟨fst u + j, by omega, by rw [HF0.out, HF1.out]; omega, j2, j3⟩
          · rw [HF0.out] at c1; rw [HF1.out] at c2
            have := hst.le (c - f0) (by omega) (by rw [HF0.out, show f0 + (c - f0) = c by omega]; exact c3)
            rwa [HF0.out, show f0 + (c - f0) = c by omega] at this
        have hx0 := HLST.out.b0; have hx1 := HLST.out.b1
        have hps : liftS N s t fst hd rv X E H (u : Int) = (X, E, H.set u (x + 1)) := by unfold liftS; rw [hC00, ← hlv]; rfl
        obtain rfl := HRR.out.symm.trans hps
        obtain rfl := HCC.out.symm.trans hC00
        have hwx : IntKind.i64.wrap (x + 1) = x + 1 := wrap_in (by omega) (by omega)
        have HPSS := Lib.hid hps
        clear hnil hC00 hlv hps
        go_wp2_with fail
        refine (HCO.out _ HBw.out).mono ?_
        rintro e w4 ⟨⟨AX2, cX2, AE2, cE2, AH2, cH2⟩, rfl, HX4⟩
        clear a0 a1 a2 a3 a4 a5 a6 a7 a8 p0 p1 p2 hz1 hz2 cf1 hbF'
        obtain ⟨gH, rfl⟩ := own_some (n := N) (A := AH2) (HX4.held.own 2 _ rfl) (by omega)
        dsimp only [preW]
        obtain ⟨gO, hgO⟩ : ∃ g, w4.heap.size = g := ⟨_, rfl⟩
        obtain ⟨w5, hw5⟩ : ∃ W, w4.alloc (.cells #[.slice AX2 M cX2, .slice AE2 N cE2, .slice (some ⟨gH, 0, none⟩) N cH2] 29) = W := ⟨_, rfl⟩
        have HX5 := Lib.hid (show Hx wr w5 wr.heap.size (pstR M N N ⟨AX2, cX2, AE2, cE2, some ⟨gH, 0, none⟩, cH2⟩ X E H) by rw [← hw5]; exact HX4.alloc _)
        have HO5 := Lib.hid (show Blk w5 gO 29 #[.slice AX2 M cX2, .slice AE2 N cE2, .slice (some ⟨gH, 0, none⟩) N cH2] by rw [← hw5]; exact Blk.new hgO)
        have nx := own_apart (n := N) (g := gH) (HX5.out.held.own 2 _ rfl) HO5.out (show (3 : TypeId) ≠ 29 by decide)
        obtain ⟨w6, hw6⟩ : ∃ W, w5.setCell ⟨gH, u, none⟩ (.int .i64 (x + 1)) = W := ⟨_, rfl⟩
        have HX6 := Lib.hid (show Hx wr w6 wr.heap.size (pstR M N N ⟨AX2, cX2, AE2, cE2, some ⟨gH, 0, none⟩, cH2⟩ X E (H.set u (x + 1))) by rw [← hw6]; exact HX5.out.putH u (x + 1))
        have HO6 := Lib.hid (show Blk w6 gO 29 #[.slice AX2 M cX2, .slice AE2 N cE2, .slice (some ⟨gH, 0, none⟩) N cH2] by rw [← hw6]; exact HO5.out.far (p := ⟨gH, u, none⟩) nx (.int .i64 (x + 1)))
        have HR6 := Lib.hid ((HR1.out.below HBR.out HR1.out.lt).below HX6.out.bel (HR1.out.below HBR.out HR1.out.lt).lt)
        obtain ⟨hcx, hfx, hzx, -⟩ := HX5.out.cell (i := 2) (j := u) rfl hu (lvs_at (by omega))
        obtain ⟨⟨o0, o1, o2⟩, -, hzo⟩ := HO5.out.full3
        obtain ⟨⟨i0, i1, i2⟩, -, hzi⟩ := HO6.out.full3
        obtain ⟨⟨r0, r1, r2⟩, ⟨s0, s1, s2⟩, hzr⟩ := HR6.out.full3
        have hbs := HBw.out.size
        clear nx HX4
        go_wp2_with fail
        clear hw5 hw6 hgO o0 o1 o2 hzo i0 i1 i2 hzi hcx hfx hzx
        have K9 := HR6.out.put3 (x := .slice AX2 M cX2) (y := .slice AE2 N cE2) (z := .slice (some ⟨gH, 0, none⟩) N cH2)
        have X9 := (HX6.out.low (show w.heap.size ≤ wr.heap.size from hbs) HBw.out).put3 (x := .slice AX2 M cX2) (y := .slice AE2 N cE2) (z := .slice (some ⟨gH, 0, none⟩) N cH2) HR6.out pst_ne (by omega)
        obtain ⟨⟨q0, q1, q2⟩, -, -⟩ := K9.full3
        dsimp only [put3] at q0 q1 q2
        refine bodyPost_ret (v := .tuple #[.agg #[.slice AX2 M cX2, .slice AE2 N cE2, .slice (some ⟨gH, 0, none⟩) N cH2], .int .i64 0]) (by simp [results, Try.results25, go_sem, q0, q1, q2]) rfl ⟨⟨AX2, cX2, AE2, cE2, some ⟨gH, 0, none⟩, cH2⟩, ?_, ?_⟩
        · rw [List.length_set, HLX.out, HLE.out, HLH.out]; first | done | rfl
        · rw [List.length_set, HLX.out, HLE.out, HLH.out]
          exact X9
  · have hC2 : liftC N s t fst hd rv X E H u = 2 := if_pos hr
    have hps : liftS N s t fst hd rv X E H u = ([], [], []) := by unfold liftS; rw [hC2]; rfl
    obtain rfl := HRR.out.symm.trans hps
    obtain rfl := HCC.out.symm.trans hC2
    clear hps hC2
    obtain ⟨AF, cF, AH, cH, AR, cR, AC, cC, AA, cA, AB, cB⟩ := K
    obtain ⟨AX, cX, AE, cE, AHH, cHH⟩ := Q
    dsimp only [csrW, preW]
    obtain ⟨w1, hw1⟩ : ∃ W, ((w.alloc (.cells #[.int .i64 (N : Int), .int .i64 (s : Int), .int .i64 (t : Int), .slice AF (N + 1) cF, .slice AH M cH, .slice AR M cR, .slice AC M cC, .slice AA M cA, .slice AB M cB] 32)).alloc (.cells #[.slice AX M cX, .slice AE N cE, .slice AHH N cHH] 29)).alloc (.cells #[.slice none 0 0, .slice none 0 0, .slice none 0 0] 29) = W := ⟨_, rfl⟩
    have B1 : Below w.heap.size w w1 := by rw [← hw1]; exact ((below_alloc _).alloc (by simp) _).alloc (by simp; omega) _
    have HC1 := Lib.hid (show Blk w1 w.heap.size 32 #[.int .i64 (N : Int), .int .i64 (s : Int), .int .i64 (t : Int), .slice AF (N + 1) cF, .slice AH M cH, .slice AR M cR, .slice AC M cC, .slice AA M cA, .slice AB M cB] by rw [← hw1]; exact ((Blk.new rfl).alloc _).alloc _)
    have HR1 := Lib.hid (show Blk w1 (w.heap.size + 1 + 1) 29 #[.slice none 0 0, .slice none 0 0, .slice none 0 0] by rw [← hw1]; exact Blk.new (by simp))
    have HB1 := Lib.hid B1
    obtain ⟨a0, a1, a2, a3, a4, a5, a6, a7, a8⟩ := HC1.out.at9
    obtain ⟨⟨r0, r1, r2⟩, ⟨s0, s1, s2⟩, hz3⟩ := HR1.out.full3
    have hz1 := HC1.out.lt
    clear B1 hG hI hQ hS
    by_cases hneg : u < 0
    · go_enter Try.func25, Try.ntmps25
      go_wp2_with fail
      have K9 := HR1.out.put3 (x := .slice none 0 0) (y := .slice none 0 0) (z := .slice none 0 0)
      have B9 := below_put3 (g := w.heap.size + 1 + 1) (x := .slice none 0 0) (y := .slice none 0 0) (z := .slice none 0 0) HB1.out (by omega)
      obtain ⟨⟨q0, q1, q2⟩, -, -⟩ := K9.full3
      dsimp only [put3] at q0 q1 q2
      refine bodyPost_ret (v := .tuple #[.agg #[.slice none 0 0, .slice none 0 0, .slice none 0 0], .int .i64 2]) (by simp [results, Try.results25, go_sem, q0, q1, q2]) rfl ⟨⟨none, 0, none, 0, none, 0⟩, rfl, nil_st B9 B9.size⟩
    · have hbig : (N : Int) ≤ u := by omega
      go_enter Try.func25, Try.ntmps25
      go_wp2_with fail
      have K9 := HR1.out.put3 (x := .slice none 0 0) (y := .slice none 0 0) (z := .slice none 0 0)
      have B9 := below_put3 (g := w.heap.size + 1 + 1) (x := .slice none 0 0) (y := .slice none 0 0) (z := .slice none 0 0) HB1.out (by omega)
      obtain ⟨⟨q0, q1, q2⟩, -, -⟩ := K9.full3
      dsimp only [put3] at q0 q1 q2
      refine bodyPost_ret (v := .tuple #[.agg #[.slice none 0 0, .slice none 0 0, .slice none 0 0], .int .i64 2]) (by simp [results, Try.results25, go_sem, q0, q1, q2]) rfl ⟨⟨none, 0, none, 0, none, 0⟩, rfl, nil_st B9 B9.size⟩

end Go.Proofs.Ytgjokddcaadjdaa

/-! Pmt -/
namespace Go.Proofs.Ytgjokddcaadjdaa
open Go.RowKit Go.Shelf
set_option maxRecDepth 100000

set_option maxHeartbeats 16000000 in
theorem rmay_is (N M s t : Nat) (K : CsrS) (Q : PreS) (fst hd rv ai : Nat → Nat) (cp : Nat → Int) (bk : Nat → Bool) (X E H : List Int) (w : World) (hG : PNet N M s t fst hd rv ai cp bk) (hI : PIn w w.heap.size N M K fst hd rv ai cp bk)
    (hQ : StIn w w.heap.size M N N Q X E H) (hS : StIs N M s t hd rv cp X E H) :
    Calls Try.prog 18 #[csrW N M s t K, preW M N N Q] w (RetMay (mayA fst hd rv X H (selTo (actB s t E) N)) (mayV fst hd rv X H (selTo (actB s t E) N)) w) := by
  have hM := hG.nM; have hN := hG.nN
  have hma : mayA fst hd rv X H (selTo (actB s t E) N) = selTo (fun a => actB s t E (hd (rv a)) && admB hd rv X H a) M := by rw [mayA_sel hG.g N (Nat.le_refl _), hG.g.fN]
  have hmv : mayV fst hd rv X H (selTo (actB s t E) N) = selTo (fun u => actB s t E u && (downs fst hd rv X H u).isEmpty) N := by
    unfold mayV selTo
    rw [List.filter_filter]
    congr 1
    funext u
    exact Bool.and_comm _ _
  rw [hma, hmv]
  clear hma hmv
  have hlc : ∀ u, u < N → (liftC N s t fst hd rv X E H (u : Int) = 0 ∧ (actB s t E u && (downs fst hd rv X H u).isEmpty) = true) ∨ (liftC N s t fst hd rv X E H (u : Int) = 30 ∧ (actB s t E u && (downs fst hd rv X H u).isEmpty) = false) := fun u hu => by
    have e : liftC N s t fst hd rv X E H (u : Int) = if (actB s t E u && (downs fst hd rv X H u).isEmpty) = true then 0 else 30 := by unfold liftC; rw [if_neg (fun h => h ⟨by omega, by omega⟩)]; rfl
    cases hb : (actB s t E u && (downs fst hd rv X H u).isEmpty) with
    | true => exact .inl ⟨by rw [e, hb]; rfl, rfl⟩
    | false => exact .inr ⟨by rw [e, hb]; rfl, rfl⟩
  have hpu := fun (k : Nat) (h : k < M) W (hb : Below w.heap.size w W) => rpushes_is N M s t k K Q fst hd rv X E H W hG.g (hI.gi.on hb) (hQ.on hb) h (by omega) hN hS.bnd
  have hli := fun (u : Nat) W (hb : Below w.heap.size w W) => rlift_is N M s t K Q fst hd rv ai cp bk X E H (u : Int) W hG (hI.on hb) (hQ.on hb) hS
  obtain ⟨p1, hp1⟩ : ∃ p, (fun a => actB s t E (hd (rv a)) && admB hd rv X H a) = p := ⟨_, rfl⟩
  obtain ⟨p2, hp2⟩ : ∃ p, (fun u => actB s t E u && (downs fst hd rv X H u).isEmpty) = p := ⟨_, rfl⟩
  have hq1 : ∀ k, (actB s t E (hd (rv k)) && admB hd rv X H k) = p1 k := fun k => by rw [← hp1]
  have hq2 : ∀ u, (actB s t E u && (downs fst hd rv X H u).isEmpty) = p2 u := fun u => by rw [← hp2]
  rw [hp1, hp2]
  simp only [hq1] at hpu
  simp only [hq2] at hlc
  have HPU := Lib.hid hpu; have HLI := Lib.hid hli; have HLC := Lib.hid hlc
  clear hpu hli hlc hp1 hp2 hq1 hq2 hG hI hQ hS
  obtain ⟨AF, cF, AH, cH, AR, cR, AC, cC, AA, cA, AB, cB⟩ := K
  obtain ⟨AX, cX, AE, cE, AHH, cHH⟩ := Q
  dsimp only [csrW, preW] at HPU HLI ⊢
  obtain ⟨w1, hw1⟩ : ∃ W, (w.alloc (.cells #[.int .i64 (N : Int), .int .i64 (s : Int), .int .i64 (t : Int), .slice AF (N + 1) cF, .slice AH M cH, .slice AR M cR, .slice AC M cC, .slice AA M cA, .slice AB M cB] 32)).alloc (.cells #[.slice AX M cX, .slice AE N cE, .slice AHH N cHH] 29) = W := ⟨_, rfl⟩
  have B1 : Below w.heap.size w w1 := by rw [← hw1]; exact (below_alloc _).alloc (by simp) _
  have HC1 := Lib.hid (show Blk w1 w.heap.size 32 #[.int .i64 (N : Int), .int .i64 (s : Int), .int .i64 (t : Int), .slice AF (N + 1) cF, .slice AH M cH, .slice AR M cR, .slice AC M cC, .slice AA M cA, .slice AB M cB] by rw [← hw1]; exact (Blk.new rfl).alloc _)
  have HP1 := Lib.hid (show Blk w1 (w.heap.size + 1) 29 #[.slice AX M cX, .slice AE N cE, .slice AHH N cHH] by rw [← hw1]; exact Blk.new (by simp))
  have HB1 := Lib.hid B1
  have HX0 := Lib.hid (show Hx w1 w1 w1.heap.size [⟨3, none, 0, 0, []⟩, ⟨3, none, 0, 0, []⟩] from ((Hx.start rfl).nil 3).nil 3)
  clear B1
  go_enter Try.func18, Try.ntmps18
  go_wp2_with fail
  clear hw1
  go_loopw [6, 8] (fun q i wr => ∃ (k : Nat) (A1 : Option Addr) (c1 : Nat), k ≤ M ∧ i = .int .i64 k ∧ q = .slice A1 (selTo p1 k).length c1 ∧ Hx w1 wr w1.heap.size [⟨3, A1, (selTo p1 k).length, c1, nvs (selTo p1 k)⟩, ⟨3, none, 0, 0, []⟩]) (fun _ i _ => M - (intOf i).toNat)
  case atStart => exact ⟨0, none, 0, Nat.zero_le _, rfl, rfl, HX0.out⟩
  case round =>
    clear HX0
    obtain ⟨k, A1, c1, hk, rfl, rfl, HH⟩ := hrel
    have Cr := HC1.out.below HH.bel HC1.out.lt; have Pr := HP1.out.below HH.bel HP1.out.lt
    obtain ⟨a0, a1, a2, a3, a4, a5, a6, a7, a8⟩ := Cr.at9
    obtain ⟨⟨q0, q1, q2⟩, -, hz2⟩ := Pr.full3
    have hz1 := Cr.lt
    have hsl := sel_len p1 k
    have HXK := Lib.hid HH
    clear Cr Pr HH
    by_cases hlt : k < M
    · have hys := fun h => sel_yes (p := p1) (k := k) h
      have hns := fun h => sel_no (p := p1) (k := k) h
      have hpp := HPU.out k hlt _ (below_step HB1.out HXK.out.bel)
      have HYS := Lib.hid hys; have HNS := Lib.hid hns; have HPP := Lib.hid hpp
      clear hys hns hpp
      go_wp2_with fail
      refine HPP.out.mono ?_
      rintro e w2 ⟨rfl, B2⟩
      have HX2 := Lib.hid (HXK.out.on B2)
      clear a0 a1 a2 a3 a4 a5 a6 a7 a8 q0 q1 q2 hz1 hz2 HXK HPP B2
      cases hpk : p1 k with
      | false =>
        have he := HNS.out hpk
        have HE := Lib.hid he
        clear he HYS HNS hpk
        go_wp2_with fail
        refine ⟨⟨k + 1, A1, c1, by omega, by go_num, by rw [HE.out], by rw [HE.out]; exact HX2.out⟩, ?_⟩
        simp [intOf]; omega
      | true =>
        have he := HYS.out hpk
        have hel : (selTo p1 k).length + 1 = (selTo p1 (k + 1)).length := by rw [he, List.length_append]; rfl
        have HE := Lib.hid he; have HEL := Lib.hid hel
        clear he hel HYS HNS hpk
        go_wp2_with (at_builtin; refine wp_appH HX2.out rfl _ _ _ _ _ rfl one_int.wide 0 (selTo p1 k).length c1 A1 _ (.int .i64 (k : Int)) rfl rfl rfl rfl (by omega) (by simp) ?_)
        intro A4 c4 w4 HX4 HB4
        have H4 : Hid (Hx w1 w4 w1.heap.size [⟨3, A4, (selTo p1 (k + 1)).length, c4, nvs (selTo p1 (k + 1))⟩, ⟨3, none, 0, 0, []⟩]) := by
          have h := HX4.out
          rw [HEL.out] at h
          have e : nvs (selTo p1 (k + 1)) = nvs (selTo p1 k) ++ [.int .i64 (k : Int)] := by rw [HE.out]; simp [nvs]
          rw [e]
          exact Lib.hid h
        rw [HEL.out]
        clear HX4 HB4 HX2
        go_wp2_with fail
        refine ⟨⟨k + 1, A4, c4, by omega, by go_num, rfl, H4.out⟩, ?_⟩
        simp [intOf]; omega
    · have ek : k = M := by omega
      subst ek
      obtain ⟨w3, hw3⟩ : ∃ W, W = wr := ⟨_, rfl⟩
      subst hw3
      go_wp2_with fail
      clear a0 a1 a2 a3 a4 a5 a6 a7 a8 q0 q1 q2 hz1 hz2
      go_loopw [7, 9, 10, 11] (fun q i _ _ wr => ∃ (u : Nat) (A2 : Option Addr) (c2 : Nat), u ≤ N ∧ i = .int .i64 u ∧ q = .slice A2 (selTo p2 u).length c2 ∧ Hx w1 wr w1.heap.size [⟨3, A1, (selTo p1 k).length, c1, nvs (selTo p1 k)⟩, ⟨3, A2, (selTo p2 u).length, c2, nvs (selTo p2 u)⟩]) (fun _ i _ _ _ => N - (intOf i).toNat)
      case atStart => exact ⟨0, none, 0, Nat.zero_le _, rfl, rfl, HXK.out⟩
      case round =>
        clear HXK
        obtain ⟨u, A2, c2, hu, rfl, rfl, HH⟩ := hrel
        have Cr := HC1.out.below HH.bel HC1.out.lt; have Pr := HP1.out.below HH.bel HP1.out.lt
        obtain ⟨a0, a1, a2, a3, a4, a5, a6, a7, a8⟩ := Cr.at9
        obtain ⟨⟨q0, q1, q2⟩, -, hz2⟩ := Pr.full3
        have hz1 := Cr.lt
        have hsl2 := sel_len p2 u
        have HXK := Lib.hid HH
        clear Cr Pr HH
        by_cases hlt : u < N
        · have hys := fun h => sel_yes (p := p2) (k := u) h
          have hns := fun h => sel_no (p := p2) (k := u) h
          have hpp := HLI.out u _ (below_step HB1.out HXK.out.bel)
          have hlc := HLC.out u hlt
          obtain ⟨cc, hcc⟩ : ∃ c, liftC N s t fst hd rv X E H (u : Int) = c := ⟨_, rfl⟩
          obtain ⟨S, hS⟩ : ∃ c, liftS N s t fst hd rv X E H (u : Int) = c := ⟨_, rfl⟩
          rw [hcc] at hlc hpp
          rw [hS] at hpp
          have HYS := Lib.hid hys; have HNS := Lib.hid hns; have HPP := Lib.hid hpp
          clear hys hns hpp hcc hS
          rcases hlc with ⟨rfl, hpk⟩ | ⟨rfl, hpk⟩
          · have he := HYS.out hpk
            have hel : (selTo p2 u).length + 1 = (selTo p2 (u + 1)).length := by rw [he, List.length_append]; rfl
            have HE := Lib.hid he; have HEL := Lib.hid hel
            clear he hel HYS HNS hpk
            go_wp2_with fail
            refine HPP.out.mono ?_
            rintro e w2 ⟨⟨AX2, cX2, AE2, cE2, AH2, cH2⟩, rfl, X2⟩
            dsimp only [preW]
            obtain ⟨w4, hw4⟩ : ∃ W, w2.alloc (.cells #[.slice AX2 S.1.length cX2, .slice AE2 S.2.1.length cE2, .slice AH2 S.2.2.length cH2] 29) = W := ⟨_, rfl⟩
            have HX2 := Lib.hid (show Hx w1 w4 _ _ by rw [← hw4]; exact (HXK.out.on X2.bel).alloc _)
            clear a0 a1 a2 a3 a4 a5 a6 a7 a8 q0 q1 q2 hz1 hz2 HXK HPP X2
            go_wp2_with (at_builtin; refine wp_appH HX2.out rfl _ _ _ _ _ rfl one_int.wide 1 (selTo p2 u).length c2 A2 _ (.int .i64 (u : Int)) rfl rfl rfl rfl (by omega) (by simp) ?_)
            intro A4 c4 w5 HX4 HB4
            have H4 : Hid (Hx w1 w5 w1.heap.size [⟨3, A1, (selTo p1 k).length, c1, nvs (selTo p1 k)⟩, ⟨3, A4, (selTo p2 (u + 1)).length, c4, nvs (selTo p2 (u + 1))⟩]) := by
              have h := HX4.out
              rw [HEL.out] at h
              have e : nvs (selTo p2 (u + 1)) = nvs (selTo p2 u) ++ [.int .i64 (u : Int)] := by rw [HE.out]; simp [nvs]
              rw [e]
              exact Lib.hid h
            rw [HEL.out]
            clear HX4 HB4 HX2 hw4
            go_wp2_with fail
            refine ⟨⟨u + 1, A4, c4, by omega, by go_num, rfl, H4.out⟩, ?_⟩
            simp [intOf]; omega
          · have he := HNS.out hpk
            have HE := Lib.hid he
            clear he HYS HNS hpk
            go_wp2_with fail
            refine HPP.out.mono ?_
            rintro e w2 ⟨⟨AX2, cX2, AE2, cE2, AH2, cH2⟩, rfl, X2⟩
            dsimp only [preW]
            have HX2 := Lib.hid (HXK.out.on X2.bel)
            clear a0 a1 a2 a3 a4 a5 a6 a7 a8 q0 q1 q2 hz1 hz2 HXK HPP X2
            go_wp2_with fail
            refine ⟨⟨u + 1, A2, c2, by omega, by go_num, by rw [HE.out], by rw [HE.out]; exact HX2.out.alloc _⟩, ?_⟩
            simp [intOf]; omega
        · have eu : u = N := by omega
          subst eu
          go_wp2_with fail
          go_ret2
          exact ⟨A1, c1, A2, c2, rfl, HXK.out.low HB1.out.size HB1.out⟩

end Go.Proofs.Ytgjokddcaadjdaa
