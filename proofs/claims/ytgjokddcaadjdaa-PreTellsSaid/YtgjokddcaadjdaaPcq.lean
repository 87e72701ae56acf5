/- PreTells: the document's own tail of an arc, who is active, and may an arc be pushed. PreTells: the document's own Copy; a state copied, and compared. PreTells: a state copied, and compared. -/
import Derived.Test.YtgjokddcaadjdaaLifo
import Derived.Test.YtgjokddcaadjdaaMayo
import Derived.Test.YtgjokddcaadjdaaLongc
/-! Ptl -/
namespace Go.Proofs.Ytgjokddcaadjdaa
open Go.RowKit
set_option maxRecDepth 100000

set_option maxHeartbeats 2000000 in
theorem rtail_is (N M s t a : Nat) (K : CsrS) (fst hd rv : Nat → Nat) (w : World) (hG : Grid N M fst hd rv) (hI : GridIn w w.heap.size N M K fst hd rv) (ha : a < M) (hN : N ≤ 4096) :
    Calls Try.prog 47 #[csrW N M s t K, .int .i64 (a : Int)] w fun e w' => e = .returned (.int .i64 (hd (rv a) : Int)) ∧ Below w.heap.size w w' := by
  obtain ⟨h1, h2, h3⟩ := hG.row ha
  obtain ⟨u, hu⟩ : ∃ u, hd (rv a) = u := ⟨_, rfl⟩
  rw [hu] at h1 h2 h3 ⊢
  have hmo := fun v (h : v < u) => hG.monoN (i := v + 1) (j := u) (by omega) (by omega)
  have hm2 := fun v (h : v ≤ u) => hG.monoN (i := v) (j := u) h (by omega)
  have hfl := fun v (h : v ≤ N) => hG.fle (v := v) h
  have HMO := Lib.hid hmo; have HM2 := Lib.hid hm2; have HFL := Lib.hid hfl
  clear hmo hm2 hu hG hfl
  obtain ⟨bF, oF, hF⟩ := hI.iF.adr (by omega)
  have hiF := hI.iF
  obtain ⟨AF, cF, AH, cH, AR, cR, AC, cC, AA, cA, AB, cB⟩ := K
  dsimp only [csrW] at hF hiF ⊢
  subst hF
  obtain ⟨w1, hw1⟩ : ∃ w1, w.alloc (.cells #[.int .i64 (N : Int), .int .i64 (s : Int), .int .i64 (t : Int), .slice (some ⟨bF, oF, none⟩) (N + 1) cF, .slice AH M cH, .slice AR M cR, .slice AC M cC, .slice AA M cA, .slice AB M cB] 32) = w1 := ⟨_, rfl⟩
  have B1 : Below w.heap.size w w1 := by rw [← hw1]; exact below_alloc _
  have C1 : Blk w1 w.heap.size 32 #[.int .i64 (N : Int), .int .i64 (s : Int), .int .i64 (t : Int), .slice (some ⟨bF, oF, none⟩) (N + 1) cF, .slice AH M cH, .slice AR M cR, .slice AC M cC, .slice AA M cA, .slice AB M cB] := by rw [← hw1]; exact Blk.new rfl
  have hiF1 := hiF.on B1
  have HIF := Lib.hid hiF1; have HB1 := Lib.hid B1
  obtain ⟨a0, a1, a2, a3, a4, a5, a6, a7, a8⟩ := C1.at9
  have hz1 := C1.lt
  clear hI hiF hiF1 B1 C1
  go_enter Try.func47, Try.ntmps47
  go_wp2_with fail
  clear hw1
  go_loopw [5] (fun i wr => ∃ v : Nat, v ≤ u ∧ i = .int .i64 v ∧ wr = w1) (fun i _ => u + 1 - (intOf i).toNat)
  case atStart => exact ⟨0, Nat.zero_le _, rfl, rfl⟩
  case round =>
    obtain ⟨v, hv, rfl, rfl⟩ := hrel
    obtain ⟨hb0, c0⟩ := tab_cell HIF.out (k := v) (by omega)
    obtain ⟨-, c1⟩ := tab_cell HIF.out (k := v + 1) (by omega)
    have g0 := HM2.out v hv
    have g1 := HFL.out (v + 1) (by omega)
    obtain ⟨x, hx⟩ : ∃ x, fst v = x := ⟨_, rfl⟩
    obtain ⟨y, hy⟩ : ∃ y, fst (v + 1) = y := ⟨_, rfl⟩
    rw [hx] at c0 g0
    by_cases hlt : v < u
    · have g2 := HMO.out v hlt
      rw [hy] at c1 g1 g2
      clear hx hy
      have e1 : (x : Int) ≤ (a : Int) := by omega
      have e2 : ¬ (a : Int) < (y : Int) := by omega
      go_wp2_with fail
      refine ⟨⟨v + 1, by omega, by go_num, trivial⟩, ?_⟩
      simp [intOf]; omega
    · have e : v = u := by omega
      subst e
      rw [hy] at c1 g1 h2
      clear hx hy
      have e1 : (x : Int) ≤ (a : Int) := by omega
      have e2 : (a : Int) < (y : Int) := by omega
      go_wp2_with fail
      go_ret
      exact ⟨rfl, HB1.out⟩

set_option maxHeartbeats 4000000 in
theorem ractive_is (N M s t : Nat) (K : CsrS) (Q : PreS) (X E H : List Int) (w : World) (hQ : StIn w w.heap.size M N N Q X E H) (hN : N ≤ 4096) (hN0 : 0 < N) :
    Calls Try.prog 21 #[csrW N M s t K, preW M N N Q] w (RetSel (selTo (actB s t E) N) w) := by
  obtain ⟨bE, oE, hEa⟩ := hQ.iE.adr hN0
  have hiE := hQ.iE
  obtain ⟨AF, cF, AH, cH, AR, cR, AC, cC, AA, cA, AB, cB⟩ := K
  obtain ⟨AX, cX, AE, cE, AHH, cHH⟩ := Q
  dsimp only [csrW, preW] at hEa hiE ⊢
  subst hEa
  obtain ⟨w1, hw1⟩ : ∃ w1, (w.alloc (.cells #[.int .i64 (N : Int), .int .i64 (s : Int), .int .i64 (t : Int), .slice AF (N + 1) cF, .slice AH M cH, .slice AR M cR, .slice AC M cC, .slice AA M cA, .slice AB M cB] 32)).alloc (.cells #[.slice AX M cX, .slice (some ⟨bE, oE, none⟩) N cE, .slice AHH N cHH] 29) = w1 := ⟨_, rfl⟩
  have B1 : Below w.heap.size w w1 := by rw [← hw1]; exact (below_alloc _).alloc (by simp) _
  have C1 : Blk w1 w.heap.size 32 #[.int .i64 (N : Int), .int .i64 (s : Int), .int .i64 (t : Int), .slice AF (N + 1) cF, .slice AH M cH, .slice AR M cR, .slice AC M cC, .slice AA M cA, .slice AB M cB] := by rw [← hw1]; exact (Blk.new rfl).alloc _
  have P1 : Blk w1 (w.heap.size + 1) 29 #[.slice AX M cX, .slice (some ⟨bE, oE, none⟩) N cE, .slice AHH N cHH] := by rw [← hw1]; exact Blk.new (by simp)
  have HIE := Lib.hid (hiE.on B1); have HB1 := Lib.hid B1; have HC1 := Lib.hid C1; have HP1 := Lib.hid P1
  have X0 : Hx w1 w1 w1.heap.size [⟨3, none, 0, 0, []⟩] := (Hx.start rfl).nil _
  have HX0 := Lib.hid X0
  have hEl := hiE.len
  clear hQ hiE B1 C1 P1 X0
  go_enter Try.func21, Try.ntmps21
  go_wp2_with fail
  clear hw1
  go_loopw [5, 6] (fun q i wr => ∃ (k : Nat) (AQ : Option Addr) (cQ : Nat), k ≤ N ∧ i = .int .i64 k ∧ q = .slice AQ (selTo (actB s t E) k).length cQ ∧ Hx w1 wr w1.heap.size [⟨3, AQ, (selTo (actB s t E) k).length, cQ, nvs (selTo (actB s t E) k)⟩]) (fun _ i _ => N - (intOf i).toNat)
  case atStart => exact ⟨0, none, 0, Nat.zero_le _, rfl, rfl, HX0.out⟩
  case round =>
    clear HX0
    obtain ⟨k, AQ, cQ, hk, rfl, rfl, HH⟩ := hrel
    have C2 := HC1.out.below HH.bel HC1.out.lt; have P2 := HP1.out.below HH.bel HP1.out.lt
    obtain ⟨a0, a1, a2, a3, a4, a5, a6, a7, a8⟩ := C2.at9
    obtain ⟨⟨p0, p1, p2⟩, -, hz2⟩ := P2.full3
    have hz1 := C2.lt
    have hsl := sel_len (actB s t E) k
    by_cases hlt : k < N
    · obtain ⟨hbE, ce⟩ := (HIE.out.on HH.bel).cel (hOf_get hEl hlt)
      have hys := fun h => sel_yes (p := actB s t E) (k := k) h
      have hns := fun h => sel_no (p := actB s t E) (k := k) h
      have hac := act_iff (s := s) (t := t) (E := E) (v := k)
      obtain ⟨y, hy⟩ : ∃ y, hOf E k = y := ⟨_, rfl⟩
      rw [hy] at hac ce
      have HYS := Lib.hid hys; have HNS := Lib.hid hns; have HAC := Lib.hid hac; have HXK := Lib.hid HH
      clear hy hys hns hac HH C2 P2
      have done : actB s t E k = false → ∀ (A : Option Addr) (c : Nat) (wr : World), Hx w1 wr w1.heap.size [⟨3, A, (selTo (actB s t E) k).length, c, nvs (selTo (actB s t E) k)⟩] → Hx w1 wr w1.heap.size [⟨3, A, (selTo (actB s t E) (k + 1)).length, c, nvs (selTo (actB s t E) (k + 1))⟩] := fun h A c wr hx => by rw [HNS.out h]; exact hx
      have HDN := Lib.hid done
      clear done
      by_cases h1 : k = s
      · subst h1
        have hf : actB k t E k = false := by rw [← Bool.not_eq_true, HAC.out]; exact fun h => h.1 rfl
        have HF := Lib.hid hf
        clear hf
        go_wp2_with fail
        refine ⟨⟨k + 1, AQ, cQ, by omega, by go_num, by rw [HNS.out HF.out], HDN.out HF.out _ _ _ HXK.out⟩, ?_⟩
        simp [intOf]; omega
      · have h1' : ¬ (k : Int) = (s : Int) := by omega
        have h1b : ((k : Int) != (s : Int)) = true := by simpa using h1'
        by_cases h2 : k = t
        · subst h2
          have hf : actB s k E k = false := by rw [← Bool.not_eq_true, HAC.out]; exact fun h => h.2.1 rfl
          have HF := Lib.hid hf
          clear hf
          go_wp2_with fail
          refine ⟨⟨k + 1, AQ, cQ, by omega, by go_num, by rw [HNS.out HF.out], HDN.out HF.out _ _ _ HXK.out⟩, ?_⟩
          simp [intOf]; omega
        · have h2' : ¬ (k : Int) = (t : Int) := by omega
          have h2b : ((k : Int) != (t : Int)) = true := by simpa using h2'
          by_cases h3 : 0 < y
          · have hf : actB s t E k = true := HAC.out.2 ⟨h1, h2, h3⟩
            have he := HYS.out hf
            have hel : (selTo (actB s t E) k).length + 1 = (selTo (actB s t E) (k + 1)).length := by rw [he, List.length_append]; rfl
            have HE' := Lib.hid he; have HEL := Lib.hid hel
            clear hf he hel
            go_wp2_with (at_builtin; refine wp_appH HXK.out rfl _ _ _ _ _ rfl one_int.wide 0 (selTo (actB s t E) k).length cQ AQ _ (.int .i64 (k : Int)) rfl rfl rfl rfl (by omega) (by simp) ?_)
            intro A4 c4 w4 HX4 HB4
            have H4 : Hid (Hx w1 w4 w1.heap.size [⟨3, A4, (selTo (actB s t E) (k + 1)).length, c4, nvs (selTo (actB s t E) (k + 1))⟩]) := by
              have h := HX4.out
              rw [HEL.out] at h
              have e : nvs (selTo (actB s t E) (k + 1)) = nvs (selTo (actB s t E) k) ++ [.int .i64 (k : Int)] := by rw [HE'.out]; simp [nvs]
              rw [e]
              exact Lib.hid h
            rw [HEL.out]
            clear HX4 HB4 a0 a1 a2 a3 a4 a5 a6 a7 a8 p0 p1 p2 hz1 hz2 ce
            go_wp2_with fail
            refine ⟨⟨k + 1, A4, c4, by omega, by go_num, rfl, H4.out⟩, ?_⟩
            simp [intOf]; omega
          · have hf : actB s t E k = false := by rw [← Bool.not_eq_true, HAC.out]; exact fun h => h3 h.2.2
            have HF := Lib.hid hf
            clear hf
            go_wp2_with fail
            refine ⟨⟨k + 1, AQ, cQ, by omega, by go_num, by rw [HNS.out HF.out], HDN.out HF.out _ _ _ HXK.out⟩, ?_⟩
            simp [intOf]; omega
    · have ek : k = N := by omega
      subst ek
      go_wp2_with fail
      go_ret
      exact ⟨AQ, cQ, rfl, own_base (HH.held.own 0 _ rfl) HB1.out.size, below_step HB1.out HH.bel⟩

set_option maxHeartbeats 4000000 in
theorem rpushes_is (N M s t a : Nat) (K : CsrS) (Q : PreS) (fst hd rv : Nat → Nat) (X E H : List Int) (w : World) (hG : Grid N M fst hd rv) (hI : GridIn w w.heap.size N M K fst hd rv) (hQ : StIn w w.heap.size M N N Q X E H) (ha : a < M) (hM : M ≤ 100000000) (hN : N ≤ 4096) (hb : ∀ v, v < N → 0 ≤ hOf H v ∧ hOf H v < 2 * N) :
    Calls Try.prog 56 #[csrW N M s t K, preW M N N Q, .int .i64 (a : Int)] w fun e w' => e = .returned (.bool (actB s t E (hd (rv a)) && admB hd rv X H a)) ∧ Below w.heap.size w w' := by
  have htl := fun W (hb : Below w.heap.size w W) => rtail_is N M s t a K fst hd rv W hG (hI.on hb) ha hN
  have huN := (hG.row ha).2.2
  have hvN := hG.hdl a ha
  have hac := act_iff (s := s) (t := t) (E := E) (v := hd (rv a))
  have had := adm_iff (hd := hd) (rv := rv) (X := X) (H := H) (a := a)
  obtain ⟨r, hr⟩ : ∃ r, (actB s t E (hd (rv a)) && admB hd rv X H a) = r := ⟨_, rfl⟩
  have hrt : r = true ↔ (hd (rv a) ≠ s ∧ hd (rv a) ≠ t ∧ 0 < hOf E (hd (rv a))) ∧ 0 < hOf X a ∧ hOf H (hd (rv a)) = hOf H (hd a) + 1 := by rw [← hr, Bool.and_eq_true, hac, had]
  rw [hr]
  obtain ⟨u, hu⟩ : ∃ u, hd (rv a) = u := ⟨_, rfl⟩
  obtain ⟨v, hv⟩ : ∃ v, hd a = v := ⟨_, rfl⟩
  rw [hu] at huN htl hrt
  rw [hv] at hvN hrt
  have HRT0 := Lib.hid hrt; have HVV := Lib.hid hv
  obtain ⟨bE, oE, hEa⟩ := hQ.iE.adr (by omega)
  obtain ⟨bX, oX, hXa⟩ := hQ.iX.adr (by omega)
  obtain ⟨bH, oH, hHa⟩ := hQ.iH.adr (by omega)
  obtain ⟨bD, oD, hDa⟩ := hI.iH.adr (by omega)
  have hiE := hQ.iE; have hiX := hQ.iX; have hiH := hQ.iH; have hiD := hI.iH
  have hEl := hQ.iE.len; have hXl := hQ.iX.len; have hHl := hQ.iH.len
  have HTL := Lib.hid htl
  obtain ⟨AF, cF, AH, cH, AR, cR, AC, cC, AA, cA, AB, cB⟩ := K
  obtain ⟨AX, cX, AE, cE, AHH, cHH⟩ := Q
  dsimp only [csrW, preW] at hEa hXa hHa hDa hiE hiX hiH hiD HTL ⊢
  subst hEa; subst hXa; subst hHa; subst hDa
  obtain ⟨w1, hw1⟩ : ∃ w1, (w.alloc (.cells #[.int .i64 (N : Int), .int .i64 (s : Int), .int .i64 (t : Int), .slice AF (N + 1) cF, .slice (some ⟨bD, oD, none⟩) M cH, .slice AR M cR, .slice AC M cC, .slice AA M cA, .slice AB M cB] 32)).alloc (.cells #[.slice (some ⟨bX, oX, none⟩) M cX, .slice (some ⟨bE, oE, none⟩) N cE, .slice (some ⟨bH, oH, none⟩) N cHH] 29) = w1 := ⟨_, rfl⟩
  have B1 : Below w.heap.size w w1 := by rw [← hw1]; exact (below_alloc _).alloc (by simp) _
  have C1 : Blk w1 w.heap.size 32 #[.int .i64 (N : Int), .int .i64 (s : Int), .int .i64 (t : Int), .slice AF (N + 1) cF, .slice (some ⟨bD, oD, none⟩) M cH, .slice AR M cR, .slice AC M cC, .slice AA M cA, .slice AB M cB] := by rw [← hw1]; exact (Blk.new rfl).alloc _
  have P1 : Blk w1 (w.heap.size + 1) 29 #[.slice (some ⟨bX, oX, none⟩) M cX, .slice (some ⟨bE, oE, none⟩) N cE, .slice (some ⟨bH, oH, none⟩) N cHH] := by rw [← hw1]; exact Blk.new (by simp)
  obtain ⟨a0, a1, a2, a3, a4, a5, a6, a7, a8⟩ := C1.at9
  obtain ⟨⟨p0, p1, p2⟩, -, hz2⟩ := P1.full3
  have hz1 := C1.lt
  have HIE := Lib.hid hiE; have HIX := Lib.hid hiX; have HIH := Lib.hid hiH; have HID := Lib.hid hiD; have HB1 := Lib.hid B1; have HC1 := Lib.hid C1; have HP1 := Lib.hid P1; have HHB := Lib.hid hb
  clear hac had hr hu hv hrt hG hI hQ htl hiE hiX hiH hiD B1 C1 P1 hb
  go_enter Try.func56, Try.ntmps56
  go_wp2_with fail
  refine (HTL.out _ HB1.out).mono ?_
  rintro e w2 ⟨rfl, B2⟩
  clear hw1 a0 a1 a2 a3 a4 a5 a6 a7 a8 p0 p1 p2 hz1 hz2
  have C2 := HC1.out.below B2 HC1.out.lt; have P2 := HP1.out.below B2 HP1.out.lt
  have Bw2 := below_step HB1.out B2
  obtain ⟨a0, a1, a2, a3, a4, a5, a6, a7, a8⟩ := C2.at9
  obtain ⟨⟨p0, p1, p2⟩, -, hz2⟩ := P2.full3
  have hz1 := C2.lt
  have hb1 := HHB.out _ hvN
  obtain ⟨hbE, ce⟩ := (HIE.out.on Bw2).cel (hOf_get hEl huN)
  obtain ⟨hbX, cx⟩ := (HIX.out.on Bw2).cel (hOf_get hXl ha)
  obtain ⟨hbH, ch⟩ := (HIH.out.on Bw2).cel (hOf_get hHl huN)
  obtain ⟨-, ch2⟩ := (HIH.out.on Bw2).cel (hOf_get hHl hvN)
  obtain ⟨hbD, cd⟩ := tab_cell (HID.out.on Bw2) ha
  rw [HVV.out] at cd
  have hrt := HRT0.out
  obtain ⟨ye, hye⟩ : ∃ y, hOf E u = y := ⟨_, rfl⟩
  obtain ⟨yx, hyx⟩ : ∃ y, hOf X a = y := ⟨_, rfl⟩
  obtain ⟨yu, hyu⟩ : ∃ y, hOf H u = y := ⟨_, rfl⟩
  obtain ⟨yv, hyv⟩ : ∃ y, hOf H v = y := ⟨_, rfl⟩
  rw [hye] at ce hrt; rw [hyx] at cx hrt; rw [hyu] at ch hrt; rw [hyv] at ch2 hrt hb1
  have hwr : IntKind.i64.wrap (yv + 1) = yv + 1 := wrap_in (by omega) (by omega)
  have HRT := Lib.hid hrt; have HB2 := Lib.hid Bw2
  clear hye hyx hyu hyv hrt Bw2 B2 C2 P2 hb1
  by_cases h1 : u = s
  · have hf : r = false := by rw [← Bool.not_eq_true, HRT.out]; exact fun h => h.1.1 h1
    have HR := Lib.hid hf.symm
    subst h1
    clear hf
    go_wp2_with fail
    go_quiet (fail)
    go_wp2_with fail
    go_ret
    exact ⟨ret_bool (HR.out ▸ rfl), below_drewN' HB2.out _⟩
  · have h1' : ¬ (u : Int) = (s : Int) := by omega
    have h1b : ((u : Int) != (s : Int)) = true := by simpa using h1'
    by_cases h2 : u = t
    · have hf : r = false := by rw [← Bool.not_eq_true, HRT.out]; exact fun h => h.1.2.1 h2
      have HR := Lib.hid hf.symm
      subst h2
      clear hf
      go_wp2_with fail
      go_quiet (fail)
      go_wp2_with fail
      go_ret
      exact ⟨ret_bool (HR.out ▸ rfl), below_drewN' HB2.out _⟩
    · have h2' : ¬ (u : Int) = (t : Int) := by omega
      have h2b : ((u : Int) != (t : Int)) = true := by simpa using h2'
      by_cases h3 : 0 < ye
      · have h3b : decide (0 < ye) = true := decide_eq_true h3
        by_cases h4 : 0 < yx
        · have h4b : decide (0 < yx) = true := decide_eq_true h4
          by_cases h5 : yu = yv + 1
          · have hf : r = true := HRT.out.2 ⟨⟨h1, h2, h3⟩, h4, h5⟩
            have HR := Lib.hid hf.symm
            subst h5
            clear hf
            go_wp2_with fail
            go_quiet (fail)
            go_wp2_with fail
            go_ret
            exact ⟨ret_bool (HR.out ▸ rfl), below_drewN' HB2.out _⟩
          · have hf : r = false := by rw [← Bool.not_eq_true, HRT.out]; exact fun h => h5 h.2.2
            have HR := Lib.hid hf.symm
            have h5b : (yu == yv + 1) = false := by simpa using h5
            clear hf
            go_wp2_with fail
            go_quiet (fail)
            go_wp2_with fail
            go_ret
            exact ⟨ret_bool (HR.out ▸ rfl), below_drewN' HB2.out _⟩
        · have h4b : decide (0 < yx) = false := decide_eq_false h4
          have hf : r = false := by rw [← Bool.not_eq_true, HRT.out]; exact fun h => h4 h.2.1
          have HR := Lib.hid hf.symm
          clear hf
          go_wp2_with fail
          go_quiet (fail)
          go_wp2_with fail
          go_ret
          exact ⟨ret_bool (HR.out ▸ rfl), below_drewN' HB2.out _⟩
      · have h3b : decide (0 < ye) = false := decide_eq_false h3
        have hf : r = false := by rw [← Bool.not_eq_true, HRT.out]; exact fun h => h3 h.1.2.2
        have HR := Lib.hid hf.symm
        clear hf
        go_wp2_with fail
        go_quiet (fail)
        go_wp2_with fail
        go_ret
        exact ⟨ret_bool (HR.out ▸ rfl), below_drewN' HB2.out _⟩

end Go.Proofs.Ytgjokddcaadjdaa

/-! Pcp -/
namespace Go.Proofs.Ytgjokddcaadjdaa
open Go.RowKit Go.Shelf
set_option maxRecDepth 100000

/-- append of whatever row to a row of the call's own. -/
theorem wp_appSrcH {P : Program} {ops : Array Oper} {rest : List Oper} {o : Oper} {a : Act} {Q : Exit → Act → World → Prop} {w0 W : World} {base : Nat} {rs : List Rw}
    (C : Hx w0 W base rs) (hgd : o.guard = none) (s x : Operand) (t e : TypeId) (bytes : Nat)
    (ho : o.op = .call { callee := .builtin .append, args := #[s, x], argTypes := #[t, t] }) (E : OneWide P t e bytes)
    (k n c : Nat) (A : Option Addr) (xs : List Value) (hr : rs[k]? = some ⟨e, A, n, c, xs⟩) (hs : a.eval s = .slice A n c) (A2 : Option Addr) (m c2 : Nat) (ys : List Value) (hx : a.eval x = .slice A2 m c2)
    (hsrc : 0 < m → ∃ ad, A2 = some ad ∧ ∀ j u, ys[j]? = some u → W.cell? (ad.add j) = some u) (hyl : ys.length = m) (hy1 : ∀ u ∈ ys, u.oneCell' = true)
    (hn : n + m ≤ 1000000000) (h : ∀ A' c' w', Hid (Hx w0 w' base (rs.set k ⟨e, A', n + m, c', xs ++ ys⟩)) → Hid (∀ b t' cs, Blk W b t' cs → t' ≠ e → Blk w' b t' cs) → wpList P ops Q rest (a.put o.dst (.slice A' (n + m) c')) w') :
    wpList P ops Q (o :: rest) a W := by
  obtain ⟨i, z, hi, hz, h1, h2, h3⟩ := E.info
  have hown : W.ownsRow base e 1 (.slice A n c) n xs := C.held.own k _ hr
  refine wpList_append_row _ hgd s x t ho base e i z 1 bytes E.und hi hz h1 h2 h3 (by omega) A n c xs hs hown A2 m c2 ys hx (by rw [hyl]; omega) hsrc hy1 ?_ ?_ C.bas ?_
  · unfold maxLen; omega
  · have := E.small
    have h4 := Nat.mul_le_mul (show n + m ≤ 1000000000 by omega) this
    omega
  · intro A' c' w' ho' hg hxx
    refine h A' c' w' (Lib.hid ⟨Held.app (r := ⟨e, A, n, c, xs⟩) C.held hr ho'.out hg hxx.out, Nat.le_trans C.bas hg.size, below_grown C.bel hg hown (Nat.le_refl _) C.bas⟩) (Lib.hid fun b t' cs hb ht => hb.grownO hg hown (fun e => ht e.symm))
theorem ints_src {w W : World} {A : Option Addr} {n : Nat} {L : List Int} (h : Ints w w.heap.size A n L) (hb : Below w.heap.size w W) : 0 < n → ∃ ad, A = some ad ∧ ∀ j u, (lvs L)[j]? = some u → W.cell? (ad.add j) = some u := fun hn => by
  have := RdBy.src (int_len L) (h.below hb) hn
  rw [flat_ints] at this
  exact this

set_option maxHeartbeats 4000000 in
theorem rcopy_is (nX nE nH : Nat) (Q : PreS) (X E H : List Int) (w : World) (hQ : StIn w w.heap.size nX nE nH Q X E H) (hX : nX ≤ 1000000000) (hE : nE ≤ 1000000000) (hH : nH ≤ 1000000000) :
    Calls Try.prog 60 #[preW nX nE nH Q] w (RetPre nX nE nH X E H w) := by
  have hl0 := hQ.iX.len; have hl1 := hQ.iE.len; have hl2 := hQ.iH.len
  have hi0 := fun W (hb : Below w.heap.size w W) => ints_src hQ.iX hb
  have hi1 := fun W (hb : Below w.heap.size w W) => ints_src hQ.iE hb
  have hi2 := fun W (hb : Below w.heap.size w W) => ints_src hQ.iH hb
  have HI0 := Lib.hid hi0; have HI1 := Lib.hid hi1; have HI2 := Lib.hid hi2; have HL0 := Lib.hid hl0; have HL1 := Lib.hid hl1; have HL2 := Lib.hid hl2
  clear hi0 hi1 hi2 hQ hl0 hl1 hl2
  obtain ⟨AX, cX, AE, cE, AHH, cHH⟩ := Q
  dsimp only [preW] at HI0 HI1 HI2 ⊢
  obtain ⟨wa, hwa⟩ : ∃ W, ((w.alloc (.cells #[.slice AX nX cX, .slice AE nE cE, .slice AHH nH cHH] 29)).alloc (.cells #[.slice none 0 0, .slice none 0 0, .slice none 0 0] 29)).alloc (.cells #[.slice none 0 0, .slice none 0 0, .slice none 0 0] 29) = W := ⟨_, rfl⟩
  have Ba : Below w.heap.size w wa := by rw [← hwa]; exact ((below_alloc _).alloc (by simp) _).alloc (by simp; omega) _
  have Oa : Blk wa (w.heap.size + 1 + 1) 29 #[.slice none 0 0, .slice none 0 0, .slice none 0 0] := by rw [← hwa]; exact Blk.new (by simp)
  have Ra : Blk wa (w.heap.size + 1) 29 #[.slice none 0 0, .slice none 0 0, .slice none 0 0] := by rw [← hwa]; exact (Blk.new (by simp)).alloc _
  have Pa : Blk wa w.heap.size 29 #[.slice AX nX cX, .slice AE nE cE, .slice AHH nH cHH] := by rw [← hwa]; exact ((Blk.new rfl).alloc _).alloc _
  obtain ⟨w0, hw0⟩ : ∃ W, ((wa.setCell ⟨w.heap.size + 1 + 1, 0, none⟩ (.slice none 0 0)).setCell ⟨w.heap.size + 1 + 1, 1, none⟩ (.slice none 0 0)).setCell ⟨w.heap.size + 1 + 1, 2, none⟩ (.slice none 0 0) = W := ⟨_, rfl⟩
  have B0 : Below w.heap.size w w0 := by rw [← hw0]; exact below_put3 Ba (by omega)
  have HX0 := Lib.hid (nil_st B0 B0.size)
  have HO0 := Lib.hid (show Blk w0 (w.heap.size + 1 + 1) 29 #[.slice none 0 0, .slice none 0 0, .slice none 0 0] by rw [← hw0]; exact Oa.put3)
  have HP0 := Lib.hid (show Blk w0 w.heap.size 29 #[.slice AX nX cX, .slice AE nE cE, .slice AHH nH cHH] by rw [← hw0]; exact Pa.far3 (by omega))
  have HR0 := Lib.hid (show Blk w0 (w.heap.size + 1) 29 #[.slice none 0 0, .slice none 0 0, .slice none 0 0] by rw [← hw0]; exact Ra.far3 (by omega))
  obtain ⟨⟨ha0, ha1, ha2⟩, ⟨hg0, hg1, hg2⟩, hza⟩ := Oa.full3
  obtain ⟨⟨hp0, hp1, hp2⟩, -, hz0⟩ := HP0.out.full3
  obtain ⟨⟨hq0, hq1, hq2⟩, -, hz2⟩ := HO0.out.full3
  have hz1 := hz2
  clear Ba Oa Ra Pa B0
  go_enter Try.func60, Try.ntmps60
  go_wp2_with (at_builtin; refine wp_appSrcH HX0.out rfl _ _ _ _ _ rfl one_long.wide 0 0 0 none [] rfl rfl AX nX cX (lvs X) rfl (HI0.out _ HX0.out.bel) (by simp [HL0.out]) (fun u hu => by obtain ⟨x, _, rfl⟩ := List.mem_map.1 hu; rfl) (by omega) ?_)
  intro B0 d0 v0 hx0 hb0
  have o0 := hb0.out _ _ _ HO0.out (show (29 : TypeId) ≠ 2 by decide); have p0 := hb0.out _ _ _ HP0.out (show (29 : TypeId) ≠ 2 by decide); have r0 := hb0.out _ _ _ HR0.out (show (29 : TypeId) ≠ 2 by decide)
  have hy0 : Hx w v0 w.heap.size (pstR nX 0 0 ⟨B0, d0, none, 0, none, 0⟩ X [] []) := by
    have h := hx0.out
    simpa [pstR] using h
  obtain ⟨w1, hw1⟩ : ∃ W, v0.setCell ⟨w.heap.size + 1 + 1, 0, none⟩ (.slice B0 nX d0) = W := ⟨_, rfl⟩
  have HX1 := Lib.hid (show Hx w w1 w.heap.size (pstR nX 0 0 ⟨B0, d0, none, 0, none, 0⟩ X [] []) by rw [← hw1]; exact hy0.far o0 pst_ne (by omega) 0 (.slice B0 nX d0))
  have HO1 := Lib.hid (show Blk w1 (w.heap.size + 1 + 1) 29 #[.slice B0 nX d0, .slice none 0 0, .slice none 0 0] by rw [← hw1]; exact o0.set 0 (.slice B0 nX d0))
  have HP1 := Lib.hid (show Blk w1 w.heap.size 29 #[.slice AX nX cX, .slice AE nE cE, .slice AHH nH cHH] by rw [← hw1]; exact p0.far (p := ⟨w.heap.size + 1 + 1, 0, none⟩) (by simp; omega) (.slice B0 nX d0))
  have HR1 := Lib.hid (show Blk w1 (w.heap.size + 1) 29 #[.slice none 0 0, .slice none 0 0, .slice none 0 0] by rw [← hw1]; exact r0.far (p := ⟨w.heap.size + 1 + 1, 0, none⟩) (by simp) (.slice B0 nX d0))
  try rw [Nat.zero_add]
  clear hp0 hp1 hp2 hq0 hq1 hq2 hz0 hz1 hz2
  obtain ⟨⟨hq0, hq1, hq2⟩, ⟨hf0, hf1, hf2⟩, hz2⟩ := o0.full3
  clear hx0 hb0 o0 p0 r0 hy0
  obtain ⟨⟨hp0, hp1, hp2⟩, -, hz0⟩ := HP1.out.full3
  obtain ⟨⟨hs0, hs1, hs2⟩, -, hz3⟩ := HO1.out.full3
  clear hwa hw0 ha0 ha1 ha2 hg0 hg1 hg2 hza
  have hz1 := hz2
  go_wp2_with (at_builtin; refine wp_appSrcH HX1.out rfl _ _ _ _ _ rfl one_long.wide 1 0 0 none [] rfl rfl AE nE cE (lvs E) rfl (HI1.out _ HX1.out.bel) (by simp [HL1.out]) (fun u hu => by obtain ⟨x, _, rfl⟩ := List.mem_map.1 hu; rfl) (by omega) ?_)
  intro B1 d1 v1 hx1 hb1
  have o1 := hb1.out _ _ _ HO1.out (show (29 : TypeId) ≠ 2 by decide); have p1 := hb1.out _ _ _ HP1.out (show (29 : TypeId) ≠ 2 by decide); have r1 := hb1.out _ _ _ HR1.out (show (29 : TypeId) ≠ 2 by decide)
  have hy1 : Hx w v1 w.heap.size (pstR nX nE 0 ⟨B0, d0, B1, d1, none, 0⟩ X E []) := by
    have h := hx1.out
    simpa [pstR] using h
  obtain ⟨w2, hw2⟩ : ∃ W, v1.setCell ⟨w.heap.size + 1 + 1, 1, none⟩ (.slice B1 nE d1) = W := ⟨_, rfl⟩
  have HX2 := Lib.hid (show Hx w w2 w.heap.size (pstR nX nE 0 ⟨B0, d0, B1, d1, none, 0⟩ X E []) by rw [← hw2]; exact hy1.far o1 pst_ne (by omega) 1 (.slice B1 nE d1))
  have HO2 := Lib.hid (show Blk w2 (w.heap.size + 1 + 1) 29 #[.slice B0 nX d0, .slice B1 nE d1, .slice none 0 0] by rw [← hw2]; exact o1.set 1 (.slice B1 nE d1))
  have HP2 := Lib.hid (show Blk w2 w.heap.size 29 #[.slice AX nX cX, .slice AE nE cE, .slice AHH nH cHH] by rw [← hw2]; exact p1.far (p := ⟨w.heap.size + 1 + 1, 1, none⟩) (by simp; omega) (.slice B1 nE d1))
  have HR2 := Lib.hid (show Blk w2 (w.heap.size + 1) 29 #[.slice none 0 0, .slice none 0 0, .slice none 0 0] by rw [← hw2]; exact r1.far (p := ⟨w.heap.size + 1 + 1, 1, none⟩) (by simp) (.slice B1 nE d1))
  try rw [Nat.zero_add]
  clear hp0 hp1 hp2 hq0 hq1 hq2 hz0 hz1 hz2
  obtain ⟨⟨hq0, hq1, hq2⟩, ⟨hf0, hf1, hf2⟩, hz2⟩ := o1.full3
  clear hx1 hb1 o1 p1 r1 hy1
  obtain ⟨⟨hp0, hp1, hp2⟩, -, hz0⟩ := HP2.out.full3
  obtain ⟨⟨hs0, hs1, hs2⟩, -, hz3⟩ := HO2.out.full3
  clear hw1
  have hz1 := hz2
  go_wp2_with (at_builtin; refine wp_appSrcH HX2.out rfl _ _ _ _ _ rfl one_int.wide 2 0 0 none [] rfl rfl AHH nH cHH (lvs H) rfl (HI2.out _ HX2.out.bel) (by simp [HL2.out]) (fun u hu => by obtain ⟨x, _, rfl⟩ := List.mem_map.1 hu; rfl) (by omega) ?_)
  intro B2 d2 v2 hx2 hb2
  have o2 := hb2.out _ _ _ HO2.out (show (29 : TypeId) ≠ 3 by decide); have p2 := hb2.out _ _ _ HP2.out (show (29 : TypeId) ≠ 3 by decide); have r2 := hb2.out _ _ _ HR2.out (show (29 : TypeId) ≠ 3 by decide)
  have hy2 : Hx w v2 w.heap.size (pstR nX nE nH ⟨B0, d0, B1, d1, B2, d2⟩ X E H) := by
    have h := hx2.out
    simpa [pstR] using h
  obtain ⟨w3, hw3⟩ : ∃ W, v2.setCell ⟨w.heap.size + 1 + 1, 2, none⟩ (.slice B2 nH d2) = W := ⟨_, rfl⟩
  have HX3 := Lib.hid (show Hx w w3 w.heap.size (pstR nX nE nH ⟨B0, d0, B1, d1, B2, d2⟩ X E H) by rw [← hw3]; exact hy2.far o2 pst_ne (by omega) 2 (.slice B2 nH d2))
  have HO3 := Lib.hid (show Blk w3 (w.heap.size + 1 + 1) 29 #[.slice B0 nX d0, .slice B1 nE d1, .slice B2 nH d2] by rw [← hw3]; exact o2.set 2 (.slice B2 nH d2))
  have HP3 := Lib.hid (show Blk w3 w.heap.size 29 #[.slice AX nX cX, .slice AE nE cE, .slice AHH nH cHH] by rw [← hw3]; exact p2.far (p := ⟨w.heap.size + 1 + 1, 2, none⟩) (by simp; omega) (.slice B2 nH d2))
  have HR3 := Lib.hid (show Blk w3 (w.heap.size + 1) 29 #[.slice none 0 0, .slice none 0 0, .slice none 0 0] by rw [← hw3]; exact r2.far (p := ⟨w.heap.size + 1 + 1, 2, none⟩) (by simp) (.slice B2 nH d2))
  try rw [Nat.zero_add]
  clear hp0 hp1 hp2 hq0 hq1 hq2 hz0 hz1 hz2
  obtain ⟨⟨hq0, hq1, hq2⟩, ⟨hf0, hf1, hf2⟩, hz2⟩ := o2.full3
  clear hx2 hb2 o2 p2 r2 hy2
  obtain ⟨⟨hp0, hp1, hp2⟩, -, hz0⟩ := HP3.out.full3
  obtain ⟨⟨hs0, hs1, hs2⟩, -, hz3⟩ := HO3.out.full3
  clear hw2
  obtain ⟨⟨hr0, hr1, hr2⟩, ⟨he0, he1, he2⟩, hz4⟩ := HR3.out.full3
  go_wp2_with fail
  have K9 := HR3.out.put3 (x := .slice B0 nX d0) (y := .slice B1 nE d1) (z := .slice B2 nH d2)
  have X9 := HX3.out.put3 (x := .slice B0 nX d0) (y := .slice B1 nE d1) (z := .slice B2 nH d2) HR3.out pst_ne (by omega)
  obtain ⟨⟨q0, q1, q2⟩, -, -⟩ := K9.full3
  dsimp only [put3] at q0 q1 q2 X9
  refine bodyPost_ret (v := .agg #[.slice B0 nX d0, .slice B1 nE d1, .slice B2 nH d2]) (by simp [results, Try.results60, go_sem, q0, q1, q2]) rfl ⟨⟨B0, d0, B1, d1, B2, d2⟩, rfl, X9⟩

end Go.Proofs.Ytgjokddcaadjdaa

/-! Pcq -/
namespace Go.Proofs.Ytgjokddcaadjdaa
open Go.RowKit Go.Shelf
set_option maxRecDepth 100000

theorem own_empty (t : TypeId) (W : World) (g : Nat) (hg : W.heap.size = g) : (W.alloc (.cells #[] t)).ownsRow W.heap.size t 1 (.slice (some ⟨g, 0, none⟩) 0 0) 0 [] := by
  subst hg
  exact World.ownsRow_made W #[] 0 (Nat.le_refl _) (Nat.zero_le _) rfl
theorem step_appSrcH {P : Program} {ops : Array Oper} {o : Oper} {a : Act} {K : Act → World → Prop} {Q : Exit → Act → World → Prop} {E : Prop} {w0 W : World} {base : Nat} {rs : List Rw}
    (C : Hx w0 W base rs) (hgd : o.guard = none) (s x : Operand) (t e : TypeId) (bytes : Nat)
    (ho : o.op = .call { callee := .builtin .append, args := #[s, x], argTypes := #[t, t] }) (O : OneWide P t e bytes)
    (k n c : Nat) (A : Option Addr) (xs : List Value) (hr : rs[k]? = some ⟨e, A, n, c, xs⟩) (hs : a.eval s = .slice A n c) (A2 : Option Addr) (m c2 : Nat) (ys : List Value) (hx : a.eval x = .slice A2 m c2)
    (hsrc : 0 < m → ∃ ad, A2 = some ad ∧ ∀ j u, ys[j]? = some u → W.cell? (ad.add j) = some u) (hyl : ys.length = m) (hy1 : ∀ u ∈ ys, u.oneCell' = true)
    (hn : n + m ≤ 1000000000) (h : ∀ A' c' w', Hid (Hx w0 w' base (rs.set k ⟨e, A', n + m, c', xs ++ ys⟩)) → Hid (∀ b t' cs, Blk W b t' cs → t' ≠ e → Blk w' b t' cs) → K (a.put o.dst (.slice A' (n + m) c')) w') :
    if Region.wanted o (yielded ops a.tmps) = true then Oper.wp P o a W K Q else E := by
  obtain ⟨i, z, hi, hz, h1, h2, h3⟩ := O.info
  have hown : W.ownsRow base e 1 (.slice A n c) n xs := C.held.own k _ hr
  refine step_append_row W hgd s x t ho base e i z 1 bytes O.und hi hz h1 h2 h3 (by omega) A n c xs hs hown A2 m c2 ys hx (by rw [hyl]; omega) hsrc hy1 ?_ ?_ C.bas ?_
  · unfold maxLen; omega
  · have := O.small
    have h4 := Nat.mul_le_mul (show n + m ≤ 1000000000 by omega) this
    omega
  · intro A' c' w' ho' hg hxx
    refine h A' c' w' (Lib.hid ⟨Held.app (r := ⟨e, A, n, c, xs⟩) C.held hr ho'.out hg hxx.out, Nat.le_trans C.bas hg.size, below_grown C.bel hg hown (Nat.le_refl _) C.bas⟩) (Lib.hid fun b t' cs hb ht => hb.grownO hg hown (fun e => ht e.symm))

set_option maxHeartbeats 16000000 in
theorem copyPre_is (nX nE nH : Nat) (Q : PreS) (X E H : List Int) (w : World) (hQ : StIn w w.heap.size nX nE nH Q X E H) (hX : nX ≤ 1000000000) (hE : nE ≤ 1000000000) (hH : nH ≤ 1000000000) :
    Calls Try.prog 26 #[preW nX nE nH Q] w (RetPre nX nE nH X E H w) := by
  have hl0 := hQ.iX.len; have hl1 := hQ.iE.len; have hl2 := hQ.iH.len
  have hi0 := fun W (hb : Below w.heap.size w W) => ints_src hQ.iX hb
  have hi1 := fun W (hb : Below w.heap.size w W) => ints_src hQ.iE hb
  have hi2 := fun W (hb : Below w.heap.size w W) => ints_src hQ.iH hb
  have HI0 := Lib.hid hi0; have HI1 := Lib.hid hi1; have HI2 := Lib.hid hi2; have HL0 := Lib.hid hl0; have HL1 := Lib.hid hl1; have HL2 := Lib.hid hl2
  clear hi0 hi1 hi2 hQ hl0 hl1 hl2
  obtain ⟨AX, cX, AE, cE, AHH, cHH⟩ := Q
  dsimp only [preW] at HI0 HI1 HI2 ⊢
  obtain ⟨wa, hwa⟩ : ∃ W, ((w.alloc (.cells #[.slice AX nX cX, .slice AE nE cE, .slice AHH nH cHH] 29)).alloc (.cells #[.slice none 0 0, .slice none 0 0, .slice none 0 0] 29)) = W := ⟨_, rfl⟩
  have Ba : Below w.heap.size w wa.drew := by rw [← hwa]; exact ((below_alloc _).alloc (by simp) _).drew
  have HX : Hx w wa.drew w.heap.size (pstR 0 0 0 ⟨none, 0, none, 0, none, 0⟩ [] [] []) := nil_st Ba Ba.size
  have HP : Blk wa.drew w.heap.size 29 #[.slice AX nX cX, .slice AE nE cE, .slice AHH nH cHH] := by rw [← hwa]; exact ((Blk.new rfl).alloc _).drew
  have HR : Blk wa.drew (w.heap.size + 1) 29 #[.slice none 0 0, .slice none 0 0, .slice none 0 0] := by rw [← hwa]; exact (Blk.new (by simp)).drew
  clear Ba
  go_enter Try.func26, Try.ntmps26
  go_wp2_with fail
  clear hwa
  refine wp_region_held_drew (S := fun W' => W'.cell? ⟨w.heap.size, 0, none⟩ = some (.slice AX nX cX) ∧ W'.cell? ⟨w.heap.size, 1, none⟩ = some (.slice AE nE cE) ∧ W'.cell? ⟨w.heap.size, 2, none⟩ = some (.slice AHH nH cHH)) (by kernel_rfl) HP.full3.1 (fun hS0 => ?_)
  obtain ⟨W, hW⟩ : ∃ W, wa.drew = W := ⟨_, rfl⟩
  rw [hW] at HX HP HR hS0 ⊢
  clear hW wa
  refine tk (v := ?_) 1 4 rfl ?_ ?_
  rotate_left
  · (intro W' hSw; obtain ⟨b0, b1, b2⟩ := hSw; go_simp; try with_reducible rfl)
  simp only [Act.put, pa, pz, ps]
  refine tk (v := ?_) 2 5 rfl ?_ ?_
  rotate_left
  · (intro W' hSw; obtain ⟨b0, b1, b2⟩ := hSw; go_simp; try with_reducible rfl)
  simp only [Act.put, pa, pz, ps]
  refine tk (v := ?_) 5 8 rfl ?_ ?_
  rotate_left
  · (intro W' hSw; obtain ⟨b0, b1, b2⟩ := hSw; go_simp; try with_reducible rfl)
  simp only [Act.put, pa, pz, ps]
  refine tk (v := ?_) 6 9 rfl ?_ ?_
  rotate_left
  · (intro W' hSw; obtain ⟨b0, b1, b2⟩ := hSw; go_simp; try with_reducible rfl)
  simp only [Act.put, pa, pz, ps]
  refine tk (v := ?_) 9 12 rfl ?_ ?_
  rotate_left
  · (intro W' hSw; obtain ⟨b0, b1, b2⟩ := hSw; go_simp; try with_reducible rfl)
  simp only [Act.put, pa, pz, ps]
  refine tk (v := ?_) 10 13 rfl ?_ ?_
  rotate_left
  · (intro W' hSw; obtain ⟨b0, b1, b2⟩ := hSw; go_simp; try with_reducible rfl)
  simp only [Act.put, pa, pz, ps]
  refine (have t222 : Hid ?Tt222 := ?pt222; ?mt222)
  case mt222 =>
   refine (have t221 : Hid ?Tt221 := ?pt221; ?mt221)
   case mt221 =>
    refine (have t220 : Hid ?Tt220 := ?pt220; ?mt220)
    case mt220 =>
     refine (have t211 : Hid ?Tt211 := ?pt211; ?mt211)
     case mt211 =>
      refine (have t210 : Hid ?Tt210 := ?pt210; ?mt210)
      case mt210 =>
       refine (have t201 : Hid ?Tt201 := ?pt201; ?mt201)
       case mt201 =>
        refine (have t111 : Hid ?Tt111 := ?pt111; ?mt111)
        case mt111 =>
         refine (have t200 : Hid ?Tt200 := ?pt200; ?mt200)
         case mt200 =>
          refine (have t110 : Hid ?Tt110 := ?pt110; ?mt110)
          case mt110 =>
           refine (have t101 : Hid ?Tt101 := ?pt101; ?mt101)
           case mt101 =>
            refine (have t011 : Hid ?Tt011 := ?pt011; ?mt011)
            case mt011 =>
             refine (have t100 : Hid ?Tt100 := ?pt100; ?mt100)
             case mt100 =>
              refine (have t010 : Hid ?Tt010 := ?pt010; ?mt010)
              case mt010 =>
               refine (have t001 : Hid ?Tt001 := ?pt001; ?mt001)
               case mt001 =>
                refine wpAnyH_ready (rs := [0, 4, 8]) (by kernel_rfl) (by simp) ?_
                refine AllReadyH.cons rfl (fun K hK => ?_) (AllReadyH.cons rfl (fun K hK => ?_) (AllReadyH.cons rfl (fun K hK => ?_) (AllReadyH.nil)))
                · go_simp
                  obtain ⟨g0, hgn⟩ : ∃ g, W.heap.size = g := ⟨_, rfl⟩
                  have HX' := HX.fresh (i := 0) rfl (below_alloc _) (own_empty 2 W g0 hgn)
                  have HP' := HP.alloc (.cells #[] 2)
                  have HR' := HR.alloc (.cells #[] 2)
                  refine hK.out _ _ HP'.full3.1 (fun hSx => ?_)
                  clear hK K hSx
                  try simp only [Act.put, pa, pz, ps]
                  obtain ⟨V, hV⟩ : ∃ V, W.alloc (.cells #[] 2) = V := ⟨_, rfl⟩
                  rw [hV] at HX' HP' HR' ⊢
                  rw [hgn]
                  clear hV hgn
                  obtain ⟨W, rfl⟩ : ∃ W, W = V := ⟨_, rfl⟩
                  have HX := HX'
                  have HP := HP'
                  have HR := HR'
                  clear HX' HP' HR'
                  replace HX : Hx w W w.heap.size [⟨2, some ⟨g0, 0, none⟩, 0, 0, []⟩, ⟨2, none, 0, 0, []⟩, ⟨3, none, 0, 0, []⟩] := HX
                  revert HR
                  revert HP
                  revert HX
                  revert W
                  revert g0
                  exact t100.out
                · go_simp
                  obtain ⟨g1, hgn⟩ : ∃ g, W.heap.size = g := ⟨_, rfl⟩
                  have HX' := HX.fresh (i := 1) rfl (below_alloc _) (own_empty 2 W g1 hgn)
                  have HP' := HP.alloc (.cells #[] 2)
                  have HR' := HR.alloc (.cells #[] 2)
                  refine hK.out _ _ HP'.full3.1 (fun hSx => ?_)
                  clear hK K hSx
                  try simp only [Act.put, pa, pz, ps]
                  obtain ⟨V, hV⟩ : ∃ V, W.alloc (.cells #[] 2) = V := ⟨_, rfl⟩
                  rw [hV] at HX' HP' HR' ⊢
                  rw [hgn]
                  clear hV hgn
                  obtain ⟨W, rfl⟩ : ∃ W, W = V := ⟨_, rfl⟩
                  have HX := HX'
                  have HP := HP'
                  have HR := HR'
                  clear HX' HP' HR'
                  replace HX : Hx w W w.heap.size [⟨2, none, 0, 0, []⟩, ⟨2, some ⟨g1, 0, none⟩, 0, 0, []⟩, ⟨3, none, 0, 0, []⟩] := HX
                  revert HR
                  revert HP
                  revert HX
                  revert W
                  revert g1
                  exact t010.out
                · go_simp
                  obtain ⟨g2, hgn⟩ : ∃ g, W.heap.size = g := ⟨_, rfl⟩
                  have HX' := HX.fresh (i := 2) rfl (below_alloc _) (own_empty 3 W g2 hgn)
                  have HP' := HP.alloc (.cells #[] 3)
                  have HR' := HR.alloc (.cells #[] 3)
                  refine hK.out _ _ HP'.full3.1 (fun hSx => ?_)
                  clear hK K hSx
                  try simp only [Act.put, pa, pz, ps]
                  obtain ⟨V, hV⟩ : ∃ V, W.alloc (.cells #[] 3) = V := ⟨_, rfl⟩
                  rw [hV] at HX' HP' HR' ⊢
                  rw [hgn]
                  clear hV hgn
                  obtain ⟨W, rfl⟩ : ∃ W, W = V := ⟨_, rfl⟩
                  have HX := HX'
                  have HP := HP'
                  have HR := HR'
                  clear HX' HP' HR'
                  replace HX : Hx w W w.heap.size [⟨2, none, 0, 0, []⟩, ⟨2, none, 0, 0, []⟩, ⟨3, some ⟨g2, 0, none⟩, 0, 0, []⟩] := HX
                  revert HR
                  revert HP
                  revert HX
                  revert W
                  revert g2
                  exact t001.out
               case pt001 =>
                refine Lib.hid ?_
                intro g2 W HX HP HR
                refine wpAnyH_ready (rs := [0, 4]) (by kernel_rfl) (by simp) ?_
                refine AllReadyH.cons rfl (fun K hK => ?_) (AllReadyH.cons rfl (fun K hK => ?_) (AllReadyH.nil))
                · go_simp
                  obtain ⟨g0, hgn⟩ : ∃ g, W.heap.size = g := ⟨_, rfl⟩
                  have HX' := HX.fresh (i := 0) rfl (below_alloc _) (own_empty 2 W g0 hgn)
                  have HP' := HP.alloc (.cells #[] 2)
                  have HR' := HR.alloc (.cells #[] 2)
                  refine hK.out _ _ HP'.full3.1 (fun hSx => ?_)
                  clear hK K hSx HX HP HR
                  try simp only [Act.put, pa, pz, ps]
                  obtain ⟨V, hV⟩ : ∃ V, W.alloc (.cells #[] 2) = V := ⟨_, rfl⟩
                  rw [hV] at HX' HP' HR' ⊢
                  rw [hgn]
                  clear hV hgn W
                  obtain ⟨W, rfl⟩ : ∃ W, W = V := ⟨_, rfl⟩
                  have HX := HX'
                  have HP := HP'
                  have HR := HR'
                  clear HX' HP' HR'
                  replace HX : Hx w W w.heap.size [⟨2, some ⟨g0, 0, none⟩, 0, 0, []⟩, ⟨2, none, 0, 0, []⟩, ⟨3, some ⟨g2, 0, none⟩, 0, 0, []⟩] := HX
                  revert HR
                  revert HP
                  revert HX
                  revert W
                  revert g2
                  revert g0
                  exact t101.out
                · go_simp
                  obtain ⟨g1, hgn⟩ : ∃ g, W.heap.size = g := ⟨_, rfl⟩
                  have HX' := HX.fresh (i := 1) rfl (below_alloc _) (own_empty 2 W g1 hgn)
                  have HP' := HP.alloc (.cells #[] 2)
                  have HR' := HR.alloc (.cells #[] 2)
                  refine hK.out _ _ HP'.full3.1 (fun hSx => ?_)
                  clear hK K hSx HX HP HR
                  try simp only [Act.put, pa, pz, ps]
                  obtain ⟨V, hV⟩ : ∃ V, W.alloc (.cells #[] 2) = V := ⟨_, rfl⟩
                  rw [hV] at HX' HP' HR' ⊢
                  rw [hgn]
                  clear hV hgn W
                  obtain ⟨W, rfl⟩ : ∃ W, W = V := ⟨_, rfl⟩
                  have HX := HX'
                  have HP := HP'
                  have HR := HR'
                  clear HX' HP' HR'
                  replace HX : Hx w W w.heap.size [⟨2, none, 0, 0, []⟩, ⟨2, some ⟨g1, 0, none⟩, 0, 0, []⟩, ⟨3, some ⟨g2, 0, none⟩, 0, 0, []⟩] := HX
                  revert HR
                  revert HP
                  revert HX
                  revert W
                  revert g2
                  revert g1
                  exact t011.out
              case pt010 =>
               refine Lib.hid ?_
               intro g1 W HX HP HR
               refine wpAnyH_ready (rs := [0, 8]) (by kernel_rfl) (by simp) ?_
               refine AllReadyH.cons rfl (fun K hK => ?_) (AllReadyH.cons rfl (fun K hK => ?_) (AllReadyH.nil))
               · go_simp
                 obtain ⟨g0, hgn⟩ : ∃ g, W.heap.size = g := ⟨_, rfl⟩
                 have HX' := HX.fresh (i := 0) rfl (below_alloc _) (own_empty 2 W g0 hgn)
                 have HP' := HP.alloc (.cells #[] 2)
                 have HR' := HR.alloc (.cells #[] 2)
                 refine hK.out _ _ HP'.full3.1 (fun hSx => ?_)
                 clear hK K hSx HX HP HR
                 try simp only [Act.put, pa, pz, ps]
                 obtain ⟨V, hV⟩ : ∃ V, W.alloc (.cells #[] 2) = V := ⟨_, rfl⟩
                 rw [hV] at HX' HP' HR' ⊢
                 rw [hgn]
                 clear hV hgn W
                 obtain ⟨W, rfl⟩ : ∃ W, W = V := ⟨_, rfl⟩
                 have HX := HX'
                 have HP := HP'
                 have HR := HR'
                 clear HX' HP' HR'
                 replace HX : Hx w W w.heap.size [⟨2, some ⟨g0, 0, none⟩, 0, 0, []⟩, ⟨2, some ⟨g1, 0, none⟩, 0, 0, []⟩, ⟨3, none, 0, 0, []⟩] := HX
                 revert HR
                 revert HP
                 revert HX
                 revert W
                 revert g1
                 revert g0
                 exact t110.out
               · go_simp
                 obtain ⟨g2, hgn⟩ : ∃ g, W.heap.size = g := ⟨_, rfl⟩
                 have HX' := HX.fresh (i := 2) rfl (below_alloc _) (own_empty 3 W g2 hgn)
                 have HP' := HP.alloc (.cells #[] 3)
                 have HR' := HR.alloc (.cells #[] 3)
                 refine hK.out _ _ HP'.full3.1 (fun hSx => ?_)
                 clear hK K hSx HX HP HR
                 try simp only [Act.put, pa, pz, ps]
                 obtain ⟨V, hV⟩ : ∃ V, W.alloc (.cells #[] 3) = V := ⟨_, rfl⟩
                 rw [hV] at HX' HP' HR' ⊢
                 rw [hgn]
                 clear hV hgn W
                 obtain ⟨W, rfl⟩ : ∃ W, W = V := ⟨_, rfl⟩
                 have HX := HX'
                 have HP := HP'
                 have HR := HR'
                 clear HX' HP' HR'
                 replace HX : Hx w W w.heap.size [⟨2, none, 0, 0, []⟩, ⟨2, some ⟨g1, 0, none⟩, 0, 0, []⟩, ⟨3, some ⟨g2, 0, none⟩, 0, 0, []⟩] := HX
                 revert HR
                 revert HP
                 revert HX
                 revert W
                 revert g2
                 revert g1
                 exact t011.out
             case pt100 =>
              refine Lib.hid ?_
              intro g0 W HX HP HR
              refine wpAnyH_ready (rs := [3, 4, 8]) (by kernel_rfl) (by simp) ?_
              refine AllReadyH.cons rfl (fun K hK => ?_) (AllReadyH.cons rfl (fun K hK => ?_) (AllReadyH.cons rfl (fun K hK => ?_) (AllReadyH.nil)))
              · refine step_appSrcH HX (by rfl) (.tmp 3) (.tmp 5) _ _ _ (by rfl) one_long.wide 0 0 0 (some ⟨g0, 0, none⟩) [] rfl (by rfl) AX nX cX (lvs X) (by rfl) (HI0.out _ HX.bel) (by simp [HL0.out]) (fun u hu => by obtain ⟨x, _, rfl⟩ := List.mem_map.1 hu; rfl) (by omega) ?_
                intro A0 k0 V HY HB
                have HX' := HY.out
                have HP' := HB.out _ _ _ HP (show (29 : TypeId) ≠ 2 by decide)
                have HR' := HB.out _ _ _ HR (show (29 : TypeId) ≠ 2 by decide)
                refine hK.out _ _ HP'.full3.1 (fun hSx => ?_)
                clear hK K hSx HX HP HR HY HB W
                show wpAnyH _ _ _ _ _ _ _ (Act.put _ (some 6) _) _
                simp only [Act.put, List.setIfInBounds_toArray, List.set_cons_zero, List.set_cons_succ, Nat.zero_add]
                simp only [Nat.zero_add, List.nil_append, List.set_cons_zero] at HX'
                obtain ⟨W, rfl⟩ : ∃ W, W = V := ⟨_, rfl⟩
                have HX := HX'
                have HP := HP'
                have HR := HR'
                clear HX' HP' HR'
                replace HX : Hx w W w.heap.size [⟨2, A0, nX, k0, lvs X⟩, ⟨2, none, 0, 0, []⟩, ⟨3, none, 0, 0, []⟩] := HX
                revert HR
                revert HP
                revert HX
                revert W
                revert k0
                revert A0
                revert g0
                exact t200.out
              · go_simp
                obtain ⟨g1, hgn⟩ : ∃ g, W.heap.size = g := ⟨_, rfl⟩
                have HX' := HX.fresh (i := 1) rfl (below_alloc _) (own_empty 2 W g1 hgn)
                have HP' := HP.alloc (.cells #[] 2)
                have HR' := HR.alloc (.cells #[] 2)
                refine hK.out _ _ HP'.full3.1 (fun hSx => ?_)
                clear hK K hSx HX HP HR
                try simp only [Act.put, pa, pz, ps]
                obtain ⟨V, hV⟩ : ∃ V, W.alloc (.cells #[] 2) = V := ⟨_, rfl⟩
                rw [hV] at HX' HP' HR' ⊢
                rw [hgn]
                clear hV hgn W
                obtain ⟨W, rfl⟩ : ∃ W, W = V := ⟨_, rfl⟩
                have HX := HX'
                have HP := HP'
                have HR := HR'
                clear HX' HP' HR'
                replace HX : Hx w W w.heap.size [⟨2, some ⟨g0, 0, none⟩, 0, 0, []⟩, ⟨2, some ⟨g1, 0, none⟩, 0, 0, []⟩, ⟨3, none, 0, 0, []⟩] := HX
                revert HR
                revert HP
                revert HX
                revert W
                revert g1
                revert g0
                exact t110.out
              · go_simp
                obtain ⟨g2, hgn⟩ : ∃ g, W.heap.size = g := ⟨_, rfl⟩
                have HX' := HX.fresh (i := 2) rfl (below_alloc _) (own_empty 3 W g2 hgn)
                have HP' := HP.alloc (.cells #[] 3)
                have HR' := HR.alloc (.cells #[] 3)
                refine hK.out _ _ HP'.full3.1 (fun hSx => ?_)
                clear hK K hSx HX HP HR
                try simp only [Act.put, pa, pz, ps]
                obtain ⟨V, hV⟩ : ∃ V, W.alloc (.cells #[] 3) = V := ⟨_, rfl⟩
                rw [hV] at HX' HP' HR' ⊢
                rw [hgn]
                clear hV hgn W
                obtain ⟨W, rfl⟩ : ∃ W, W = V := ⟨_, rfl⟩
                have HX := HX'
                have HP := HP'
                have HR := HR'
                clear HX' HP' HR'
                replace HX : Hx w W w.heap.size [⟨2, some ⟨g0, 0, none⟩, 0, 0, []⟩, ⟨2, none, 0, 0, []⟩, ⟨3, some ⟨g2, 0, none⟩, 0, 0, []⟩] := HX
                revert HR
                revert HP
                revert HX
                revert W
                revert g2
                revert g0
                exact t101.out
            case pt011 =>
             refine Lib.hid ?_
             intro g1 g2 W HX HP HR
             refine wpAnyH_ready (rs := [0]) (by kernel_rfl) (by simp) ?_
             refine AllReadyH.cons rfl (fun K hK => ?_) (AllReadyH.nil)
             · go_simp
               obtain ⟨g0, hgn⟩ : ∃ g, W.heap.size = g := ⟨_, rfl⟩
               have HX' := HX.fresh (i := 0) rfl (below_alloc _) (own_empty 2 W g0 hgn)
               have HP' := HP.alloc (.cells #[] 2)
               have HR' := HR.alloc (.cells #[] 2)
               refine hK.out _ _ HP'.full3.1 (fun hSx => ?_)
               clear hK K hSx HX HP HR
               try simp only [Act.put, pa, pz, ps]
               obtain ⟨V, hV⟩ : ∃ V, W.alloc (.cells #[] 2) = V := ⟨_, rfl⟩
               rw [hV] at HX' HP' HR' ⊢
               rw [hgn]
               clear hV hgn W
               obtain ⟨W, rfl⟩ : ∃ W, W = V := ⟨_, rfl⟩
               have HX := HX'
               have HP := HP'
               have HR := HR'
               clear HX' HP' HR'
               replace HX : Hx w W w.heap.size [⟨2, some ⟨g0, 0, none⟩, 0, 0, []⟩, ⟨2, some ⟨g1, 0, none⟩, 0, 0, []⟩, ⟨3, some ⟨g2, 0, none⟩, 0, 0, []⟩] := HX
               revert HR
               revert HP
               revert HX
               revert W
               revert g2
               revert g1
               revert g0
               exact t111.out
           case pt101 =>
            refine Lib.hid ?_
            intro g0 g2 W HX HP HR
            refine wpAnyH_ready (rs := [3, 4]) (by kernel_rfl) (by simp) ?_
            refine AllReadyH.cons rfl (fun K hK => ?_) (AllReadyH.cons rfl (fun K hK => ?_) (AllReadyH.nil))
            · refine step_appSrcH HX (by rfl) (.tmp 3) (.tmp 5) _ _ _ (by rfl) one_long.wide 0 0 0 (some ⟨g0, 0, none⟩) [] rfl (by rfl) AX nX cX (lvs X) (by rfl) (HI0.out _ HX.bel) (by simp [HL0.out]) (fun u hu => by obtain ⟨x, _, rfl⟩ := List.mem_map.1 hu; rfl) (by omega) ?_
              intro A0 k0 V HY HB
              have HX' := HY.out
              have HP' := HB.out _ _ _ HP (show (29 : TypeId) ≠ 2 by decide)
              have HR' := HB.out _ _ _ HR (show (29 : TypeId) ≠ 2 by decide)
              refine hK.out _ _ HP'.full3.1 (fun hSx => ?_)
              clear hK K hSx HX HP HR HY HB W
              show wpAnyH _ _ _ _ _ _ _ (Act.put _ (some 6) _) _
              simp only [Act.put, List.setIfInBounds_toArray, List.set_cons_zero, List.set_cons_succ, Nat.zero_add]
              simp only [Nat.zero_add, List.nil_append, List.set_cons_zero] at HX'
              obtain ⟨W, rfl⟩ : ∃ W, W = V := ⟨_, rfl⟩
              have HX := HX'
              have HP := HP'
              have HR := HR'
              clear HX' HP' HR'
              replace HX : Hx w W w.heap.size [⟨2, A0, nX, k0, lvs X⟩, ⟨2, none, 0, 0, []⟩, ⟨3, some ⟨g2, 0, none⟩, 0, 0, []⟩] := HX
              revert HR
              revert HP
              revert HX
              revert W
              revert g2
              revert k0
              revert A0
              revert g0
              exact t201.out
            · go_simp
              obtain ⟨g1, hgn⟩ : ∃ g, W.heap.size = g := ⟨_, rfl⟩
              have HX' := HX.fresh (i := 1) rfl (below_alloc _) (own_empty 2 W g1 hgn)
              have HP' := HP.alloc (.cells #[] 2)
              have HR' := HR.alloc (.cells #[] 2)
              refine hK.out _ _ HP'.full3.1 (fun hSx => ?_)
              clear hK K hSx HX HP HR
              try simp only [Act.put, pa, pz, ps]
              obtain ⟨V, hV⟩ : ∃ V, W.alloc (.cells #[] 2) = V := ⟨_, rfl⟩
              rw [hV] at HX' HP' HR' ⊢
              rw [hgn]
              clear hV hgn W
              obtain ⟨W, rfl⟩ : ∃ W, W = V := ⟨_, rfl⟩
              have HX := HX'
              have HP := HP'
              have HR := HR'
              clear HX' HP' HR'
              replace HX : Hx w W w.heap.size [⟨2, some ⟨g0, 0, none⟩, 0, 0, []⟩, ⟨2, some ⟨g1, 0, none⟩, 0, 0, []⟩, ⟨3, some ⟨g2, 0, none⟩, 0, 0, []⟩] := HX
              revert HR
              revert HP
              revert HX
              revert W
              revert g2
              revert g1
              revert g0
              exact t111.out
          case pt110 =>
           refine Lib.hid ?_
           intro g0 g1 W HX HP HR
           refine wpAnyH_ready (rs := [3, 8]) (by kernel_rfl) (by simp) ?_
           refine AllReadyH.cons rfl (fun K hK => ?_) (AllReadyH.cons rfl (fun K hK => ?_) (AllReadyH.nil))
           · refine step_appSrcH HX (by rfl) (.tmp 3) (.tmp 5) _ _ _ (by rfl) one_long.wide 0 0 0 (some ⟨g0, 0, none⟩) [] rfl (by rfl) AX nX cX (lvs X) (by rfl) (HI0.out _ HX.bel) (by simp [HL0.out]) (fun u hu => by obtain ⟨x, _, rfl⟩ := List.mem_map.1 hu; rfl) (by omega) ?_
             intro A0 k0 V HY HB
             have HX' := HY.out
             have HP' := HB.out _ _ _ HP (show (29 : TypeId) ≠ 2 by decide)
             have HR' := HB.out _ _ _ HR (show (29 : TypeId) ≠ 2 by decide)
             refine hK.out _ _ HP'.full3.1 (fun hSx => ?_)
             clear hK K hSx HX HP HR HY HB W
             show wpAnyH _ _ _ _ _ _ _ (Act.put _ (some 6) _) _
             simp only [Act.put, List.setIfInBounds_toArray, List.set_cons_zero, List.set_cons_succ, Nat.zero_add]
             simp only [Nat.zero_add, List.nil_append, List.set_cons_zero] at HX'
             obtain ⟨W, rfl⟩ : ∃ W, W = V := ⟨_, rfl⟩
             have HX := HX'
             have HP := HP'
             have HR := HR'
             clear HX' HP' HR'
             replace HX : Hx w W w.heap.size [⟨2, A0, nX, k0, lvs X⟩, ⟨2, some ⟨g1, 0, none⟩, 0, 0, []⟩, ⟨3, none, 0, 0, []⟩] := HX
             revert HR
             revert HP
             revert HX
             revert W
             revert g1
             revert k0
             revert A0
             revert g0
             exact t210.out
           · go_simp
             obtain ⟨g2, hgn⟩ : ∃ g, W.heap.size = g := ⟨_, rfl⟩
             have HX' := HX.fresh (i := 2) rfl (below_alloc _) (own_empty 3 W g2 hgn)
             have HP' := HP.alloc (.cells #[] 3)
             have HR' := HR.alloc (.cells #[] 3)
             refine hK.out _ _ HP'.full3.1 (fun hSx => ?_)
             clear hK K hSx HX HP HR
             try simp only [Act.put, pa, pz, ps]
             obtain ⟨V, hV⟩ : ∃ V, W.alloc (.cells #[] 3) = V := ⟨_, rfl⟩
             rw [hV] at HX' HP' HR' ⊢
             rw [hgn]
             clear hV hgn W
             obtain ⟨W, rfl⟩ : ∃ W, W = V := ⟨_, rfl⟩
             have HX := HX'
             have HP := HP'
             have HR := HR'
             clear HX' HP' HR'
             replace HX : Hx w W w.heap.size [⟨2, some ⟨g0, 0, none⟩, 0, 0, []⟩, ⟨2, some ⟨g1, 0, none⟩, 0, 0, []⟩, ⟨3, some ⟨g2, 0, none⟩, 0, 0, []⟩] := HX
             revert HR
             revert HP
             revert HX
             revert W
             revert g2
             revert g1
             revert g0
             exact t111.out
         case pt200 =>
          refine Lib.hid ?_
          intro g0 A0 k0 W HX HP HR
          refine wpAnyH_ready (rs := [4, 8]) (by kernel_rfl) (by simp) ?_
          refine AllReadyH.cons rfl (fun K hK => ?_) (AllReadyH.cons rfl (fun K hK => ?_) (AllReadyH.nil))
          · go_simp
            obtain ⟨g1, hgn⟩ : ∃ g, W.heap.size = g := ⟨_, rfl⟩
            have HX' := HX.fresh (i := 1) rfl (below_alloc _) (own_empty 2 W g1 hgn)
            have HP' := HP.alloc (.cells #[] 2)
            have HR' := HR.alloc (.cells #[] 2)
            refine hK.out _ _ HP'.full3.1 (fun hSx => ?_)
            clear hK K hSx HX HP HR
            try simp only [Act.put, pa, pz, ps]
            obtain ⟨V, hV⟩ : ∃ V, W.alloc (.cells #[] 2) = V := ⟨_, rfl⟩
            rw [hV] at HX' HP' HR' ⊢
            rw [hgn]
            clear hV hgn W
            obtain ⟨W, rfl⟩ : ∃ W, W = V := ⟨_, rfl⟩
            have HX := HX'
            have HP := HP'
            have HR := HR'
            clear HX' HP' HR'
            replace HX : Hx w W w.heap.size [⟨2, A0, nX, k0, lvs X⟩, ⟨2, some ⟨g1, 0, none⟩, 0, 0, []⟩, ⟨3, none, 0, 0, []⟩] := HX
            revert HR
            revert HP
            revert HX
            revert W
            revert g1
            revert k0
            revert A0
            revert g0
            exact t210.out
          · go_simp
            obtain ⟨g2, hgn⟩ : ∃ g, W.heap.size = g := ⟨_, rfl⟩
            have HX' := HX.fresh (i := 2) rfl (below_alloc _) (own_empty 3 W g2 hgn)
            have HP' := HP.alloc (.cells #[] 3)
            have HR' := HR.alloc (.cells #[] 3)
            refine hK.out _ _ HP'.full3.1 (fun hSx => ?_)
            clear hK K hSx HX HP HR
            try simp only [Act.put, pa, pz, ps]
            obtain ⟨V, hV⟩ : ∃ V, W.alloc (.cells #[] 3) = V := ⟨_, rfl⟩
            rw [hV] at HX' HP' HR' ⊢
            rw [hgn]
            clear hV hgn W
            obtain ⟨W, rfl⟩ : ∃ W, W = V := ⟨_, rfl⟩
            have HX := HX'
            have HP := HP'
            have HR := HR'
            clear HX' HP' HR'
            replace HX : Hx w W w.heap.size [⟨2, A0, nX, k0, lvs X⟩, ⟨2, none, 0, 0, []⟩, ⟨3, some ⟨g2, 0, none⟩, 0, 0, []⟩] := HX
            revert HR
            revert HP
            revert HX
            revert W
            revert g2
            revert k0
            revert A0
            revert g0
            exact t201.out
        case pt111 =>
         refine Lib.hid ?_
         intro g0 g1 g2 W HX HP HR
         refine wpAnyH_ready (rs := [3]) (by kernel_rfl) (by simp) ?_
         refine AllReadyH.cons rfl (fun K hK => ?_) (AllReadyH.nil)
         · refine step_appSrcH HX (by rfl) (.tmp 3) (.tmp 5) _ _ _ (by rfl) one_long.wide 0 0 0 (some ⟨g0, 0, none⟩) [] rfl (by rfl) AX nX cX (lvs X) (by rfl) (HI0.out _ HX.bel) (by simp [HL0.out]) (fun u hu => by obtain ⟨x, _, rfl⟩ := List.mem_map.1 hu; rfl) (by omega) ?_
           intro A0 k0 V HY HB
           have HX' := HY.out
           have HP' := HB.out _ _ _ HP (show (29 : TypeId) ≠ 2 by decide)
           have HR' := HB.out _ _ _ HR (show (29 : TypeId) ≠ 2 by decide)
           refine hK.out _ _ HP'.full3.1 (fun hSx => ?_)
           clear hK K hSx HX HP HR HY HB W
           show wpAnyH _ _ _ _ _ _ _ (Act.put _ (some 6) _) _
           simp only [Act.put, List.setIfInBounds_toArray, List.set_cons_zero, List.set_cons_succ, Nat.zero_add]
           simp only [Nat.zero_add, List.nil_append, List.set_cons_zero] at HX'
           obtain ⟨W, rfl⟩ : ∃ W, W = V := ⟨_, rfl⟩
           have HX := HX'
           have HP := HP'
           have HR := HR'
           clear HX' HP' HR'
           replace HX : Hx w W w.heap.size [⟨2, A0, nX, k0, lvs X⟩, ⟨2, some ⟨g1, 0, none⟩, 0, 0, []⟩, ⟨3, some ⟨g2, 0, none⟩, 0, 0, []⟩] := HX
           revert HR
           revert HP
           revert HX
           revert W
           revert g2
           revert g1
           revert k0
           revert A0
           revert g0
           exact t211.out
       case pt201 =>
        refine Lib.hid ?_
        intro g0 A0 k0 g2 W HX HP HR
        refine wpAnyH_ready (rs := [4]) (by kernel_rfl) (by simp) ?_
        refine AllReadyH.cons rfl (fun K hK => ?_) (AllReadyH.nil)
        · go_simp
          obtain ⟨g1, hgn⟩ : ∃ g, W.heap.size = g := ⟨_, rfl⟩
          have HX' := HX.fresh (i := 1) rfl (below_alloc _) (own_empty 2 W g1 hgn)
          have HP' := HP.alloc (.cells #[] 2)
          have HR' := HR.alloc (.cells #[] 2)
          refine hK.out _ _ HP'.full3.1 (fun hSx => ?_)
          clear hK K hSx HX HP HR
          try simp only [Act.put, pa, pz, ps]
          obtain ⟨V, hV⟩ : ∃ V, W.alloc (.cells #[] 2) = V := ⟨_, rfl⟩
          rw [hV] at HX' HP' HR' ⊢
          rw [hgn]
          clear hV hgn W
          obtain ⟨W, rfl⟩ : ∃ W, W = V := ⟨_, rfl⟩
          have HX := HX'
          have HP := HP'
          have HR := HR'
          clear HX' HP' HR'
          replace HX : Hx w W w.heap.size [⟨2, A0, nX, k0, lvs X⟩, ⟨2, some ⟨g1, 0, none⟩, 0, 0, []⟩, ⟨3, some ⟨g2, 0, none⟩, 0, 0, []⟩] := HX
          revert HR
          revert HP
          revert HX
          revert W
          revert g2
          revert g1
          revert k0
          revert A0
          revert g0
          exact t211.out
      case pt210 =>
       refine Lib.hid ?_
       intro g0 A0 k0 g1 W HX HP HR
       refine wpAnyH_ready (rs := [7, 8]) (by kernel_rfl) (by simp) ?_
       refine AllReadyH.cons rfl (fun K hK => ?_) (AllReadyH.cons rfl (fun K hK => ?_) (AllReadyH.nil))
       · refine step_appSrcH HX (by rfl) (.tmp 7) (.tmp 9) _ _ _ (by rfl) one_long.wide 1 0 0 (some ⟨g1, 0, none⟩) [] rfl (by rfl) AE nE cE (lvs E) (by rfl) (HI1.out _ HX.bel) (by simp [HL1.out]) (fun u hu => by obtain ⟨x, _, rfl⟩ := List.mem_map.1 hu; rfl) (by omega) ?_
         intro A1 k1 V HY HB
         have HX' := HY.out
         have HP' := HB.out _ _ _ HP (show (29 : TypeId) ≠ 2 by decide)
         have HR' := HB.out _ _ _ HR (show (29 : TypeId) ≠ 2 by decide)
         refine hK.out _ _ HP'.full3.1 (fun hSx => ?_)
         clear hK K hSx HX HP HR HY HB W
         show wpAnyH _ _ _ _ _ _ _ (Act.put _ (some 10) _) _
         simp only [Act.put, List.setIfInBounds_toArray, List.set_cons_zero, List.set_cons_succ, Nat.zero_add]
         simp only [Nat.zero_add, List.nil_append, List.set_cons_zero, List.set_cons_succ] at HX'
         obtain ⟨W, rfl⟩ : ∃ W, W = V := ⟨_, rfl⟩
         have HX := HX'
         have HP := HP'
         have HR := HR'
         clear HX' HP' HR'
         replace HX : Hx w W w.heap.size [⟨2, A0, nX, k0, lvs X⟩, ⟨2, A1, nE, k1, lvs E⟩, ⟨3, none, 0, 0, []⟩] := HX
         revert HR
         revert HP
         revert HX
         revert W
         revert k1
         revert A1
         revert g1
         revert k0
         revert A0
         revert g0
         exact t220.out
       · go_simp
         obtain ⟨g2, hgn⟩ : ∃ g, W.heap.size = g := ⟨_, rfl⟩
         have HX' := HX.fresh (i := 2) rfl (below_alloc _) (own_empty 3 W g2 hgn)
         have HP' := HP.alloc (.cells #[] 3)
         have HR' := HR.alloc (.cells #[] 3)
         refine hK.out _ _ HP'.full3.1 (fun hSx => ?_)
         clear hK K hSx HX HP HR
         try simp only [Act.put, pa, pz, ps]
         obtain ⟨V, hV⟩ : ∃ V, W.alloc (.cells #[] 3) = V := ⟨_, rfl⟩
         rw [hV] at HX' HP' HR' ⊢
         rw [hgn]
         clear hV hgn W
         obtain ⟨W, rfl⟩ : ∃ W, W = V := ⟨_, rfl⟩
         have HX := HX'
         have HP := HP'
         have HR := HR'
         clear HX' HP' HR'
         replace HX : Hx w W w.heap.size [⟨2, A0, nX, k0, lvs X⟩, ⟨2, some ⟨g1, 0, none⟩, 0, 0, []⟩, ⟨3, some ⟨g2, 0, none⟩, 0, 0, []⟩] := HX
         revert HR
         revert HP
         revert HX
         revert W
         revert g2
         revert g1
         revert k0
         revert A0
         revert g0
         exact t211.out
     case pt211 =>
      refine Lib.hid ?_
      intro g0 A0 k0 g1 g2 W HX HP HR
      refine wpAnyH_ready (rs := [7]) (by kernel_rfl) (by simp) ?_
      refine AllReadyH.cons rfl (fun K hK => ?_) (AllReadyH.nil)
      · refine step_appSrcH HX (by rfl) (.tmp 7) (.tmp 9) _ _ _ (by rfl) one_long.wide 1 0 0 (some ⟨g1, 0, none⟩) [] rfl (by rfl) AE nE cE (lvs E) (by rfl) (HI1.out _ HX.bel) (by simp [HL1.out]) (fun u hu => by obtain ⟨x, _, rfl⟩ := List.mem_map.1 hu; rfl) (by omega) ?_
        intro A1 k1 V HY HB
        have HX' := HY.out
        have HP' := HB.out _ _ _ HP (show (29 : TypeId) ≠ 2 by decide)
        have HR' := HB.out _ _ _ HR (show (29 : TypeId) ≠ 2 by decide)
        refine hK.out _ _ HP'.full3.1 (fun hSx => ?_)
        clear hK K hSx HX HP HR HY HB W
        show wpAnyH _ _ _ _ _ _ _ (Act.put _ (some 10) _) _
        simp only [Act.put, List.setIfInBounds_toArray, List.set_cons_zero, List.set_cons_succ, Nat.zero_add]
        simp only [Nat.zero_add, List.nil_append, List.set_cons_zero, List.set_cons_succ] at HX'
        obtain ⟨W, rfl⟩ : ∃ W, W = V := ⟨_, rfl⟩
        have HX := HX'
        have HP := HP'
        have HR := HR'
        clear HX' HP' HR'
        replace HX : Hx w W w.heap.size [⟨2, A0, nX, k0, lvs X⟩, ⟨2, A1, nE, k1, lvs E⟩, ⟨3, some ⟨g2, 0, none⟩, 0, 0, []⟩] := HX
        revert HR
        revert HP
        revert HX
        revert W
        revert g2
        revert k1
        revert A1
        revert g1
        revert k0
        revert A0
        revert g0
        exact t221.out
    case pt220 =>
     refine Lib.hid ?_
     intro g0 A0 k0 g1 A1 k1 W HX HP HR
     refine wpAnyH_ready (rs := [8]) (by kernel_rfl) (by simp) ?_
     refine AllReadyH.cons rfl (fun K hK => ?_) (AllReadyH.nil)
     · go_simp
       obtain ⟨g2, hgn⟩ : ∃ g, W.heap.size = g := ⟨_, rfl⟩
       have HX' := HX.fresh (i := 2) rfl (below_alloc _) (own_empty 3 W g2 hgn)
       have HP' := HP.alloc (.cells #[] 3)
       have HR' := HR.alloc (.cells #[] 3)
       refine hK.out _ _ HP'.full3.1 (fun hSx => ?_)
       clear hK K hSx HX HP HR
       try simp only [Act.put, pa, pz, ps]
       obtain ⟨V, hV⟩ : ∃ V, W.alloc (.cells #[] 3) = V := ⟨_, rfl⟩
       rw [hV] at HX' HP' HR' ⊢
       rw [hgn]
       clear hV hgn W
       obtain ⟨W, rfl⟩ : ∃ W, W = V := ⟨_, rfl⟩
       have HX := HX'
       have HP := HP'
       have HR := HR'
       clear HX' HP' HR'
       replace HX : Hx w W w.heap.size [⟨2, A0, nX, k0, lvs X⟩, ⟨2, A1, nE, k1, lvs E⟩, ⟨3, some ⟨g2, 0, none⟩, 0, 0, []⟩] := HX
       revert HR
       revert HP
       revert HX
       revert W
       revert g2
       revert k1
       revert A1
       revert g1
       revert k0
       revert A0
       revert g0
       exact t221.out
   case pt221 =>
    refine Lib.hid ?_
    intro g0 A0 k0 g1 A1 k1 g2 W HX HP HR
    refine wpAnyH_ready (rs := [11]) (by kernel_rfl) (by simp) ?_
    refine AllReadyH.cons rfl (fun K hK => ?_) (AllReadyH.nil)
    · refine step_appSrcH HX (by rfl) (.tmp 11) (.tmp 13) _ _ _ (by rfl) one_int.wide 2 0 0 (some ⟨g2, 0, none⟩) [] rfl (by rfl) AHH nH cHH (lvs H) (by rfl) (HI2.out _ HX.bel) (by simp [HL2.out]) (fun u hu => by obtain ⟨x, _, rfl⟩ := List.mem_map.1 hu; rfl) (by omega) ?_
      intro A2 k2 V HY HB
      have HX' := HY.out
      have HP' := HB.out _ _ _ HP (show (29 : TypeId) ≠ 3 by decide)
      have HR' := HB.out _ _ _ HR (show (29 : TypeId) ≠ 3 by decide)
      refine hK.out _ _ HP'.full3.1 (fun hSx => ?_)
      clear hK K hSx HX HP HR HY HB W
      show wpAnyH _ _ _ _ _ _ _ (Act.put _ (some 14) _) _
      simp only [Act.put, List.setIfInBounds_toArray, List.set_cons_zero, List.set_cons_succ, Nat.zero_add]
      simp only [Nat.zero_add, List.nil_append, List.set_cons_zero, List.set_cons_succ] at HX'
      obtain ⟨W, rfl⟩ : ∃ W, W = V := ⟨_, rfl⟩
      have HX := HX'
      have HP := HP'
      have HR := HR'
      clear HX' HP' HR'
      replace HX : Hx w W w.heap.size [⟨2, A0, nX, k0, lvs X⟩, ⟨2, A1, nE, k1, lvs E⟩, ⟨3, A2, nH, k2, lvs H⟩] := HX
      revert HR
      revert HP
      revert HX
      revert W
      revert k2
      revert A2
      revert g2
      revert k1
      revert A1
      revert g1
      revert k0
      revert A0
      revert g0
      exact t222.out
  case pt222 =>
   refine Lib.hid ?_
   intro g0 A0 k0 g1 A1 k1 g2 A2 k2 W HX HP HR
   have hS := HP.full3.1
   refine tk (v := ?_) 12 15 rfl ?_ ?_
   rotate_left
   · (intro W' hSw; obtain ⟨b0, b1, b2⟩ := hSw; go_simp; try with_reducible rfl)
   simp only [Act.put, pa, pz, ps]
   have HY : Hx w W w.heap.size (pstR nX nE nH ⟨A0, k0, A1, k1, A2, k2⟩ X E H) := HX
   clear HX
   obtain ⟨⟨q0, q1, q2⟩, ⟨f0, f1, f2⟩, hz1⟩ := HR.full3
   refine wpAnyH_ready (rs := [13]) (by kernel_rfl) (by simp) ?_
   refine AllReadyH.cons rfl (fun K hK => ?_) AllReadyH.nil
   go_simp
   have HX4 := HY.put3 (x := .slice A0 nX k0) (y := .slice A1 nE k1) (z := .slice A2 nH k2) HR pst_ne (by omega)
   have HR4 := HR.put3 (x := .slice A0 nX k0) (y := .slice A1 nE k1) (z := .slice A2 nH k2)
   refine hK.out _ _ (HP.far3 (x := .slice A0 nX k0) (y := .slice A1 nE k1) (z := .slice A2 nH k2) (by omega)).full3.1 (fun _ => ?_)
   clear hK K q0 q1 q2 f0 f1 f2
   try simp only [Act.put, pa, pz, ps]
   refine wpAnyH_done (by kernel_rfl) ?_ _
   obtain ⟨⟨q0, q1, q2⟩, -, hz9⟩ := HR4.full3
   dsimp only [put3] at q0 q1 q2 hz9 HX4
   go_wp2_with fail
   refine bodyPost_ret (v := .agg #[.slice A0 nX k0, .slice A1 nE k1, .slice A2 nH k2]) (by simp [results, Try.results26, go_sem, q0, q1, q2]) rfl ⟨⟨A0, k0, A1, k1, A2, k2⟩, rfl, HX4⟩

set_option maxHeartbeats 2000000 in
theorem samePre_is (nX nE nH mX mE mH : Nat) (Q R : PreS) (X E H X' E' H' : List Int) (r : Bool) (w : World) (hQ : StIn w w.heap.size nX nE nH Q X E H) (hR : StIn w w.heap.size mX mE mH R X' E' H') (hX : nX ≤ 17592186044416) (hE : nE ≤ 17592186044416) (hH : nH ≤ 17592186044416) (kX : mX ≤ 17592186044416) (kE : mE ≤ 17592186044416) (kH : mH ≤ 17592186044416)
    (hr : r = decide (X = X' ∧ E = E' ∧ H = H')) :
    Calls Try.prog 15 #[preW nX nE nH Q, preW mX mE mH R] w fun e w' => e = .returned (.bool r) ∧ Below w.heap.size w w' := by
  have h1 := fun v hv W (hb : Below w.heap.size w W) => longs_is Q.cX R.cX (hQ.on hb).iX (hR.on hb).iX hX kX (v := v) hv
  have h2 := fun v hv W (hb : Below w.heap.size w W) => longs_is Q.cE R.cE (hQ.on hb).iE (hR.on hb).iE hE kE (v := v) hv
  have h3 := fun v hv W (hb : Below w.heap.size w W) => ints_is Q.cH R.cH (hQ.on hb).iH (hR.on hb).iH hH kH (v := v) hv
  have H1 := Lib.hid h1; have H2 := Lib.hid h2; have H3 := Lib.hid h3; have HR := Lib.hid hr
  clear h1 h2 h3 hQ hR hr
  obtain ⟨AX, cX, AE, cE, AHH, cHH⟩ := Q
  obtain ⟨AX', cX', AE', cE', AHH', cHH'⟩ := R
  dsimp only [preW] at H1 H2 H3 ⊢
  obtain ⟨w1, hw1⟩ : ∃ W, ((w.alloc (.cells #[.slice AX nX cX, .slice AE nE cE, .slice AHH nH cHH] 29)).alloc (.cells #[.slice AX' mX cX', .slice AE' mE cE', .slice AHH' mH cHH'] 29)) = W := ⟨_, rfl⟩
  have B1 : Below w.heap.size w w1 := by rw [← hw1]; exact (below_alloc _).alloc (by simp) _
  have HP1 := Lib.hid (show Blk w1 w.heap.size 29 #[.slice AX nX cX, .slice AE nE cE, .slice AHH nH cHH] by rw [← hw1]; exact (Blk.new rfl).alloc _)
  have HO1 := Lib.hid (show Blk w1 (w.heap.size + 1) 29 #[.slice AX' mX cX', .slice AE' mE cE', .slice AHH' mH cHH'] by rw [← hw1]; exact Blk.new (by simp))
  have HB1 := Lib.hid B1
  clear B1
  obtain ⟨⟨p0, p1, p2⟩, -, hz1⟩ := HP1.out.full3
  obtain ⟨⟨q0, q1, q2⟩, -, hz2⟩ := HO1.out.full3
  go_enter Try.func15, Try.ntmps15
  go_wp2_with fail
  clear hw1
  by_cases e1 : X = X'
  · refine (H1.out true (decide_eq_true e1) _ HB1.out).mono ?_
    rintro e w2 ⟨rfl, B2⟩
    have HB2 := Lib.hid (below_step HB1.out B2); have HP2 := Lib.hid (HP1.out.below B2 HP1.out.lt); have HO2 := Lib.hid (HO1.out.below B2 HO1.out.lt)
    clear B2 p0 p1 p2 q0 q1 q2 hz1 hz2
    obtain ⟨⟨p0, p1, p2⟩, -, hz1⟩ := HP2.out.full3
    obtain ⟨⟨q0, q1, q2⟩, -, hz2⟩ := HO2.out.full3
    go_wp2_with fail
    by_cases e2 : E = E'
    · refine (H2.out true (decide_eq_true e2) _ HB2.out).mono ?_
      rintro e w3 ⟨rfl, B3⟩
      have HB3 := Lib.hid (below_step HB2.out B3); have HP3 := Lib.hid (HP2.out.below B3 HP2.out.lt); have HO3 := Lib.hid (HO2.out.below B3 HO2.out.lt)
      clear B3 p0 p1 p2 q0 q1 q2 hz1 hz2
      obtain ⟨⟨p0, p1, p2⟩, -, hz1⟩ := HP3.out.full3
      obtain ⟨⟨q0, q1, q2⟩, -, hz2⟩ := HO3.out.full3
      go_wp2_with fail
      refine (H3.out _ rfl _ HB3.out).mono ?_
      rintro e w4 ⟨rfl, B4⟩
      go_wp2_with fail
      go_ret
      exact ⟨ret_bool (by rw [HR.out]; simp [e1, e2]), below_step HB3.out B4⟩
    · refine (H2.out false (decide_eq_false e2) _ HB2.out).mono ?_
      rintro e w3 ⟨rfl, B3⟩
      go_wp2_with fail
      go_ret
      exact ⟨ret_bool (by rw [HR.out]; simp [e2]), below_step HB2.out B3⟩
  · refine (H1.out false (decide_eq_false e1) _ HB1.out).mono ?_
    rintro e w2 ⟨rfl, B2⟩
    go_wp2_with fail
    go_ret
    exact ⟨ret_bool (by rw [HR.out]; simp [e1]), below_step HB1.out B2⟩

end Go.Proofs.Ytgjokddcaadjdaa
