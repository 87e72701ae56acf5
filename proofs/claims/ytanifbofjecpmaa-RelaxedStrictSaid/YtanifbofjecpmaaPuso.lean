/- Layer 7: Push. -/
import Derived.Test.YtanifbofjecpmaaHxf
import Derived.Test.YtanifbofjecpmaaTaio
import Derived.Test.YtanifbofjecpmaaRhto
import Derived.Test.YtanifbofjecpmaaFito
namespace Go.Proofs.Ytanifbofjecpmaa
open Go.RowKit Go.Shelf
set_option maxRecDepth 100000
attribute [local go_sem] Oper.semAt_some

/-- What Push tells of a: its error, how much, the state. -/
def pushC (M s t : Nat) (hd rv : Nat → Nat) (X E H : List Int) (a : Int) : Int := if ¬ (0 ≤ a ∧ a < (M : Int)) then 2 else if (actB s t E (hd (rv a.toNat)) && admB hd rv X H a.toNat) = true then 0 else 30
def pushD (hd rv : Nat → Nat) (X E : List Int) (a : Nat) : Int := min (hOf E (hd (rv a))) (hOf X a)
def pushS (M s t : Nat) (hd rv : Nat → Nat) (X E H : List Int) (a : Int) : Int × (List Int × (List Int × List Int)) := if pushC M s t hd rv X E H a = 0 then (pushD hd rv X E a.toNat, mvX rv X a.toNat (pushD hd rv X E a.toNat), mvE hd rv E a.toNat (pushD hd rv X E a.toNat), H) else (0, [], [], [])

theorem adm_mem {N M s t : Nat} {fst hd rv ai : Nat → Nat} {cp : Nat → Int} {bk : Nat → Bool} {X H : List Int} (hG : PNet N M s t fst hd rv ai cp bk) {a : Nat} (ha : a < M) : (a : Int) ∈ (rls fst (hd (rv a)) (admB hd rv X H) (fst (hd (rv a) + 1) - fst (hd (rv a)))).map (fun (x : Nat) => (x : Int)) ↔ admB hd rv X H a = true := by
  have hr := hG.g.row ha
  have hm := hG.g.mono (hd (rv a)) hr.2.2
  rw [List.mem_map]
  constructor
  · rintro ⟨b, hb, e⟩
    obtain rfl : b = a := by omega
    exact ((rls_mem (by omega)).1 hb).2.2
  · intro h
    exact ⟨a, (rls_mem (by omega)).2 ⟨hr.1, by omega, h⟩, rfl⟩

set_option maxHeartbeats 16000000 in
theorem push_is (N M s t : Nat) (K : CsrS) (Q : PreS) (fst hd rv ai : Nat → Nat) (cp : Nat → Int) (bk : Nat → Bool) (X E H : List Int) (a : Int) (w : World) (hG : PNet N M s t fst hd rv ai cp bk) (hI : PIn w w.heap.size N M K fst hd rv ai cp bk)
    (hQ : StIn w w.heap.size M N N Q X E H) (hS : StIs N M s t hd rv cp X E H) :
    Calls Try.prog 25 #[csrW N M s t K, preW M N N Q, .int .i64 a] w (RetPush (pushS M s t hd rv X E H a).1 (pushC M s t hd rv X E H a) (pushS M s t hd rv X E H a).2.1 (pushS M s t hd rv X E H a).2.2.1 (pushS M s t hd rv X E H a).2.2.2 w) := by
  have hM := hG.nM; have hN := hG.nN; have hsN := hG.hs; have htN := hG.ht
  have HG := Lib.hid hG; have HI := Lib.hid hI; have HQ := Lib.hid hQ; have HS := Lib.hid hS
  have hfit := fun W (hb : Below w.heap.size w W) => pfit_is N M s t K M N N Q fst hd rv W hG.g (hI.gi.on hb) hG.hs hG.ht hN (by omega) true (by simp)
  have HF := Lib.hid hfit
  have hno := fun (h : ¬ (0 ≤ a ∧ a < (M : Int))) W => tail2_no N M s t a K W h
  have HNO := Lib.hid hno
  have hcopy := fun W (hb : Below w.heap.size w W) => pcopy_is M N N Q X E H W (hQ.on hb) (by omega) (by omega) (by omega)
  have HCOPY := Lib.hid hcopy
  obtain ⟨R, hR⟩ : ∃ R, pushS M s t hd rv X E H a = R := ⟨_, rfl⟩
  obtain ⟨cc, hcc⟩ : ∃ cc, pushC M s t hd rv X E H a = cc := ⟨_, rfl⟩
  rw [hR, hcc]
  have HRR := Lib.hid hR; have HCC := Lib.hid hcc
  clear hR hcc
  obtain ⟨AF, cF, AH, cH, AR, cR, AC, cC, AA, cA, AB, cB⟩ := K
  obtain ⟨AX, cX, AE, cE, AHH, cHH⟩ := Q
  dsimp only [csrW, preW] at HF HNO HCOPY ⊢
  clear hI hQ hG hS hfit hno hcopy
  by_cases hr : 0 ≤ a ∧ a < (M : Int)
  · obtain ⟨a, rfl⟩ := Int.eq_ofNat_of_zero_le hr.1
    have ha : a < M := by omega
    have htl := fun W (hb : Below w.heap.size w W) => tail2_yes N M s t a ⟨AF, cF, AH, cH, AR, cR, AC, cC, AA, cA, AB, cB⟩ fst hd rv W HG.out.g (HI.out.gi.on hb) ha
    have hC0 : pushC M s t hd rv X E H (a : Int) = if (actB s t E (hd (rv a)) && admB hd rv X H a) = true then 0 else 30 := by unfold pushC; rw [if_neg (fun h => h hr)]; rfl
    have hu : hd (rv a) < N := HG.out.mN ha
    have hacts := fun W (hb : Below w.heap.size w W) => act_is N M s t (hd (rv a)) M N ⟨AF, cF, AH, cH, AR, cR, AC, cC, AA, cA, AB, cB⟩ ⟨AX, cX, AE, cE, AHH, cHH⟩ X E H W (HQ.out.on hb) hu
    have hadm := fun W (hb : Below w.heap.size w W) => adm_is N M s t (hd (rv a)) N ⟨AF, cF, AH, cH, AR, cR, AC, cC, AA, cA, AB, cB⟩ ⟨AX, cX, AE, cE, AHH, cHH⟩ fst hd rv X E H W HG.out.g (HI.out.gi.on hb) (HQ.out.on hb) hu (by omega) hN HS.out.bnd
    have hmem := adm_mem (X := X) (H := H) HG.out ha
    have HT := Lib.hid htl; have HA := Lib.hid hacts; have HD := Lib.hid hadm; have HM := Lib.hid hmem; have HC0 := Lib.hid hC0
    dsimp only [csrW, preW] at HT HA HD
    clear htl hacts hadm hmem hC0
    obtain ⟨u, hue⟩ : ∃ u, hd (rv a) = u := ⟨_, rfl⟩
    have HU := Lib.hid hue
    simp only [hue] at HT HA HD HM HC0 hu
    clear hue
    go_enter Try.func25, Try.ntmps25
    go_wp2_with fail
    obtain ⟨w1, hw1⟩ : ∃ w1, (((w.alloc (.cells #[.int .i64 (N : Int), .int .i64 (s : Int), .int .i64 (t : Int), .slice AF (N + 1) cF, .slice AH M cH, .slice AR M cR, .slice AC M cC, .slice AA M cA, .slice AB M cB] 32)).alloc (.cells #[.slice AX M cX, .slice AE N cE, .slice AHH N cHH] 29)).alloc (.cells #[.slice none 0 0, .slice none 0 0, .slice none 0 0] 29)) = w1 := ⟨_, rfl⟩
    have B1 : Below w.heap.size w w1 := by rw [← hw1]; exact (((Below.refl _ w).alloc (Nat.le_refl _) _).alloc (by simp) _).alloc (by simp; omega) _
    have C1 : Blk w1 w.heap.size 32 #[.int .i64 (N : Int), .int .i64 (s : Int), .int .i64 (t : Int), .slice AF (N + 1) cF, .slice AH M cH, .slice AR M cR, .slice AC M cC, .slice AA M cA, .slice AB M cB] := by rw [← hw1]; exact ((Blk.new rfl).alloc _).alloc _
    have P1 : Blk w1 (w.heap.size + 1) 29 #[.slice AX M cX, .slice AE N cE, .slice AHH N cHH] := by rw [← hw1]; exact (Blk.new (by simp)).alloc _
    have R1 : Blk w1 (w.heap.size + 1 + 1) 29 #[.slice none 0 0, .slice none 0 0, .slice none 0 0] := by rw [← hw1]; exact Blk.new (by simp)
    rw [hw1]
    clear hw1
    refine (HT.out _ B1).mono ?_
    rintro e w2 ⟨rfl, B2⟩
    have C2 := C1.below B2 C1.lt; have P2 := P1.below B2 P1.lt; have R2 := R1.below B2 R1.lt
    have Bw2 := below_step B1 B2
    clear C1 P1 R1 B1 B2
    obtain ⟨a0, a1, a2, a3, a4, a5, a6, a7, a8⟩ := C2.at9
    have p0 := P2.cell 0; have p1 := P2.cell 1; have p2 := P2.cell 2
    simp only [List.getElem?_toArray, List.getElem?_cons_zero, List.getElem?_cons_succ] at p0 p1 p2
    have hz1 := C2.lt; have hz2 := P2.lt
    have HC2 := Lib.hid C2; have HP2 := Lib.hid P2; have HR2 := Lib.hid R2; have HB2 := Lib.hid Bw2
    clear C2 P2 R2 Bw2
    go_wp2_with fail
    refine (HF.out _ HB2.out).mono ?_
    rintro e w3 ⟨rfl, B3⟩
    have C3 := HC2.out.below B3 HC2.out.lt; have P3 := HP2.out.below B3 HP2.out.lt; have R3 := HR2.out.below B3 HR2.out.lt
    have Bw3 := below_step HB2.out B3
    clear B3 HC2 HP2 HR2 HB2 a0 a1 a2 a3 a4 a5 a6 a7 a8 p0 p1 p2 hz1 hz2
    obtain ⟨a0, a1, a2, a3, a4, a5, a6, a7, a8⟩ := C3.at9
    have p0 := P3.cell 0; have p1 := P3.cell 1; have p2 := P3.cell 2
    simp only [List.getElem?_toArray, List.getElem?_cons_zero, List.getElem?_cons_succ] at p0 p1 p2
    have hz1 := C3.lt; have hz2 := P3.lt
    have HC3 := Lib.hid C3; have HP3 := Lib.hid P3; have HR3 := Lib.hid R3; have HB3 := Lib.hid Bw3
    clear C3 P3 R3 Bw3
    go_wp2_with fail
    refine (HA.out _ HB3.out).mono ?_
    rintro e w4 ⟨rfl, B4⟩
    have C4 := HC3.out.below B4 HC3.out.lt; have P4 := HP3.out.below B4 HP3.out.lt; have R4 := HR3.out.below B4 HR3.out.lt
    have Bw4 := below_step HB3.out B4
    clear B4 HC3 HP3 HR3 HB3 a0 a1 a2 a3 a4 a5 a6 a7 a8 p0 p1 p2 hz1 hz2
    obtain ⟨a0, a1, a2, a3, a4, a5, a6, a7, a8⟩ := C4.at9
    have p0 := P4.cell 0; have p1 := P4.cell 1; have p2 := P4.cell 2
    simp only [List.getElem?_toArray, List.getElem?_cons_zero, List.getElem?_cons_succ] at p0 p1 p2
    have hz1 := C4.lt; have hz2 := P4.lt
    have HC4 := Lib.hid C4; have HP4 := Lib.hid P4; have HR4 := Lib.hid R4; have HB4 := Lib.hid Bw4
    clear C4 P4 R4 Bw4
    cases hac : actB s t E u with
    | false =>
      have hC30 : pushC M s t hd rv X E H (a : Int) = 30 := by rw [HC0.out, hac]; rfl
      have hps : pushS M s t hd rv X E H (a : Int) = (0, [], [], []) := by unfold pushS; rw [hC30]; rfl
      obtain rfl := HRR.out.symm.trans hps
      obtain rfl := HCC.out.symm.trans hC30
      clear hps hC30 HC0 HA HD HM HT
      obtain ⟨⟨r0, r1, r2⟩, ⟨s0, s1, s2⟩, hz3⟩ := HR4.out.full3
      go_wp2_with fail
      have K9 := HR4.out.put3 (x := .slice none 0 0) (y := .slice none 0 0) (z := .slice none 0 0)
      have B9 := below_put3 (g := w.heap.size + 1 + 1) (x := .slice none 0 0) (y := .slice none 0 0) (z := .slice none 0 0) HB4.out (by omega)
      obtain ⟨⟨q0, q1, q2⟩, -, -⟩ := K9.full3
      dsimp only [put3] at q0 q1 q2
      refine bodyPost_ret (v := .tuple #[.agg #[.slice none 0 0, .slice none 0 0, .slice none 0 0], .int .i64 0, .int .i64 30]) (by simp [results, Try.results25, go_sem, q0, q1, q2]) rfl ⟨⟨none, 0, none, 0, none, 0⟩, rfl, nil_st B9 B9.size⟩
    | true =>
      have hln := rls_len (fst := fst) (v := u) (p := admB hd rv X H) (fst (u + 1) - fst u)
      have hfl := HG.out.g.fle (v := u + 1) (by omega)
      obtain ⟨L, hL⟩ : ∃ L, rls fst u (admB hd rv X H) (fst (u + 1) - fst u) = L := ⟨_, rfl⟩
      rw [hL] at hln
      simp only [hL] at HD HM
      have hct := fun W A c (hA : Ints W W.heap.size A L.length (L.map fun x : Nat => (x : Int))) => contains_is A L.length c _ (a : Int) W (admB hd rv X H a) hA (by omega) HM.out.symm
      have HCT := Lib.hid hct
      clear hL hct hln hfl HM
      go_wp2_with fail
      refine (HD.out _ HB4.out).mono ?_
      rintro e w6 ⟨A5, c5, rfl, hrow, B5⟩
      have C5 := HC4.out.below B5 HC4.out.lt; have P5 := HP4.out.below B5 HP4.out.lt; have R5 := HR4.out.below B5 HR4.out.lt
      have Bw5 := below_step HB4.out B5
      have hct2 := HCT.out w6 A5 c5 (own_nums hrow)
      have HCT2 := Lib.hid hct2
      clear B5 hct2 HCT hrow HC4 HP4 HR4 HB4 a0 a1 a2 a3 a4 a5 a6 a7 a8 p0 p1 p2 hz1 hz2 HD HA HT HF
      obtain ⟨a0, a1, a2, a3, a4, a5, a6, a7, a8⟩ := C5.at9
      obtain ⟨⟨p0, p1, p2⟩, -, hz2⟩ := P5.full3
      have hz1 := C5.lt
      have HC5 := Lib.hid C5; have HP5 := Lib.hid P5; have HR4 := Lib.hid R5; have HB4 := Lib.hid Bw5
      clear C5 P5 R5 Bw5
      go_wp2_with fail
      refine HCT2.out.mono ?_
      rintro e w6 ⟨rfl, rfl⟩
      clear HCT2
      cases had : admB hd rv X H a with
      | false =>
        have hC30 : pushC M s t hd rv X E H (a : Int) = 30 := by rw [HC0.out, hac, had]; rfl
        have hps : pushS M s t hd rv X E H (a : Int) = (0, [], [], []) := by unfold pushS; rw [hC30]; rfl
        obtain rfl := HRR.out.symm.trans hps
        obtain rfl := HCC.out.symm.trans hC30
        clear hps hC30 HC0
        obtain ⟨⟨r0, r1, r2⟩, ⟨s0, s1, s2⟩, hz3⟩ := HR4.out.full3
        go_wp2_with fail
        have K9 := HR4.out.put3 (x := .slice none 0 0) (y := .slice none 0 0) (z := .slice none 0 0)
        have B9 := below_put3 (g := w.heap.size + 1 + 1) (x := .slice none 0 0) (y := .slice none 0 0) (z := .slice none 0 0) HB4.out (by omega)
        obtain ⟨⟨q0, q1, q2⟩, -, -⟩ := K9.full3
        dsimp only [put3] at q0 q1 q2
        refine bodyPost_ret (v := .tuple #[.agg #[.slice none 0 0, .slice none 0 0, .slice none 0 0], .int .i64 0, .int .i64 30]) (by simp [results, Try.results25, go_sem, q0, q1, q2]) rfl ⟨⟨none, 0, none, 0, none, 0⟩, rfl, nil_st B9 B9.size⟩
      | true =>
        have hC00 : pushC M s t hd rv X E H (a : Int) = 0 := by rw [HC0.out, hac, had]; rfl
        have hps : pushS M s t hd rv X E H (a : Int) = (pushD hd rv X E a, mvX rv X a (pushD hd rv X E a), mvE hd rv E a (pushD hd rv X E a), H) := by unfold pushS; rw [hC00]; rfl
        have hdd : pushD hd rv X E a = min (hOf E u) (hOf X a) := by unfold pushD; rw [HU.out]
        obtain ⟨d, hd'⟩ : ∃ d, pushD hd rv X E a = d := ⟨_, rfl⟩
        rw [hd'] at hdd hps
        obtain rfl := HRR.out.symm.trans hps
        obtain rfl := HCC.out.symm.trans hC00
        have hX0 := (HS.out.bal.2 a ha).1
        have hE0 := (act_iff.1 hac).2.2
        have hd0 : 0 ≤ d ∧ d ≤ hOf X a := by omega
        have hfit := move_fit HG.out HS.out.bal HS.out.le HS.out.exc ha hd0.1 hd0.2
        have HFIT := Lib.hid hfit
        have lX : (mvX rv X a d).length = M := by rw [mvX_len]; exact HS.out.bal.1
        have lE : (mvE hd rv E a d).length = N := by rw [mvE_len]; exact HS.out.le
        have HDD := Lib.hid hdd; have LX := Lib.hid lX; have LE := Lib.hid lE
        obtain ⟨bX, oX, hXa⟩ := HQ.out.iX.adr (by omega)
        obtain ⟨bE, oE, hEa⟩ := HQ.out.iE.adr (by omega)
        dsimp only at hXa hEa
        subst hXa; subst hEa
        obtain ⟨hbX, cx⟩ := (HQ.out.below HB4.out).iX.cel (hOf_get HS.out.bal.1 ha)
        obtain ⟨hbE, ce⟩ := (HQ.out.below HB4.out).iE.cel (hOf_get HS.out.le hu)
        obtain ⟨x, hx⟩ : ∃ x, hOf X a = x := ⟨_, rfl⟩
        obtain ⟨y, hy⟩ : ∃ y, hOf E u = y := ⟨_, rfl⟩
        rw [hx, hy] at hdd
        rw [hx] at cx; rw [hy] at ce
        have hmin : min y x = d := hdd.symm
        have hmin1 : (if x < y then x else y) = d := by
          rw [← hmin]
          by_cases h : x < y
          · rw [if_pos h]; omega
          · rw [if_neg h]; omega
        have hmin2 : (if y < x then y else x) = d := by
          rw [← hmin]
          by_cases h : y < x
          · rw [if_pos h]; omega
          · rw [if_neg h]; omega
        clear hps hC00 HC0 hd' hX0 hE0 hd0 hfit lX lE hx hy hdd
        go_wp2_with fail
        obtain ⟨w7, hw7⟩ : ∃ w7, w6.drew = w7 := ⟨_, rfl⟩
        have h67 : Below w6.heap.size w6 w7 := by rw [← hw7]; exact (Below.refl _ w6).drew
        have HB7 := Lib.hid (below_step HB4.out h67)
        have HC7 := Lib.hid (HC5.out.below h67 HC5.out.lt)
        have HR7 := Lib.hid (HR4.out.below h67 HR4.out.lt)
        have hkeep : ∀ W', Below w7.heap.size w7 W' → Below w7.heap.size w7 W' ∧ W'.cell? ⟨w.heap.size + 1, 0, none⟩ = some (.slice (some ⟨bX, oX, none⟩) M cX) ∧ W'.cell? ⟨w.heap.size + 1, 1, none⟩ = some (.slice (some ⟨bE, oE, none⟩) N cE) ∧ W'.cell? ⟨w.heap.size + 1, 2, none⟩ = some (.slice AHH N cHH) ∧ W'.cell? ⟨bX, oX + a, none⟩ = some (.int .i64 x) ∧ W'.cell? ⟨bE, oE + u, none⟩ = some (.int .i64 y) := by
          intro W' hb
          have hb2 := h67.trans (hb.mono h67.size)
          obtain ⟨⟨p0, p1, p2⟩, -, -⟩ := (HP5.out.below hb2 HP5.out.lt).full3
          have hz := HB4.out.size
          exact ⟨hb, p0, p1, p2, (hb2.cell (p := ⟨bX, oX + a, none⟩) (show bX < w6.heap.size by omega)).trans cx, (hb2.cell (p := ⟨bE, oE + u, none⟩) (show bE < w6.heap.size by omega)).trans ce⟩
        have HKEEP := Lib.hid hkeep
        have hcp := fun W (hb : Below w7.heap.size w7 W) => HCOPY.out W (below_step HB7.out hb)
        have HCP := Lib.hid hcp
        clear hkeep hcp HCOPY cx ce a0 a1 a2 a3 a4 a5 a6 a7 a8 p0 p1 p2 hz1 hz2 HC5 HP5 HR4 HB4
        refine wp_region_held_drew (S := fun W' => Below w7.heap.size w7 W' ∧ W'.cell? ⟨w.heap.size + 1, 0, none⟩ = some (.slice (some ⟨bX, oX, none⟩) M cX) ∧ W'.cell? ⟨w.heap.size + 1, 1, none⟩ = some (.slice (some ⟨bE, oE, none⟩) N cE) ∧ W'.cell? ⟨w.heap.size + 1, 2, none⟩ = some (.slice AHH N cHH) ∧ W'.cell? ⟨bX, oX + a, none⟩ = some (.int .i64 x) ∧ W'.cell? ⟨bE, oE + u, none⟩ = some (.int .i64 y)) (by kernel_rfl) (by rw [hw7]; exact HKEEP.out _ (Below.refl _ _)) (fun hS0 => ?_)
        rw [hw7] at hS0 ⊢
        clear hw7 h67
        refine tk (v := ?_) 0 43 rfl ?_ ?_
        rotate_left
        · (intro W hSw; obtain ⟨-, p0, p1, p2, cx, ce⟩ := hSw; go_simp; try with_reducible rfl)
        simp only [Act.put, pa, pz, ps]
        refine tk (v := ?_) 2 45 rfl ?_ ?_
        rotate_left
        · (intro W hSw; obtain ⟨-, p0, p1, p2, cx, ce⟩ := hSw; go_simp; try with_reducible rfl)
        simp only [Act.put, pa, pz, ps]
        refine tk (v := ?_) 3 46 rfl ?_ ?_
        rotate_left
        · (intro W hSw; obtain ⟨-, p0, p1, p2, cx, ce⟩ := hSw; go_simp; try with_reducible rfl)
        simp only [Act.put, pa, pz, ps]
        refine tk (v := ?_) 4 47 rfl ?_ ?_
        rotate_left
        · (intro W hSw; obtain ⟨-, p0, p1, p2, cx, ce⟩ := hSw; go_simp; try with_reducible rfl)
        simp only [Act.put, pa, pz, ps]
        refine tk (v := ?_) 5 48 rfl ?_ ?_
        rotate_left
        · (intro W hSw; obtain ⟨-, p0, p1, p2, cx, ce⟩ := hSw; go_simp; try with_reducible rfl)
        simp only [Act.put, pa, pz, ps]
        refine tk (v := ?_) 6 49 rfl ?_ ?_
        rotate_left
        · (intro W hSw; obtain ⟨-, p0, p1, p2, cx, ce⟩ := hSw; go_simp; try with_reducible rfl)
        simp only [Act.put, pa, pz, ps]
        refine tk (v := ?_) 7 50 rfl ?_ ?_
        rotate_left
        · (intro W hSw; obtain ⟨-, p0, p1, p2, cx, ce⟩ := hSw; go_simp; try with_reducible rfl)
        simp only [Act.put, pa, pz, ps]
        refine tk (v := ?_) 8 51 rfl ?_ ?_
        rotate_left
        · (intro W hSw; obtain ⟨-, p0, p1, p2, cx, ce⟩ := hSw; go_simp; try with_reducible rfl)
        simp only [Act.put, pa, pz, ps]
        refine tk (v := ?_) 9 52 rfl ?_ ?_
        rotate_left
        · (intro W hSw; obtain ⟨-, p0, p1, p2, cx, ce⟩ := hSw; go_simp; try with_reducible rfl)
        simp only [Act.put, pa, pz, ps]
        refine tk (v := ?_) 10 53 rfl ?_ ?_
        rotate_left
        · (intro W hSw; obtain ⟨-, p0, p1, p2, cx, ce⟩ := hSw; go_simp; try with_reducible rfl)
        simp only [Act.put, pa, pz, ps]
        refine tk (v := ?_) 11 54 rfl ?_ ?_
        rotate_left
        · (intro W hSw; obtain ⟨-, p0, p1, p2, cx, ce⟩ := hSw; go_simp; try with_reducible rfl)
        simp only [Act.put, pa, pz, ps]
        refine tk (v := ?_) 12 55 rfl ?_ ?_
        rotate_left
        · (intro W hSw; obtain ⟨-, p0, p1, p2, cx, ce⟩ := hSw; go_simp; try with_reducible rfl)
        simp only [Act.put, pa, pz, ps]
        refine (have tail : Hid ?T := ?tailp; ?main)
        case main =>
          refine wpAnyH_ready (rs := [1, 13]) (by kernel_rfl) (by simp) ?_
          refine AllReadyH.cons rfl (fun K hK => ?_) (AllReadyH.cons rfl (fun K hK => ?_) (AllReadyH.nil))
          · go_simp
            have hS7 := Below.refl w7.heap.size w7
            go_at_call 60
            (with_reducible refine (HCP.out _ (by assumption)).mono ?_); rintro e W2 ⟨⟨AX2, cX2, AE2, cE2, AH2, cH2⟩, rfl, HX2⟩
            dsimp only [preW] at HX2 ⊢
            clear hS7
            refine hK.out _ _ (HKEEP.out _ HX2.bel) (fun hSa => ?_)
            clear hK K
            try simp only [Act.put, pa, pz, ps]
            refine wpAnyH_ready (rs := [13]) (by kernel_rfl) (by simp) ?_
            refine AllReadyH.cons rfl (fun K hK => ?_) (AllReadyH.nil)
            go_simp
            have hp0 : Blk (W2.alloc (.cells #[.slice none 0 0, .slice none 0 0, .slice none 0 0] 29)) W2.heap.size 29 #[.slice none 0 0, .slice none 0 0, .slice none 0 0] := Blk.new rfl
            have hx0 := HX2.alloc (.cells #[.slice none 0 0, .slice none 0 0, .slice none 0 0] 29)
            have hg0 := HX2.bas
            refine hK.out _ _ (HKEEP.out _ hx0.bel) (fun hSn => ?_)
            clear hK K
            try simp only [Act.put, pa, pz, ps]
            obtain ⟨W3, hWn⟩ : ∃ W, W2.alloc (.cells #[.slice none 0 0, .slice none 0 0, .slice none 0 0] 29) = W := ⟨_, rfl⟩
            rw [hWn] at hp0 hx0 hSn ⊢
            clear hWn
            have HX3 := hx0
            have HP := hp0
            have hgp := hg0
            clear hx0 hp0 hg0
            obtain ⟨⟨q0, q1, q2⟩, ⟨f0, f1, f2⟩, hzp⟩ := HP.full3
            refine wpAnyH_ready (rs := [14]) (by kernel_rfl) (by simp) ?_
            refine AllReadyH.cons rfl (fun K hK => ?_) (AllReadyH.nil)
            go_simp
            have HX4 := HX3.put3 (x := .slice AX2 M cX2) (y := .slice AE2 N cE2) (z := .slice AH2 N cH2) HP pst_ne hgp
            have HP4 := HP.put3 (x := .slice AX2 M cX2) (y := .slice AE2 N cE2) (z := .slice AH2 N cH2)
            refine hK.out _ _ (HKEEP.out _ HX4.bel) (fun hSz => ?_)
            clear hK K HP q0 q1 q2 f0 f1 f2 hzp
            try simp only [Act.put, pa, pz, ps]
            refine tk (v := ?_) 15 12 rfl ?_ ?_
            rotate_left
            · (intro W hSw; obtain ⟨-, p0, p1, p2, cx, ce⟩ := hSw; go_simp; try with_reducible rfl)
            simp only [Act.put, pa, pz, ps]
            refine wpAnyH_done (by kernel_rfl) ?_ _
            dsimp only [put3] at HX4 HP4
            obtain ⟨W9, hW9⟩ : ∃ W, (((W3.setCell ⟨W2.heap.size, 0, none⟩ (.slice AX2 M cX2)).setCell ⟨W2.heap.size, 1, none⟩ (.slice AE2 N cE2)).setCell ⟨W2.heap.size, 2, none⟩ (.slice AH2 N cH2)) = W := ⟨_, rfl⟩
            rw [hW9] at HX4 HP4 ⊢
            clear hW9 HX3 hSz hSa
            obtain ⟨gP, hgP⟩ : ∃ g, W2.heap.size = g := ⟨_, rfl⟩
            rw [hgP] at HP4 ⊢
            replace hgp : w7.heap.size ≤ gP := by omega
            clear hgP
            clear HX2 hSn
            revert HX4
            revert HP4
            revert hgp
            revert gP
            revert W9
            revert cH2
            revert AH2
            revert cE2
            revert AE2
            revert cX2
            revert AX2
            exact tail.out
          · go_simp
            have hX7 : Hx w7 w7 w7.heap.size [] := Hx.start rfl
            have hp0 : Blk (w7.alloc (.cells #[.slice none 0 0, .slice none 0 0, .slice none 0 0] 29)) w7.heap.size 29 #[.slice none 0 0, .slice none 0 0, .slice none 0 0] := Blk.new rfl
            have hx0 := hX7.alloc (.cells #[.slice none 0 0, .slice none 0 0, .slice none 0 0] 29)
            have hg0 := hX7.bas
            refine hK.out _ _ (HKEEP.out _ hx0.bel) (fun hSn => ?_)
            clear hK K
            try simp only [Act.put, pa, pz, ps]
            obtain ⟨W1, hWn⟩ : ∃ W, w7.alloc (.cells #[.slice none 0 0, .slice none 0 0, .slice none 0 0] 29) = W := ⟨_, rfl⟩
            rw [hWn] at hp0 hx0 hSn ⊢
            clear hWn
            refine wpAnyH_ready (rs := [1]) (by kernel_rfl) (by simp) ?_
            refine AllReadyH.cons rfl (fun K hK => ?_) (AllReadyH.nil)
            go_simp
            have hS7 := hSn.1
            go_at_call 60
            (with_reducible refine (HCP.out _ (by assumption)).mono ?_); rintro e W2 ⟨⟨AX2, cX2, AE2, cE2, AH2, cH2⟩, rfl, HX2⟩
            dsimp only [preW] at HX2 ⊢
            have HX3 := HX2.low (base' := w7.heap.size) hS7.size hS7
            have HP := hp0.below HX2.bel hp0.lt
            have hgp := hg0
            refine hK.out _ _ (HKEEP.out _ HX3.bel) (fun hSa => ?_)
            clear hK K hp0 hx0 hX7 hSn HX2 hS7 hg0
            try simp only [Act.put, pa, pz, ps]
            obtain ⟨⟨q0, q1, q2⟩, ⟨f0, f1, f2⟩, hzp⟩ := HP.full3
            refine wpAnyH_ready (rs := [14]) (by kernel_rfl) (by simp) ?_
            refine AllReadyH.cons rfl (fun K hK => ?_) (AllReadyH.nil)
            go_simp
            have HX4 := HX3.put3 (x := .slice AX2 M cX2) (y := .slice AE2 N cE2) (z := .slice AH2 N cH2) HP pst_ne hgp
            have HP4 := HP.put3 (x := .slice AX2 M cX2) (y := .slice AE2 N cE2) (z := .slice AH2 N cH2)
            refine hK.out _ _ (HKEEP.out _ HX4.bel) (fun hSz => ?_)
            clear hK K HP q0 q1 q2 f0 f1 f2 hzp
            try simp only [Act.put, pa, pz, ps]
            refine tk (v := ?_) 15 12 rfl ?_ ?_
            rotate_left
            · (intro W hSw; obtain ⟨-, p0, p1, p2, cx, ce⟩ := hSw; go_simp; try with_reducible rfl)
            simp only [Act.put, pa, pz, ps]
            refine wpAnyH_done (by kernel_rfl) ?_ _
            dsimp only [put3] at HX4 HP4
            obtain ⟨W9, hW9⟩ : ∃ W, (((W2.setCell ⟨w7.heap.size, 0, none⟩ (.slice AX2 M cX2)).setCell ⟨w7.heap.size, 1, none⟩ (.slice AE2 N cE2)).setCell ⟨w7.heap.size, 2, none⟩ (.slice AH2 N cH2)) = W := ⟨_, rfl⟩
            rw [hW9] at HX4 HP4 ⊢
            clear hW9 HX3 hSz hSa
            obtain ⟨gP, hgP⟩ : ∃ g, w7.heap.size = g := ⟨_, rfl⟩
            rw [hgP] at HP4 ⊢
            replace hgp : w7.heap.size ≤ gP := by omega
            clear hgP
            revert HX4
            revert HP4
            revert hgp
            revert gP
            revert W9
            revert cH2
            revert AH2
            revert cE2
            revert AE2
            revert cX2
            revert AX2
            exact tail.out
        case tailp =>
          refine Lib.hid ?_
          intro AX2 cX2 AE2 cE2 AH2 cH2 W9 gP hgp HP4 HX4
          have HX5 := HX4.low (base' := w.heap.size) HB7.out.size HB7.out
          have C7 := HC7.out.below HX4.bel HC7.out.lt
          have R7 := HR7.out.below HX4.bel HR7.out.lt
          obtain ⟨gX2, rfl⟩ := own_some (n := M) (A := AX2) (HX5.held.own 0 _ rfl) (by omega)
          obtain ⟨gE2, rfl⟩ := own_some (n := N) (A := AE2) (HX5.held.own 1 _ rfl) (by omega)
          have nx := own_apart (n := M) (g := gX2) (HX4.held.own 0 _ rfl) HP4 (show (2 : TypeId) ≠ 29 by decide)
          have ny := own_apart (n := N) (g := gE2) (HX4.held.own 1 _ rfl) HP4 (show (2 : TypeId) ≠ 29 by decide)
          have lx := (HX4.held.own 0 _ rfl).lt gX2 rfl
          have ly := (HX4.held.own 1 _ rfl).lt gE2 rfl
          have hzw := HR7.out.lt
          have hmv := move_is N M s t N a gX2 cX2 gE2 cE2 cH2 w.heap.size AH2 ⟨AF, cF, AH, cH, AR, cR, AC, cC, AA, cA, AB, cB⟩ fst hd rv ai cp bk X E H d w W9 HG.out (HI.out.below HX5.bel) HX5 HS.out.bal.1 HS.out.le ha HFIT.out.1 HFIT.out.2.1 HFIT.out.2.2.1 HFIT.out.2.2.2
          dsimp only [csrW, preW] at hmv
          have HMV := Lib.hid hmv
          have hR7 := Lib.hid (R7); have hP7 := Lib.hid HP4
          obtain ⟨a0, a1, a2, a3, a4, a5, a6, a7, a8⟩ := C7.at9
          obtain ⟨⟨p0, p1, p2⟩, -, hz2⟩ := HP4.full3
          have hz1 := C7.lt
          have HNX := Lib.hid (And.intro nx ny); have HLX := Lib.hid (And.intro lx ly); have HZW := Lib.hid hzw
          clear hmv HX5 HX4 C7 R7 HP4 nx ny lx ly hzw HCP HKEEP
          go_wp2_with fail
          refine HMV.out.mono ?_
          rintro e W8 ⟨⟨v, rfl⟩, HX8, hko, hkp⟩
          have P8 := hkp.blk hP7.out HNX.out
          have R8 := hkp.blk hR7.out ⟨by have := HLX.out; have := HZW.out; omega, by have := HLX.out; have := HZW.out; omega⟩
          have HX9 := Lib.hid HX8; have HR9 := Lib.hid R8
          clear a0 a1 a2 a3 a4 a5 a6 a7 a8 p0 p1 p2 hz1 hz2
          obtain ⟨⟨p0, p1, p2⟩, -, hz2⟩ := P8.full3
          obtain ⟨⟨r0, r1, r2⟩, ⟨s0, s1, s2⟩, hz3⟩ := R8.full3
          clear HX8 R8 P8 hko hkp HMV
          go_wp2_with fail
          have K9 := HR9.out.put3 (x := .slice (some ⟨gX2, 0, none⟩) M cX2) (y := .slice (some ⟨gE2, 0, none⟩) N cE2) (z := .slice AH2 N cH2)
          have X9 := HX9.out.put3 (x := .slice (some ⟨gX2, 0, none⟩) M cX2) (y := .slice (some ⟨gE2, 0, none⟩) N cE2) (z := .slice AH2 N cH2) HR9.out pst_ne (by omega)
          obtain ⟨⟨q0, q1, q2⟩, -, -⟩ := K9.full3
          dsimp only [put3] at q0 q1 q2
          refine bodyPost_ret (v := .tuple #[.agg #[.slice (some ⟨gX2, 0, none⟩) M cX2, .slice (some ⟨gE2, 0, none⟩) N cE2, .slice AH2 N cH2], .int .i64 d, .int .i64 0]) (by simp [results, Try.results25, go_sem, q0, q1, q2]) rfl ⟨⟨some ⟨gX2, 0, none⟩, cX2, some ⟨gE2, 0, none⟩, cE2, AH2, cH2⟩, ?_, ?_⟩
          · rw [LX.out, LE.out, HS.out.lh]
          · rw [LX.out, LE.out, HS.out.lh]
            exact X9
  · have hC2 : pushC M s t hd rv X E H a = 2 := if_pos hr
    have hps : pushS M s t hd rv X E H a = (0, [], [], []) := by unfold pushS; rw [hC2]; rfl
    obtain rfl := HRR.out.symm.trans hps
    obtain rfl := HCC.out.symm.trans hC2
    clear hps hC2
    have HNO2 := Lib.hid (HNO.out hr)
    clear HNO hr
    go_enter Try.func25, Try.ntmps25
    go_wp2_with fail
    obtain ⟨w1, hw1⟩ : ∃ w1, (((w.alloc (.cells #[.int .i64 (N : Int), .int .i64 (s : Int), .int .i64 (t : Int), .slice AF (N + 1) cF, .slice AH M cH, .slice AR M cR, .slice AC M cC, .slice AA M cA, .slice AB M cB] 32)).alloc (.cells #[.slice AX M cX, .slice AE N cE, .slice AHH N cHH] 29)).alloc (.cells #[.slice none 0 0, .slice none 0 0, .slice none 0 0] 29)) = w1 := ⟨_, rfl⟩
    have B1 : Below w.heap.size w w1 := by rw [← hw1]; exact (((Below.refl _ w).alloc (Nat.le_refl _) _).alloc (by simp) _).alloc (by simp; omega) _
    have R1 : Blk w1 (w.heap.size + 1 + 1) 29 #[.slice none 0 0, .slice none 0 0, .slice none 0 0] := by rw [← hw1]; exact Blk.new (by simp)
    rw [hw1]
    clear hw1
    refine (HNO2.out _).mono ?_
    rintro e w2 ⟨rfl, B2⟩
    have R2 := R1.below B2 R1.lt
    have Bw2 := below_step B1 B2
    have HR2 := Lib.hid R2; have HB2 := Lib.hid Bw2
    clear R1 B1 R2 B2 Bw2 HNO2
    obtain ⟨⟨r0, r1, r2⟩, ⟨s0, s1, s2⟩, hz3⟩ := HR2.out.full3
    go_wp2_with fail
    have K9 := HR2.out.put3 (x := .slice none 0 0) (y := .slice none 0 0) (z := .slice none 0 0)
    have B9 := below_put3 (g := w.heap.size + 1 + 1) (x := .slice none 0 0) (y := .slice none 0 0) (z := .slice none 0 0) HB2.out (by omega)
    obtain ⟨⟨q0, q1, q2⟩, -, -⟩ := K9.full3
    dsimp only [put3] at q0 q1 q2
    refine bodyPost_ret (v := .tuple #[.agg #[.slice none 0 0, .slice none 0 0, .slice none 0 0], .int .i64 0, .int .i64 2]) (by simp [results, Try.results25, go_sem, q0, q1, q2]) rfl ⟨⟨none, 0, none, 0, none, 0⟩, rfl, nil_st B9 B9.size⟩

end Go.Proofs.Ytanifbofjecpmaa
