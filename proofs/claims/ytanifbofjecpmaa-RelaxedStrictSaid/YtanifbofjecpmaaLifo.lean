/- Layer 7: Lift. -/
import Derived.Test.YtanifbofjecpmaaPuso
import Derived.Test.YtanifbofjecpmaaRhto
namespace Go.Proofs.Ytanifbofjecpmaa
open Go.RowKit Go.Shelf
set_option maxRecDepth 100000
attribute [local go_sem] Oper.semAt_some

/-- The least height of the ends of the open residual arcs of u. -/
structure LowV (fst hd : Nat → Nat) (X H : List Int) (u : Nat) (x : Int) : Prop where
  is : ∃ a, fst u ≤ a ∧ a < fst (u + 1) ∧ opn X a = true ∧ x = hOf H (hd a)
  le : ∀ a, fst u ≤ a → a < fst (u + 1) → opn X a = true → x ≤ hOf H (hd a)
theorem LowV.same {fst hd : Nat → Nat} {X H : List Int} {u : Nat} {x y : Int} (h : LowV fst hd X H u x) (k : LowV fst hd X H u y) : x = y := by
  obtain ⟨a, a1, a2, a3, a4⟩ := h.is
  obtain ⟨b, b1, b2, b3, b4⟩ := k.is
  have := h.le b b1 b2 b3
  have := k.le a a1 a2 a3
  omega
open Classical in
noncomputable def lowV (fst hd : Nat → Nat) (X H : List Int) (u : Nat) : Int := if h : ∃ x, LowV fst hd X H u x then Classical.choose h else 0
theorem lowV_eq {fst hd : Nat → Nat} {X H : List Int} {u : Nat} {x : Int} (h : LowV fst hd X H u x) : lowV fst hd X H u = x := by
  unfold lowV
  rw [dif_pos ⟨x, h⟩]
  exact (Classical.choose_spec (⟨x, h⟩ : ∃ x, LowV fst hd X H u x)).same h
theorem least_low {fst hd : Nat → Nat} {X H : List Int} {v : Nat} {x : Int} (h : LeastTo fst hd H v (rowIf fst v (opn X) (fst (v + 1) - fst v)) x true) : LowV fst hd X H v x := by
  obtain ⟨a, ha, e⟩ := h.is rfl
  have h1 := rowIf_mem.1 ha
  refine ⟨⟨a.1, a.2.1, a.2.2, h1.2, e⟩, fun b b1 b2 b3 => ?_⟩
  exact h.le ⟨b, b1, b2⟩ (rowIf_mem.2 ⟨by simp; omega, b3⟩)
theorem least_none {fst hd : Nat → Nat} {X H : List Int} {v : Nat} {x : Int} (h : LeastTo fst hd H v (rowIf fst v (opn X) (fst (v + 1) - fst v)) x false) : ∀ b, fst v ≤ b → b < fst (v + 1) → opn X b = false := by
  intro b b1 b2
  cases hb : opn X b with
  | false => rfl
  | true =>
    have : (⟨b, b1, b2⟩ : RowAt fst v) ∈ rowIf fst v (opn X) (fst (v + 1) - fst v) := rowIf_mem.2 ⟨by simp; omega, hb⟩
    rw [(h.no rfl).1] at this
    cases this
/-- What Lift tells of u. -/
def liftC (N s t : Nat) (fst hd rv : Nat → Nat) (X E H : List Int) (u : Int) : Int := if ¬ (0 ≤ u ∧ u < (N : Int)) then 2 else if (actB s t E u.toNat && (rls fst u.toNat (admB hd rv X H) (fst (u.toNat + 1) - fst u.toNat)).isEmpty) = true then 0 else 30
noncomputable def liftS (N s t : Nat) (fst hd rv : Nat → Nat) (X E H : List Int) (u : Int) : List Int × (List Int × List Int) := if liftC N s t fst hd rv X E H u = 0 then (X, E, H.set u.toNat (lowV fst hd X H u.toNat + 1)) else ([], [], [])

set_option maxHeartbeats 16000000 in
theorem lift_is (N M s t : Nat) (K : CsrS) (Q : PreS) (fst hd rv ai : Nat → Nat) (cp : Nat → Int) (bk : Nat → Bool) (X E H : List Int) (u : Int) (w : World) (hG : PNet N M s t fst hd rv ai cp bk) (hI : PIn w w.heap.size N M K fst hd rv ai cp bk)
    (hQ : StIn w w.heap.size M N N Q X E H) (hS : StIs N M s t hd rv cp X E H) :
    Calls Try.prog 26 #[csrW N M s t K, preW M N N Q, .int .i64 u] w (RetLift (liftC N s t fst hd rv X E H u) (liftS N s t fst hd rv X E H u).1 (liftS N s t fst hd rv X E H u).2.1 (liftS N s t fst hd rv X E H u).2.2 w) := by
  have hM := hG.nM; have hN := hG.nN; have hsN := hG.hs; have htN := hG.ht
  have HG := Lib.hid hG; have HI := Lib.hid hI; have HQ := Lib.hid hQ; have HS := Lib.hid hS
  have hfit := fun W (hb : Below w.heap.size w W) => pfit_is N M s t K M N N Q fst hd rv W hG.g (hI.gi.on hb) hG.hs hG.ht hN (by omega) true (by simp)
  have HF := Lib.hid hfit
  have hcopy := fun W (hb : Below w.heap.size w W) => pcopy_is M N N Q X E H W (hQ.on hb) (by omega) (by omega) (by omega)
  have HCOPY := Lib.hid hcopy
  obtain ⟨R, hR⟩ : ∃ R, liftS N s t fst hd rv X E H u = R := ⟨_, rfl⟩
  obtain ⟨cc, hcc⟩ : ∃ cc, liftC N s t fst hd rv X E H u = cc := ⟨_, rfl⟩
  rw [hR, hcc]
  have HRR := Lib.hid hR; have HCC := Lib.hid hcc
  clear hR hcc
  obtain ⟨AF, cF, AH, cH, AR, cR, AC, cC, AA, cA, AB, cB⟩ := K
  obtain ⟨AX, cX, AE, cE, AHH, cHH⟩ := Q
  dsimp only [csrW, preW] at HF HCOPY ⊢
  clear hI hQ hG hS hfit hcopy
  obtain ⟨w1, hw1⟩ : ∃ w1, (((w.alloc (.cells #[.int .i64 (N : Int), .int .i64 (s : Int), .int .i64 (t : Int), .slice AF (N + 1) cF, .slice AH M cH, .slice AR M cR, .slice AC M cC, .slice AA M cA, .slice AB M cB] 32)).alloc (.cells #[.slice AX M cX, .slice AE N cE, .slice AHH N cHH] 29)).alloc (.cells #[.slice none 0 0, .slice none 0 0, .slice none 0 0] 29)) = w1 := ⟨_, rfl⟩
  have B1 : Below w.heap.size w w1 := by rw [← hw1]; exact (((Below.refl _ w).alloc (Nat.le_refl _) _).alloc (by simp) _).alloc (by simp; omega) _
  have C1 : Blk w1 w.heap.size 32 #[.int .i64 (N : Int), .int .i64 (s : Int), .int .i64 (t : Int), .slice AF (N + 1) cF, .slice AH M cH, .slice AR M cR, .slice AC M cC, .slice AA M cA, .slice AB M cB] := by rw [← hw1]; exact ((Blk.new rfl).alloc _).alloc _
  have P1 : Blk w1 (w.heap.size + 1) 29 #[.slice AX M cX, .slice AE N cE, .slice AHH N cHH] := by rw [← hw1]; exact (Blk.new (by simp)).alloc _
  have R1 : Blk w1 (w.heap.size + 1 + 1) 29 #[.slice none 0 0, .slice none 0 0, .slice none 0 0] := by rw [← hw1]; exact Blk.new (by simp)
  have HW1 := Lib.hid hw1; have HC1 := Lib.hid C1; have HP1 := Lib.hid P1; have HR1 := Lib.hid R1; have HB1 := Lib.hid B1
  clear hw1 C1 P1 R1 B1
  by_cases hr : 0 ≤ u ∧ u < (N : Int)
  · obtain ⟨u, rfl⟩ := Int.eq_ofNat_of_zero_le hr.1
    have hu : u < N := by omega
    have hC0 : liftC N s t fst hd rv X E H (u : Int) = if (actB s t E u && (rls fst u (admB hd rv X H) (fst (u + 1) - fst u)).isEmpty) = true then 0 else 30 := by unfold liftC; rw [if_neg (fun h => h hr)]; rfl
    have hacts := fun W (hb : Below w.heap.size w W) => act_is N M s t u M N ⟨AF, cF, AH, cH, AR, cR, AC, cC, AA, cA, AB, cB⟩ ⟨AX, cX, AE, cE, AHH, cHH⟩ X E H W (HQ.out.on hb) hu
    have hadm := fun W (hb : Below w.heap.size w W) => adm_is N M s t u N ⟨AF, cF, AH, cH, AR, cR, AC, cC, AA, cA, AB, cB⟩ ⟨AX, cX, AE, cE, AHH, cHH⟩ fst hd rv X E H W HG.out.g (HI.out.gi.on hb) (HQ.out.on hb) hu (by omega) hN HS.out.bnd
    have hlow := fun W (hb : Below w.heap.size w W) => lowest_is N M s t u N ⟨AF, cF, AH, cH, AR, cR, AC, cC, AA, cA, AB, cB⟩ ⟨AX, cX, AE, cE, AHH, cHH⟩ fst hd rv X E H W HG.out.g (HI.out.gi.on hb) (HQ.out.on hb) hu (by omega) hN
    have hix := fun W => pindex_yes (i := (u : Int)) (n := (N : Int)) hr W
    have HA := Lib.hid hacts; have HD := Lib.hid hadm; have HL := Lib.hid hlow; have HC0 := Lib.hid hC0; have HIX := Lib.hid hix
    dsimp only [csrW, preW] at HA HD HL
    clear hacts hadm hlow hC0 hix hr
    go_enter Try.func26, Try.ntmps26
    go_wp2_with fail
    rw [HW1.out]
    clear HW1
    have hq1 := HC1.out
    obtain ⟨a0, a1, a2, a3, a4, a5, a6, a7, a8⟩ := hq1.at9
    have hz1 := hq1.lt
    clear hq1
    obtain ⟨⟨p0, p1, p2⟩, -, hz2⟩ := HP1.out.full3
    refine (HF.out _ HB1.out).mono ?_
    rintro e w2 ⟨rfl, B2⟩
    have HC2 := Lib.hid (HC1.out.below B2 HC1.out.lt); have HP2 := Lib.hid (HP1.out.below B2 HP1.out.lt); have HR2 := Lib.hid (HR1.out.below B2 HR1.out.lt)
    have HB2 := Lib.hid (below_step HB1.out B2)
    clear B2 HC1 HP1 HR1 HB1 a0 a1 a2 a3 a4 a5 a6 a7 a8 p0 p1 p2 hz1 hz2
    have hq2 := HC2.out
    obtain ⟨a0, a1, a2, a3, a4, a5, a6, a7, a8⟩ := hq2.at9
    have hz1 := hq2.lt
    clear hq2
    obtain ⟨⟨p0, p1, p2⟩, -, hz2⟩ := HP2.out.full3
    go_wp2_with fail
    refine (HIX.out _).mono ?_
    rintro e _ ⟨rfl, rfl⟩
    go_wp2_with fail
    refine (HL.out _ HB2.out).mono ?_
    rintro e w3 ⟨x, ok, rfl, hx, B3⟩
    have HC3 := Lib.hid (HC2.out.below B3 HC2.out.lt); have HP3 := Lib.hid (HP2.out.below B3 HP2.out.lt); have HR3 := Lib.hid (HR2.out.below B3 HR2.out.lt)
    have HB3 := Lib.hid (below_step HB2.out B3)
    clear B3 HC2 HP2 HR2 HB2 a0 a1 a2 a3 a4 a5 a6 a7 a8 p0 p1 p2 hz1 hz2
    have hq3 := HC3.out
    obtain ⟨a0, a1, a2, a3, a4, a5, a6, a7, a8⟩ := hq3.at9
    have hz1 := hq3.lt
    clear hq3
    obtain ⟨⟨p0, p1, p2⟩, -, hz2⟩ := HP3.out.full3
    have HXX := Lib.hid hx
    clear hx HL HIX HF
    cases ok with
    | false =>
      have hC30 : liftC N s t fst hd rv X E H (u : Int) = 30 := by
        rw [HC0.out]
        cases hac : actB s t E u with
        | false => rfl
        | true =>
          obtain ⟨h1, h2, h3⟩ := act_iff.1 hac
          obtain ⟨a, a1, a2, a3, a4, a5⟩ := HS.out.low HG.out hu h1 h3
          have := least_none HXX.out a a1 a2
          rw [opn_iff.2 a4] at this
          cases this
      have hps : liftS N s t fst hd rv X E H (u : Int) = ([], [], []) := by unfold liftS; rw [hC30]; rfl
      obtain rfl := HRR.out.symm.trans hps
      obtain rfl := HCC.out.symm.trans hC30
      clear hps hC30 HC0 HA HD
      obtain ⟨⟨r0, r1, r2⟩, ⟨s0, s1, s2⟩, hz3⟩ := HR3.out.full3
      go_wp2_with fail
      have K9 := HR3.out.put3 (x := .slice none 0 0) (y := .slice none 0 0) (z := .slice none 0 0)
      have B9 := below_put3 (g := w.heap.size + 1 + 1) (x := .slice none 0 0) (y := .slice none 0 0) (z := .slice none 0 0) HB3.out (by omega)
      obtain ⟨⟨q0, q1, q2⟩, -, -⟩ := K9.full3
      dsimp only [put3] at q0 q1 q2
      refine bodyPost_ret (v := .tuple #[.agg #[.slice none 0 0, .slice none 0 0, .slice none 0 0], .int .i64 30]) (by simp [results, Try.results26, go_sem, q0, q1, q2]) rfl ⟨⟨none, 0, none, 0, none, 0⟩, rfl, nil_st B9 B9.size⟩
    | true =>
      have hlv := least_low HXX.out
      go_wp2_with fail
      refine (HA.out _ HB3.out).mono ?_
      rintro e w4 ⟨rfl, B4⟩
      have HC4 := Lib.hid (HC3.out.below B4 HC3.out.lt); have HP4 := Lib.hid (HP3.out.below B4 HP3.out.lt); have HR4 := Lib.hid (HR3.out.below B4 HR3.out.lt)
      have HB4 := Lib.hid (below_step HB3.out B4)
      clear B4 HC3 HP3 HR3 HB3 a0 a1 a2 a3 a4 a5 a6 a7 a8 p0 p1 p2 hz1 hz2
      have hq4 := HC4.out
      obtain ⟨a0, a1, a2, a3, a4, a5, a6, a7, a8⟩ := hq4.at9
      have hz1 := hq4.lt
      clear hq4
      obtain ⟨⟨p0, p1, p2⟩, -, hz2⟩ := HP4.out.full3
      cases hac : actB s t E u with
      | false =>
        have hC30 : liftC N s t fst hd rv X E H (u : Int) = 30 := by rw [HC0.out, hac]; rfl
        have hps : liftS N s t fst hd rv X E H (u : Int) = ([], [], []) := by unfold liftS; rw [hC30]; rfl
        obtain rfl := HRR.out.symm.trans hps
        obtain rfl := HCC.out.symm.trans hC30
        clear hps hC30 HC0 HA HD
        obtain ⟨⟨r0, r1, r2⟩, ⟨s0, s1, s2⟩, hz3⟩ := HR4.out.full3
        go_wp2_with fail
        have K9 := HR4.out.put3 (x := .slice none 0 0) (y := .slice none 0 0) (z := .slice none 0 0)
        have B9 := below_put3 (g := w.heap.size + 1 + 1) (x := .slice none 0 0) (y := .slice none 0 0) (z := .slice none 0 0) HB4.out (by omega)
        obtain ⟨⟨q0, q1, q2⟩, -, -⟩ := K9.full3
        dsimp only [put3] at q0 q1 q2
        refine bodyPost_ret (v := .tuple #[.agg #[.slice none 0 0, .slice none 0 0, .slice none 0 0], .int .i64 30]) (by simp [results, Try.results26, go_sem, q0, q1, q2]) rfl ⟨⟨none, 0, none, 0, none, 0⟩, rfl, nil_st B9 B9.size⟩
      | true =>
        obtain ⟨L, hL⟩ : ∃ L, rls fst u (admB hd rv X H) (fst (u + 1) - fst u) = L := ⟨_, rfl⟩
        simp only [hL] at HD HC0
        have HLV := Lib.hid hlv
        clear hlv
        go_wp2_with fail
        refine (HD.out _ HB4.out).mono ?_
        rintro e w5 ⟨A5, c5, rfl, hrow, B5⟩
        have HC5 := Lib.hid (HC4.out.below B5 HC4.out.lt); have HP5 := Lib.hid (HP4.out.below B5 HP4.out.lt); have HR5 := Lib.hid (HR4.out.below B5 HR4.out.lt)
        have HB5 := Lib.hid (below_step HB4.out B5)
        clear B5 HC4 HP4 HR4 HB4 a0 a1 a2 a3 a4 a5 a6 a7 a8 p0 p1 p2 hz1 hz2
        have hq5 := HC5.out
        obtain ⟨a0, a1, a2, a3, a4, a5, a6, a7, a8⟩ := hq5.at9
        have hz1 := hq5.lt
        clear hq5
        obtain ⟨⟨p0, p1, p2⟩, -, hz2⟩ := HP5.out.full3
        clear hrow HD HA
        cases L with
        | cons b L =>
          have hC30 : liftC N s t fst hd rv X E H (u : Int) = 30 := by rw [HC0.out, hac]; rfl
          have hps : liftS N s t fst hd rv X E H (u : Int) = ([], [], []) := by unfold liftS; rw [hC30]; rfl
          obtain rfl := HRR.out.symm.trans hps
          obtain rfl := HCC.out.symm.trans hC30
          have hlen : (0 : Int) < ((b :: L).length : Int) := by simp only [List.length_cons]; omega
          obtain ⟨n, hn⟩ : ∃ n, (b :: L).length = n := ⟨_, rfl⟩
          rw [hn] at hlen ⊢
          clear hps hC30 HC0 hL hn
          obtain ⟨⟨r0, r1, r2⟩, ⟨s0, s1, s2⟩, hz3⟩ := HR5.out.full3
          go_wp2_with fail
          have K9 := HR5.out.put3 (x := .slice none 0 0) (y := .slice none 0 0) (z := .slice none 0 0)
          have B9 := below_put3 (g := w.heap.size + 1 + 1) (x := .slice none 0 0) (y := .slice none 0 0) (z := .slice none 0 0) HB5.out (by omega)
          obtain ⟨⟨q0, q1, q2⟩, -, -⟩ := K9.full3
          dsimp only [put3] at q0 q1 q2
          refine bodyPost_ret (v := .tuple #[.agg #[.slice none 0 0, .slice none 0 0, .slice none 0 0], .int .i64 30]) (by simp [results, Try.results26, go_sem, q0, q1, q2]) rfl ⟨⟨none, 0, none, 0, none, 0⟩, rfl, nil_st B9 B9.size⟩
        | nil =>
          have hC00 : liftC N s t fst hd rv X E H (u : Int) = 0 := by rw [HC0.out, hac]; rfl
          have hps : liftS N s t fst hd rv X E H (u : Int) = (X, E, H.set u (x + 1)) := by unfold liftS; rw [hC00, if_pos rfl, ← lowV_eq HLV.out]; rfl
          obtain rfl := HRR.out.symm.trans hps
          obtain rfl := HCC.out.symm.trans hC00
          clear hps hC00 HC0
          have hxb : 0 ≤ x ∧ x < 2 * N := by
            obtain ⟨a, a1, a2, a3, a4⟩ := HLV.out.is
            have hfl := HG.out.g.fle (v := u + 1) (by omega)
            have := HS.out.bnd (hd a) (HG.out.g.hdl a (by omega))
            omega
          have hwx : IntKind.i64.wrap (x + 1) = x + 1 := wrap_in (by omega) (by omega)
          simp only [List.length_nil]
          go_wp2_with fail
          refine (HCOPY.out _ HB5.out).mono ?_
          rintro e w6 ⟨⟨AX2, cX2, AE2, cE2, AH2, cH2⟩, rfl, HX2⟩
          dsimp only [preW] at HX2 ⊢
          have HX3 := HX2.alloc (.cells #[.slice AX2 M cX2, .slice AE2 N cE2, .slice AH2 N cH2] 29)
          have HP3 : Blk (w6.alloc (.cells #[.slice AX2 M cX2, .slice AE2 N cE2, .slice AH2 N cH2] 29)) w6.heap.size 29 #[.slice AX2 M cX2, .slice AE2 N cE2, .slice AH2 N cH2] := Blk.new rfl
          have hg := HX2.bas
          have R6 := (HR5.out.below HX2.bel HR5.out.lt).alloc (.cells #[.slice AX2 M cX2, .slice AE2 N cE2, .slice AH2 N cH2] 29)
          have Bw6 := (below_step HB5.out HX2.bel).alloc (by have := HR5.out.lt; have := HX2.bas; omega) (.cells #[.slice AX2 M cX2, .slice AE2 N cE2, .slice AH2 N cH2] 29)
          obtain ⟨gH2, hgH⟩ := own_some (n := N) (A := AH2) (HX2.held.own 2 _ rfl) (by omega)
          subst hgH
          obtain ⟨hch, hfh, hzh, hbh⟩ := HX3.cell (i := 2) (j := u) rfl hu (lvs_at (by rw [HS.out.lh]; exact hu))
          have nh := own_apart (n := N) (g := gH2) (HX3.held.own 2 _ rfl) HP3 (show (3 : TypeId) ≠ 29 by decide)
          have HX4 := HX3.put (i := 2) rfl u (.int .i64 (x + 1))
          simp only [List.set_cons_succ, List.set_cons_zero] at HX4
          rw [← lvs_set] at HX4
          have HP4 := HP3.far (p := ⟨gH2, u, none⟩) nh (.int .i64 (x + 1))
          have R7 := R6.far (p := ⟨gH2, u, none⟩) (by have := HR5.out.lt; simp; omega) (.int .i64 (x + 1))
          have hx7 : Hx w5 ((w6.alloc (.cells #[.slice AX2 M cX2, .slice AE2 N cE2, .slice (some ⟨gH2, 0, none⟩) N cH2] 29)).setCell ⟨gH2, u, none⟩ (.int .i64 (x + 1))) w5.heap.size (pstR M N N ⟨AX2, cX2, AE2, cE2, some ⟨gH2, 0, none⟩, cH2⟩ X E (H.set u (x + 1))) := HX4
          have X7 := Lib.hid hx7; have R8 := Lib.hid R7
          clear a0 a1 a2 a3 a4 a5 a6 a7 a8 p0 p1 p2 hz1 hz2
          obtain ⟨⟨p0, p1, p2⟩, -, hz2⟩ := HP3.full3
          obtain ⟨⟨d0, d1, d2⟩, -, hz4⟩ := HP4.full3
          obtain ⟨⟨r0, r1, r2⟩, ⟨s0, s1, s2⟩, hz3⟩ := R7.full3
          clear HX4 HP4 R7 R6 HX3 HX2 nh HP3 hx7
          go_wp2_with fail
          have hr5 := HR5.out.lt; have hw5 := HB5.out.size
          have K9 := R8.out.put3 (x := .slice AX2 M cX2) (y := .slice AE2 N cE2) (z := .slice (some ⟨gH2, 0, none⟩) N cH2)
          have X9 := (X7.out.low (base' := w.heap.size) hw5 HB5.out).put3 (x := .slice AX2 M cX2) (y := .slice AE2 N cE2) (z := .slice (some ⟨gH2, 0, none⟩) N cH2) R8.out pst_ne (by omega)
          obtain ⟨⟨q0, q1, q2⟩, -, -⟩ := K9.full3
          dsimp only [put3] at q0 q1 q2
          refine bodyPost_ret (v := .tuple #[.agg #[.slice AX2 M cX2, .slice AE2 N cE2, .slice (some ⟨gH2, 0, none⟩) N cH2], .int .i64 0]) (by simp [results, Try.results26, go_sem, q0, q1, q2]) rfl ⟨⟨AX2, cX2, AE2, cE2, some ⟨gH2, 0, none⟩, cH2⟩, ?_, ?_⟩
          · rw [HS.out.bal.1, HS.out.le, List.length_set, HS.out.lh]
          · rw [HS.out.bal.1, HS.out.le, List.length_set, HS.out.lh]
            exact X9
  · have hC2 : liftC N s t fst hd rv X E H u = 2 := if_pos hr
    have hps : liftS N s t fst hd rv X E H u = ([], [], []) := by unfold liftS; rw [hC2]; rfl
    obtain rfl := HRR.out.symm.trans hps
    obtain rfl := HCC.out.symm.trans hC2
    clear hps hC2
    have hix := fun W => pindex_no (i := u) (n := (N : Int)) hr W
    have HIX := Lib.hid hix
    clear hix hr
    go_enter Try.func26, Try.ntmps26
    go_wp2_with fail
    rw [HW1.out]
    clear HW1
    have hq1 := HC1.out
    obtain ⟨a0, a1, a2, a3, a4, a5, a6, a7, a8⟩ := hq1.at9
    have hz1 := hq1.lt
    clear hq1
    obtain ⟨⟨p0, p1, p2⟩, -, hz2⟩ := HP1.out.full3
    refine (HF.out _ HB1.out).mono ?_
    rintro e w2 ⟨rfl, B2⟩
    have HC2 := Lib.hid (HC1.out.below B2 HC1.out.lt); have HP2 := Lib.hid (HP1.out.below B2 HP1.out.lt); have HR2 := Lib.hid (HR1.out.below B2 HR1.out.lt)
    have HB2 := Lib.hid (below_step HB1.out B2)
    clear B2 HC1 HP1 HR1 HB1 a0 a1 a2 a3 a4 a5 a6 a7 a8 p0 p1 p2 hz1 hz2
    have hq2 := HC2.out
    obtain ⟨a0, a1, a2, a3, a4, a5, a6, a7, a8⟩ := hq2.at9
    have hz1 := hq2.lt
    clear hq2
    obtain ⟨⟨p0, p1, p2⟩, -, hz2⟩ := HP2.out.full3
    go_wp2_with fail
    refine (HIX.out _).mono ?_
    rintro e _ ⟨rfl, rfl⟩
    obtain ⟨⟨r0, r1, r2⟩, ⟨s0, s1, s2⟩, hz3⟩ := HR2.out.full3
    go_wp2_with fail
    have K9 := HR2.out.put3 (x := .slice none 0 0) (y := .slice none 0 0) (z := .slice none 0 0)
    have B9 := below_put3 (g := w.heap.size + 1 + 1) (x := .slice none 0 0) (y := .slice none 0 0) (z := .slice none 0 0) HB2.out (by omega)
    obtain ⟨⟨q0, q1, q2⟩, -, -⟩ := K9.full3
    dsimp only [put3] at q0 q1 q2
    refine bodyPost_ret (v := .tuple #[.agg #[.slice none 0 0, .slice none 0 0, .slice none 0 0], .int .i64 2]) (by simp [results, Try.results26, go_sem, q0, q1, q2]) rfl ⟨⟨none, 0, none, 0, none, 0⟩, rfl, nil_st B9 B9.size⟩

end Go.Proofs.Ytanifbofjecpmaa
