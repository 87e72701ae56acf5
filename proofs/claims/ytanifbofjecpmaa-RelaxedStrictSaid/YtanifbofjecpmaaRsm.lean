/- Layer 9: the statements' own same and fitted. -/
import Derived.Test.YtanifbofjecpmaaLongc
import Derived.Test.YtanifbofjecpmaaSomes
import Derived.Test.YtanifbofjecpmaaRlc
import Derived.StillTailTactics
namespace Go.Proofs.Ytanifbofjecpmaa
open Go.RowKit
set_option maxRecDepth 100000

set_option maxHeartbeats 2000000 in
theorem rsame_is (nX nE nH mX mE mH : Nat) (Q R : PreS) (X E H X' E' H' : List Int) (r : Bool) (w : World) (hQ : StIn w w.heap.size nX nE nH Q X E H) (hR : StIn w w.heap.size mX mE mH R X' E' H') (hX : nX ≤ 17592186044416) (hE : nE ≤ 17592186044416) (hH : nH ≤ 17592186044416) (kX : mX ≤ 17592186044416) (kE : mE ≤ 17592186044416) (kH : mH ≤ 17592186044416)
    (hr : r = decide (X = X' ∧ E = E' ∧ H = H')) :
    Calls Try.prog 15 #[preW nX nE nH Q, preW mX mE mH R] w fun e w' => e = .returned (.bool r) ∧ Below w.heap.size w w' := by
  have h1 := fun v hv W (hb : Below w.heap.size w W) => longs_is Q.cX R.cX (hQ.on hb).iX (hR.on hb).iX hX kX (v := v) hv
  have h2 := fun v hv W (hb : Below w.heap.size w W) => longs_is Q.cE R.cE (hQ.on hb).iE (hR.on hb).iE hE kE (v := v) hv
  have h3 := fun v hv W (hb : Below w.heap.size w W) => ints_is Q.cH R.cH (hQ.on hb).iH (hR.on hb).iH hH kH (v := v) hv
  have H1 := Lib.hid h1; have H2 := Lib.hid h2; have H3 := Lib.hid h3; have HR := Lib.hid hr
  clear h1 h2 h3 hQ hR hr
  obtain ⟨AX, cX, AE, cE, AHH, cHH⟩ := Q
  obtain ⟨AX', cX', AE', cE', AHH', cHH'⟩ := R
  dsimp only [preW] at H1 H2 H3 ⊢
  obtain ⟨w1, hw1⟩ : ∃ W, ((w.alloc (.cells #[.slice AX nX cX, .slice AE nE cE, .slice AHH nH cHH] 29)).alloc (.cells #[.slice AX' mX cX', .slice AE' mE cE', .slice AHH' mH cHH'] 29)) = W := ⟨_, rfl⟩
  have B1 : Below w.heap.size w w1 := by rw [← hw1]; exact (below_alloc _).alloc (by simp) _
  have HP1 := Lib.hid (show Blk w1 w.heap.size 29 #[.slice AX nX cX, .slice AE nE cE, .slice AHH nH cHH] by rw [← hw1]; exact (Blk.new rfl).alloc _)
  have HO1 := Lib.hid (show Blk w1 (w.heap.size + 1) 29 #[.slice AX' mX cX', .slice AE' mE cE', .slice AHH' mH cHH'] by rw [← hw1]; exact Blk.new (by simp))
  have HB1 := Lib.hid B1
  clear B1
  obtain ⟨⟨p0, p1, p2⟩, -, hz1⟩ := HP1.out.full3
  obtain ⟨⟨q0, q1, q2⟩, -, hz2⟩ := HO1.out.full3
  go_enter Try.func15, Try.ntmps15
  go_wp2_with fail
  clear hw1
  by_cases e1 : X = X'
  · refine (H1.out true (decide_eq_true e1) _ HB1.out).mono ?_
    rintro e w2 ⟨rfl, B2⟩
    have HB2 := Lib.hid (below_step HB1.out B2); have HP2 := Lib.hid (HP1.out.below B2 HP1.out.lt); have HO2 := Lib.hid (HO1.out.below B2 HO1.out.lt)
    clear B2 p0 p1 p2 q0 q1 q2 hz1 hz2
    obtain ⟨⟨p0, p1, p2⟩, -, hz1⟩ := HP2.out.full3
    obtain ⟨⟨q0, q1, q2⟩, -, hz2⟩ := HO2.out.full3
    go_wp2_with fail
    by_cases e2 : E = E'
    · refine (H2.out true (decide_eq_true e2) _ HB2.out).mono ?_
      rintro e w3 ⟨rfl, B3⟩
      have HB3 := Lib.hid (below_step HB2.out B3); have HP3 := Lib.hid (HP2.out.below B3 HP2.out.lt); have HO3 := Lib.hid (HO2.out.below B3 HO2.out.lt)
      clear B3 p0 p1 p2 q0 q1 q2 hz1 hz2
      obtain ⟨⟨p0, p1, p2⟩, -, hz1⟩ := HP3.out.full3
      obtain ⟨⟨q0, q1, q2⟩, -, hz2⟩ := HO3.out.full3
      go_wp2_with fail
      refine (H3.out _ rfl _ HB3.out).mono ?_
      rintro e w4 ⟨rfl, B4⟩
      go_wp2_with fail
      go_ret
      exact ⟨ret_bool (by rw [HR.out]; simp [e1, e2]), below_step HB3.out B4⟩
    · refine (H2.out false (decide_eq_false e2) _ HB2.out).mono ?_
      rintro e w3 ⟨rfl, B3⟩
      go_wp2_with fail
      go_ret
      exact ⟨ret_bool (by rw [HR.out]; simp [e2]), below_step HB2.out B3⟩
  · refine (H1.out false (decide_eq_false e1) _ HB1.out).mono ?_
    rintro e w2 ⟨rfl, B2⟩
    go_wp2_with fail
    go_ret
    exact ⟨ret_bool (by rw [HR.out]; simp [e1]), below_step HB1.out B2⟩


abbrev actW (e : EvS) (raw : Bool) (fit : Int) : Value := .agg #[.int .i64 e.who, .int .u8 e.what, .int .i64 e.u, .int .i64 e.arc, .int .i64 e.d, .int .i64 e.h, .int .i64 e.low, .bool raw, .int .u8 fit]
/-- What lies there in fitted: e is the move made to fit. -/
structure FitS (w W : World) (N M s t : Nat) (K : CsrS) (Q : PreS) (who what u arc d h low : Int) (raw : Bool) (fit : Int) (ewho ewhat eu earc ed eh elow : Int) : Prop where
  bel : Below w.heap.size w W
  csr : Blk W w.heap.size 32 #[.int .i64 (N : Int), .int .i64 (s : Int), .int .i64 (t : Int), .slice K.AF (N + 1) K.cF, .slice K.AH M K.cH, .slice K.AR M K.cR, .slice K.AC M K.cC, .slice K.AA M K.cA, .slice K.AB M K.cB]
  pre : Blk W (w.heap.size + 1) 29 #[.slice Q.AX M Q.cX, .slice Q.AE N Q.cE, .slice Q.AH N Q.cH]
  act : Blk W (w.heap.size + 1 + 1) 41 #[.int .i64 who, .int .u8 what, .int .i64 u, .int .i64 arc, .int .i64 d, .int .i64 h, .int .i64 low, .bool raw, .int .u8 fit]
  res : Blk W (w.heap.size + 1 + 1 + 1) 39 #[.int .i64 0, .int .u8 0, .int .i64 0, .int .i64 0, .int .i64 0, .int .i64 0, .int .i64 0]
  ev : Blk W (w.heap.size + 1 + 1 + 1 + 1) 39 #[.int .i64 ewho, .int .u8 ewhat, .int .i64 eu, .int .i64 earc, .int .i64 ed, .int .i64 eh, .int .i64 elow]
section
variable {w W W' : World} {N M s t : Nat} {K : CsrS} {Q : PreS} {who what u arc d h low : Int} {raw : Bool} {fit : Int} {ewho ewhat eu earc ed eh elow x : Int}
theorem FitS.cells (h0 : FitS w W N M s t K Q who what u arc d h low raw fit ewho ewhat eu earc ed eh elow) :
    W.cell? ⟨w.heap.size, 0, none⟩ = some (.int .i64 (N : Int)) ∧ W.cell? ⟨w.heap.size, 1, none⟩ = some (.int .i64 (s : Int)) ∧ W.cell? ⟨w.heap.size, 2, none⟩ = some (.int .i64 (t : Int)) ∧ W.cell? ⟨w.heap.size, 3, none⟩ = some (.slice K.AF (N + 1) K.cF) ∧ W.cell? ⟨w.heap.size, 4, none⟩ = some (.slice K.AH M K.cH) ∧
      W.cell? ⟨w.heap.size, 5, none⟩ = some (.slice K.AR M K.cR) ∧ W.cell? ⟨w.heap.size, 6, none⟩ = some (.slice K.AC M K.cC) ∧ W.cell? ⟨w.heap.size, 7, none⟩ = some (.slice K.AA M K.cA) ∧ W.cell? ⟨w.heap.size, 8, none⟩ = some (.slice K.AB M K.cB) ∧
      W.cell? ⟨w.heap.size + 1, 0, none⟩ = some (.slice Q.AX M Q.cX) ∧ W.cell? ⟨w.heap.size + 1, 1, none⟩ = some (.slice Q.AE N Q.cE) ∧ W.cell? ⟨w.heap.size + 1, 2, none⟩ = some (.slice Q.AH N Q.cH) ∧
      W.cell? ⟨w.heap.size + 1 + 1, 7, none⟩ = some (.bool raw) ∧ W.cell? ⟨w.heap.size + 1 + 1, 8, none⟩ = some (.int .u8 fit) ∧ True ∧
      W.cell? ⟨w.heap.size + 1 + 1 + 1 + 1, 0, none⟩ = some (.int .i64 ewho) ∧ W.cell? ⟨w.heap.size + 1 + 1 + 1 + 1, 1, none⟩ = some (.int .u8 ewhat) ∧ W.cell? ⟨w.heap.size + 1 + 1 + 1 + 1, 2, none⟩ = some (.int .i64 eu) ∧ W.cell? ⟨w.heap.size + 1 + 1 + 1 + 1, 3, none⟩ = some (.int .i64 earc) ∧
      W.cell? ⟨w.heap.size + 1 + 1 + 1 + 1, 4, none⟩ = some (.int .i64 ed) ∧ W.cell? ⟨w.heap.size + 1 + 1 + 1 + 1, 5, none⟩ = some (.int .i64 eh) ∧ W.cell? ⟨w.heap.size + 1 + 1 + 1 + 1, 6, none⟩ = some (.int .i64 elow) ∧ w.heap.size + 1 + 1 + 1 + 1 < W.heap.size := by
  obtain ⟨a0, a1, a2, a3, a4, a5, a6, a7, a8⟩ := h0.csr.at9
  obtain ⟨⟨p0, p1, p2⟩, -, -⟩ := h0.pre.full3
  obtain ⟨-, -, -, -, -, -, -, x7, x8⟩ := h0.act.at9
  obtain ⟨v0, v1, v2, v3, v4, v5, v6⟩ := h0.ev.at7
  exact ⟨a0, a1, a2, a3, a4, a5, a6, a7, a8, p0, p1, p2, x7, x8, trivial, v0, v1, v2, v3, v4, v5, v6, h0.ev.lt⟩
theorem FitS.free (h0 : FitS w W N M s t K Q who what u arc d h low raw fit ewho ewhat eu earc ed eh elow) :
    (W.frozen? ⟨w.heap.size + 1 + 1 + 1, 0, none⟩ = false ∧ W.frozen? ⟨w.heap.size + 1 + 1 + 1, 1, none⟩ = false ∧ W.frozen? ⟨w.heap.size + 1 + 1 + 1, 2, none⟩ = false ∧ W.frozen? ⟨w.heap.size + 1 + 1 + 1, 3, none⟩ = false ∧ W.frozen? ⟨w.heap.size + 1 + 1 + 1, 4, none⟩ = false ∧ W.frozen? ⟨w.heap.size + 1 + 1 + 1, 5, none⟩ = false ∧ W.frozen? ⟨w.heap.size + 1 + 1 + 1, 6, none⟩ = false) ∧
    (W.frozen? ⟨w.heap.size + 1 + 1 + 1 + 1, 0, none⟩ = false ∧ W.frozen? ⟨w.heap.size + 1 + 1 + 1 + 1, 1, none⟩ = false ∧ W.frozen? ⟨w.heap.size + 1 + 1 + 1 + 1, 2, none⟩ = false ∧ W.frozen? ⟨w.heap.size + 1 + 1 + 1 + 1, 3, none⟩ = false ∧ W.frozen? ⟨w.heap.size + 1 + 1 + 1 + 1, 4, none⟩ = false ∧ W.frozen? ⟨w.heap.size + 1 + 1 + 1 + 1, 5, none⟩ = false ∧ W.frozen? ⟨w.heap.size + 1 + 1 + 1 + 1, 6, none⟩ = false) :=
  ⟨⟨h0.res.frozen 0, h0.res.frozen 1, h0.res.frozen 2, h0.res.frozen 3, h0.res.frozen 4, h0.res.frozen 5, h0.res.frozen 6⟩, ⟨h0.ev.frozen 0, h0.ev.frozen 1, h0.ev.frozen 2, h0.ev.frozen 3, h0.ev.frozen 4, h0.ev.frozen 5, h0.ev.frozen 6⟩⟩
theorem FitS.drewN (h0 : FitS w W N M s t K Q who what u arc d h low raw fit ewho ewhat eu earc ed eh elow) (n : Nat) : FitS w (W.drewN n) N M s t K Q who what u arc d h low raw fit ewho ewhat eu earc ed eh elow :=
  ⟨below_drewN' h0.bel n, h0.csr.drewN n, h0.pre.drewN n, h0.act.drewN n, h0.res.drewN n, h0.ev.drewN n⟩
theorem FitS.put (h0 : FitS w W N M s t K Q who what u arc d h low raw fit ewho ewhat eu earc ed eh elow) (i : Nat) (v : Value) {cs : Array Value} (hc : (#[.int .i64 ewho, .int .u8 ewhat, .int .i64 eu, .int .i64 earc, .int .i64 ed, .int .i64 eh, .int .i64 elow] : Array Value).setIfInBounds i v = cs)
    {fwho fwhat fu farc fd fh flow : Int} (hf : cs = #[.int .i64 fwho, .int .u8 fwhat, .int .i64 fu, .int .i64 farc, .int .i64 fd, .int .i64 fh, .int .i64 flow]) :
    FitS w (W.setCell ⟨w.heap.size + 1 + 1 + 1 + 1, i, none⟩ v) N M s t K Q who what u arc d h low raw fit fwho fwhat fu farc fd fh flow :=
  ⟨h0.bel.setCell (by simp <;> omega) _, h0.csr.far (by simp <;> omega) _, h0.pre.far (by simp <;> omega) _, h0.act.far (by simp) _, h0.res.far (by simp) _, by have := h0.ev.set i v; rw [hc, hf] at this; exact this⟩
/-- The result stored, and returned. -/
theorem FitS.out7 (h0 : FitS w W N M s t K Q who what u arc d h low raw fit ewho ewhat eu earc ed eh elow) {y0 y1 y2 y3 y4 y5 y6 : Value} :
    Below w.heap.size w (((((((W.setCell ⟨w.heap.size + 1 + 1 + 1, 0, none⟩ y0).setCell ⟨w.heap.size + 1 + 1 + 1, 1, none⟩ y1).setCell ⟨w.heap.size + 1 + 1 + 1, 2, none⟩ y2).setCell ⟨w.heap.size + 1 + 1 + 1, 3, none⟩ y3).setCell ⟨w.heap.size + 1 + 1 + 1, 4, none⟩ y4).setCell ⟨w.heap.size + 1 + 1 + 1, 5, none⟩ y5).setCell ⟨w.heap.size + 1 + 1 + 1, 6, none⟩ y6) ∧
    Blk (((((((W.setCell ⟨w.heap.size + 1 + 1 + 1, 0, none⟩ y0).setCell ⟨w.heap.size + 1 + 1 + 1, 1, none⟩ y1).setCell ⟨w.heap.size + 1 + 1 + 1, 2, none⟩ y2).setCell ⟨w.heap.size + 1 + 1 + 1, 3, none⟩ y3).setCell ⟨w.heap.size + 1 + 1 + 1, 4, none⟩ y4).setCell ⟨w.heap.size + 1 + 1 + 1, 5, none⟩ y5).setCell ⟨w.heap.size + 1 + 1 + 1, 6, none⟩ y6) (w.heap.size + 1 + 1 + 1) 39 #[y0, y1, y2, y3, y4, y5, y6] :=
  ⟨((((((h0.bel.setCell (by simp <;> omega) _).setCell (by simp <;> omega) _).setCell (by simp <;> omega) _).setCell (by simp <;> omega) _).setCell (by simp <;> omega) _).setCell (by simp <;> omega) _).setCell (by simp <;> omega) _, ((((((h0.res.set 0 y0).set 1 y1).set 2 y2).set 3 y3).set 4 y4).set 5 y5).set 6 y6⟩
end
/-- The call returned some move. -/
def RetEv (w : World) (e : Ending) (w' : World) : Prop := ∃ ev : EvS, e = .returned (evW ev) ∧ Below w.heap.size w w'

set_option maxHeartbeats 8000000 in
theorem fitted_is (N M s t : Nat) (K : CsrS) (Q : PreS) (fst hd rv : Nat → Nat) (X E H : List Int) (ev : EvS) (raw : Bool) (fit : Int) (w : World) (hG : Grid N M fst hd rv) (hI : GridIn w w.heap.size N M K fst hd rv) (hQ : StIn w w.heap.size M N N Q X E H) (hN : N ≤ 4096) (hn : 2 ≤ N) (hM : M ≤ 32768) :
    Calls Try.prog 12 #[csrW N M s t K, preW M N N Q, actW ev raw fit] w (RetEv w) := by
  have HG := Lib.hid hG; have HI := Lib.hid hI; have HQ := Lib.hid hQ
  have ham := fun x n W h1 h2 => among_any x n W h1 h2
  have HAM := Lib.hid ham
  obtain ⟨AF, cF, AH, cH, AR, cR, AC, cC, AA, cA, AB, cB⟩ := K
  obtain ⟨AX, cX, AE, cE, AHH, cHH⟩ := Q
  obtain ⟨who, what, eu, arc, d0, h0, low⟩ := ev
  dsimp only [csrW, preW, actW]
  clear hG hI hQ ham
  go_enter Try.func12, Try.ntmps12
  go_upto_region 2 with fail
  obtain ⟨w1, hw1⟩ : ∃ w1, (((((w.alloc (.cells #[.int .i64 (N : Int), .int .i64 (s : Int), .int .i64 (t : Int), .slice AF (N + 1) cF, .slice AH M cH, .slice AR M cR, .slice AC M cC, .slice AA M cA, .slice AB M cB] 32)).alloc (.cells #[.slice AX M cX, .slice AE N cE, .slice AHH N cHH] 29)).alloc (.cells #[.int .i64 who, .int .u8 what, .int .i64 eu, .int .i64 arc, .int .i64 d0, .int .i64 h0, .int .i64 low, .bool raw, .int .u8 fit] 41)).alloc (.cells #[.int .i64 0, .int .u8 0, .int .i64 0, .int .i64 0, .int .i64 0, .int .i64 0, .int .i64 0] 39)).alloc (.cells #[.int .i64 who, .int .u8 what, .int .i64 eu, .int .i64 arc, .int .i64 d0, .int .i64 h0, .int .i64 low] 39)) = w1 := ⟨_, rfl⟩
  have B1 : Below w.heap.size w w1 := by rw [← hw1]; exact (((((Below.refl _ w).alloc (Nat.le_refl _) _).alloc (by simp) _).alloc (by simp <;> omega) _).alloc (by simp <;> omega) _).alloc (by simp <;> omega) _
  have C1 : Blk w1 w.heap.size 32 #[.int .i64 (N : Int), .int .i64 (s : Int), .int .i64 (t : Int), .slice AF (N + 1) cF, .slice AH M cH, .slice AR M cR, .slice AC M cC, .slice AA M cA, .slice AB M cB] := by rw [← hw1]; exact ((((Blk.new rfl).alloc _).alloc _).alloc _).alloc _
  have P1 : Blk w1 (w.heap.size + 1) 29 #[.slice AX M cX, .slice AE N cE, .slice AHH N cHH] := by rw [← hw1]; exact (((Blk.new (by simp)).alloc _).alloc _).alloc _
  have A1 : Blk w1 (w.heap.size + 1 + 1) 41 #[.int .i64 who, .int .u8 what, .int .i64 eu, .int .i64 arc, .int .i64 d0, .int .i64 h0, .int .i64 low, .bool raw, .int .u8 fit] := by rw [← hw1]; exact ((Blk.new (by simp)).alloc _).alloc _
  have R1 : Blk w1 (w.heap.size + 1 + 1 + 1) 39 #[.int .i64 0, .int .u8 0, .int .i64 0, .int .i64 0, .int .i64 0, .int .i64 0, .int .i64 0] := by rw [← hw1]; exact (Blk.new (by simp)).alloc _
  have V1 : Blk w1 (w.heap.size + 1 + 1 + 1 + 1) 39 #[.int .i64 who, .int .u8 what, .int .i64 eu, .int .i64 arc, .int .i64 d0, .int .i64 h0, .int .i64 low] := by rw [← hw1]; exact Blk.new (by simp)
  rw [hw1]
  clear hw1
  have hS1 : FitS w w1 N M s t ⟨AF, cF, AH, cH, AR, cR, AC, cC, AA, cA, AB, cB⟩ ⟨AX, cX, AE, cE, AHH, cHH⟩ who what eu arc d0 h0 low raw fit who what eu arc d0 h0 low := ⟨B1, C1, P1, A1, R1, V1⟩
  clear B1 C1 P1 A1 R1 V1
  obtain ⟨a0, a1, a2, a3, a4, a5, a6, a7, a8, p0, p1, p2, x0, x1, x2, v0, v1, v2, v3, v4, v5, v6, hz⟩ := hS1.cells
  obtain ⟨⟨f0, f1, f2, f3, f4, f5, f6⟩, ⟨g0, g1, g2, g3, g4, g5, g6⟩⟩ := hS1.free
  obtain ⟨y0, y1, y2, y3, y4, y5, y6⟩ := hS1.res.at7
  cases raw with
  | true =>
    go_wp2_with fail
    obtain ⟨BF, RF⟩ := hS1.out7 (y0 := .int .i64 who) (y1 := .int .u8 what) (y2 := .int .i64 eu) (y3 := .int .i64 arc) (y4 := .int .i64 d0) (y5 := .int .i64 h0) (y6 := .int .i64 low)
    obtain ⟨k0, k1, k2, k3, k4, k5, k6⟩ := RF.at7
    refine bodyPost_ret (v := .agg #[.int .i64 who, .int .u8 what, .int .i64 eu, .int .i64 arc, .int .i64 d0, .int .i64 h0, .int .i64 low]) (by simp [results, Try.results12, go_sem, k0, k1, k2, k3, k4, k5, k6]) rfl ?_
    exact ⟨⟨who, what, eu, arc, d0, h0, low⟩, rfl, BF⟩
  | false =>
    go_upto_region 5 with fail
    obtain ⟨wv, hwv⟩ : ∃ wv, (1 + bits BinOp.and IntKind.u8 fit 1) % 256 = wv := ⟨_, rfl⟩
    simp only [hwv]
    obtain ⟨w5, hw5⟩ : ∃ WW, w1.setCell ⟨w.heap.size + 1 + 1 + 1 + 1, 1, none⟩ (.int .u8 wv) = WW := ⟨_, rfl⟩
    have hS5 := hS1.put 1 (.int .u8 wv) rfl rfl
    rw [hw5] at hS5 ⊢
    clear a0 a1 a2 a3 a4 a5 a6 a7 a8 p0 p1 p2 x0 x1 x2 v0 v1 v2 v3 v4 v5 v6 hz f0 f1 f2 f3 f4 f5 f6 g0 g1 g2 g3 g4 g5 g6 y0 y1 y2 y3 y4 y5 y6 hw5
    clear hS1
    obtain ⟨a0, a1, a2, a3, a4, a5, a6, a7, a8, p0, p1, p2, x0, x1, x2, v0, v1, v2, v3, v4, v5, v6, hz⟩ := hS5.cells
    try dsimp only at a3 a4 a5 a6 a7 a8 p0 p1 p2
    obtain ⟨⟨f0, f1, f2, f3, f4, f5, f6⟩, ⟨g0, g1, g2, g3, g4, g5, g6⟩⟩ := hS5.free
    obtain ⟨y0, y1, y2, y3, y4, y5, y6⟩ := hS5.res.at7
    obtain ⟨u, hu⟩ : ∃ u : Nat, eu % (N : Int) = (u : Int) := ⟨(eu % (N : Int)).toNat, by have := Int.emod_nonneg eu (show (N : Int) ≠ 0 by omega); omega⟩
    have huN : u < N := by have := Int.emod_lt_of_pos eu (show 0 < (N : Int) by omega); omega
    have hb5 := hS5.bel.size
    have HU := Lib.hid hu
    clear hwv hu
    go_wp2_with fail
    refine (HAM.out _ _ _ (by omega) (by omega)).mono ?_
    rintro e W ⟨rfl, rfl⟩
    rw [HU.out]
    go_upto_region 6 with fail
    obtain ⟨w6, hw6⟩ : ∃ WW, W.setCell ⟨w.heap.size + 1 + 1 + 1 + 1, 2, none⟩ (.int .i64 (u : Int)) = WW := ⟨_, rfl⟩
    have hS6 := hS5.put 2 (.int .i64 (u : Int)) rfl rfl
    rw [hw6] at hS6 ⊢
    clear a0 a1 a2 a3 a4 a5 a6 a7 a8 p0 p1 p2 x0 x1 x2 v0 v1 v2 v3 v4 v5 v6 hz f0 f1 f2 f3 f4 f5 f6 g0 g1 g2 g3 g4 g5 g6 y0 y1 y2 y3 y4 y5 y6 hw6
    clear hS5
    obtain ⟨a0, a1, a2, a3, a4, a5, a6, a7, a8, p0, p1, p2, x0, x1, x2, v0, v1, v2, v3, v4, v5, v6, hz⟩ := hS6.cells
    try dsimp only at a3 a4 a5 a6 a7 a8 p0 p1 p2
    obtain ⟨⟨f0, f1, f2, f3, f4, f5, f6⟩, ⟨g0, g1, g2, g3, g4, g5, g6⟩⟩ := hS6.free
    obtain ⟨y0, y1, y2, y3, y4, y5, y6⟩ := hS6.res.at7
    have hh := fun W (hb : Below w.heap.size w W) => hOf_cel (HQ.out.on hb).iH huN
    obtain ⟨y, hy⟩ : ∃ y, hOf H u = y := ⟨_, rfl⟩
    obtain ⟨bH, oH, hAH, hbH, ch⟩ := hOf_cel HQ.out.iH huN
    dsimp only at hAH
    subst hAH
    rw [hy] at ch
    have hbz : bH < w6.heap.size := by have := hS6.bel.size; omega
    replace ch := (hS6.bel.cell (p := ⟨bH, oH + u, none⟩) hbH).trans ch
    have HCH := Lib.hid ch
    clear hh hy
    by_cases hw2 : wv = 2
    · have c2 : (wv == 2) = true := by simp [hw2]
      subst hw2
      obtain ⟨q1, hq1⟩ : ∃ q1, IntKind.i64.wrap (y + 1) = q1 := ⟨_, rfl⟩
      obtain ⟨am, ham⟩ : ∃ am, h0 % 3 = am := ⟨_, rfl⟩
      obtain ⟨q2, hq2⟩ : ∃ q2, IntKind.i64.wrap (q1 + am) = q2 := ⟨_, rfl⟩
      have hc3 : ∀ W, Calls Try.prog 30 #[.int .i64 h0, .int .i64 3] W fun e w' => e = .returned (.int .i64 am) ∧ w' = W := fun W => by rw [← ham]; exact HAM.out _ _ _ (by omega) (by omega)
      have HC3 := Lib.hid hc3
      clear hc3 ham
      go_wp2_with fail
      refine wp_region_still_tail 12 (by kernel_rfl) (by kernel_rfl) ?_
      simp only [List.take_succ_cons, List.take_zero, List.drop_succ_cons, List.drop_zero]
      repeat (first | still_step | still_call (HC3.out _))
      try refine wpStill_nil ?_
      change wpList _ _ _ _ _ w6.drew
      have hS7 := hS6.drewN 1
      obtain ⟨w7, hw7⟩ : ∃ WW, w6.drew = WW := ⟨_, rfl⟩
      replace hS7 : FitS w w6.drew _ _ _ _ _ _ _ _ _ _ _ _ _ _ _ _ _ _ _ _ _ _ := hS7
      rw [hw7] at hS7 ⊢
      clear a0 a1 a2 a3 a4 a5 a6 a7 a8 p0 p1 p2 x0 x1 x2 v0 v1 v2 v3 v4 v5 v6 hz f0 f1 f2 f3 f4 f5 f6 g0 g1 g2 g3 g4 g5 g6 y0 y1 y2 y3 y4 y5 y6 hw7 hS6
      obtain ⟨a0, a1, a2, a3, a4, a5, a6, a7, a8, p0, p1, p2, x0, x1, x2, v0, v1, v2, v3, v4, v5, v6, hz⟩ := hS7.cells
      try dsimp only at a3 a4 a5 a6 a7 a8 p0 p1 p2
      obtain ⟨⟨f0, f1, f2, f3, f4, f5, f6⟩, ⟨g0, g1, g2, g3, g4, g5, g6⟩⟩ := hS7.free
      obtain ⟨y0, y1, y2, y3, y4, y5, y6⟩ := hS7.res.at7
      go_upto_region 8 with fail
      obtain ⟨w8, hw8⟩ : ∃ WW, w7.setCell ⟨w.heap.size + 1 + 1 + 1 + 1, 5, none⟩ (.int .i64 q2) = WW := ⟨_, rfl⟩
      have hS8 := hS7.put 5 (.int .i64 q2) rfl rfl
      rw [hw8] at hS8 ⊢
      clear a0 a1 a2 a3 a4 a5 a6 a7 a8 p0 p1 p2 x0 x1 x2 v0 v1 v2 v3 v4 v5 v6 hz f0 f1 f2 f3 f4 f5 f6 g0 g1 g2 g3 g4 g5 g6 y0 y1 y2 y3 y4 y5 y6 hw8
      clear hS7
      obtain ⟨a0, a1, a2, a3, a4, a5, a6, a7, a8, p0, p1, p2, x0, x1, x2, v0, v1, v2, v3, v4, v5, v6, hz⟩ := hS8.cells
      try dsimp only at a3 a4 a5 a6 a7 a8 p0 p1 p2
      obtain ⟨⟨f0, f1, f2, f3, f4, f5, f6⟩, ⟨g0, g1, g2, g3, g4, g5, g6⟩⟩ := hS8.free
      obtain ⟨y0, y1, y2, y3, y4, y5, y6⟩ := hS8.res.at7
      go_wp2_with fail
      obtain ⟨BF, RF⟩ := hS8.out7 (y0 := .int .i64 who) (y1 := .int .u8 2) (y2 := .int .i64 (u : Int)) (y3 := .int .i64 arc) (y4 := .int .i64 d0) (y5 := .int .i64 q2) (y6 := .int .i64 low)
      obtain ⟨k0, k1, k2, k3, k4, k5, k6⟩ := RF.at7
      refine bodyPost_ret (v := .agg #[.int .i64 who, .int .u8 2, .int .i64 (u : Int), .int .i64 arc, .int .i64 d0, .int .i64 q2, .int .i64 low]) (by simp [results, Try.results12, go_sem, k0, k1, k2, k3, k4, k5, k6]) rfl ?_
      exact ⟨⟨who, 2, (u : Int), arc, d0, q2, low⟩, rfl, BF⟩
    · have c2 : (wv == 2) = false := by simpa using hw2
      obtain ⟨r1, hr1⟩ : ∃ r1, IntKind.i64.wrap (y - 1) = r1 := ⟨_, rfl⟩
      obtain ⟨al, hal⟩ : ∃ al, low % 2 = al := ⟨_, rfl⟩
      obtain ⟨r2, hr2⟩ : ∃ r2, IntKind.i64.wrap (r1 - al) = r2 := ⟨_, rfl⟩
      have hc3 : ∀ W, Calls Try.prog 30 #[.int .i64 low, .int .i64 2] W fun e w' => e = .returned (.int .i64 al) ∧ w' = W := fun W => by rw [← hal]; exact HAM.out _ _ _ (by omega) (by omega)
      have HC2 := Lib.hid hc3
      obtain ⟨bF, oF, hAF⟩ := HI.out.iF.adr (by omega)
      dsimp only at hAF
      subst hAF
      obtain ⟨hbF, cf0⟩ := tab_cell (k := u) HI.out.iF (by omega)
      obtain ⟨-, cf1⟩ := tab_cell (k := u + 1) HI.out.iF (by omega)
      have hmono := HG.out.mono u huN
      have hfle := HG.out.fle (v := u + 1) (by omega)
      obtain ⟨k0, hk0⟩ : ∃ k0, fst u = k0 := ⟨_, rfl⟩
      obtain ⟨k1, hk1⟩ : ∃ k1, fst (u + 1) = k1 := ⟨_, rfl⟩
      rw [hk0] at cf0 hmono
      rw [hk1] at cf1 hmono hfle
      have CF00 := Lib.hid cf0
      have CH0 : Hid (w.cell? ⟨bH, oH + u, none⟩ = some (.int .i64 y)) := Lib.hid ((hS6.bel.cell (p := ⟨bH, oH + u, none⟩) hbH).symm.trans HCH.out)
      replace cf0 := (hS6.bel.cell (p := ⟨bF, oF + u, none⟩) hbF).trans cf0
      replace cf1 := (hS6.bel.cell (p := ⟨bF, oF + (u + 1), none⟩) hbF).trans cf1
      have hbFz : bF < w6.heap.size := by have := hS6.bel.size; omega
      have hwu : IntKind.i64.wrap ((u : Int) + 1) = (u : Int) + 1 := wrap_in (by omega) (by omega)
      have hu0 : (0 : Int) ≤ (u : Int) + 1 := by omega
      have hu1 : ((u : Int) + 1).toNat = u + 1 := by omega
      obtain ⟨mm, hmm⟩ : ∃ mm : Int, (k1 : Int) - (k0 : Int) = mm := ⟨_, rfl⟩
      have hwm : IntKind.i64.wrap ((k1 : Int) - (k0 : Int)) = mm := by rw [← hmm]; exact wrap_in (by omega) (by omega)
      have HMM := Lib.hid hmm
      clear hc3 hal hk0 hk1 hmm ch hw2
      go_wp2_with fail
      go_quiet (fail)
      clear cf0 cf1 hbFz hwu hu0 hu1 hwm hbz
      have hS7 := hS6.drewN nq
      obtain ⟨w7, hw7⟩ : ∃ WW, w6.drewN nq = WW := ⟨_, rfl⟩
      rw [hw7] at hS7 ⊢
      clear a0 a1 a2 a3 a4 a5 a6 a7 a8 p0 p1 p2 x0 x1 x2 v0 v1 v2 v3 v4 v5 v6 hz f0 f1 f2 f3 f4 f5 f6 g0 g1 g2 g3 g4 g5 g6 y0 y1 y2 y3 y4 y5 y6 hw7 hS6
      obtain ⟨a0, a1, a2, a3, a4, a5, a6, a7, a8, p0, p1, p2, x0, x1, x2, v0, v1, v2, v3, v4, v5, v6, hz⟩ := hS7.cells
      try dsimp only at a3 a4 a5 a6 a7 a8 p0 p1 p2
      obtain ⟨⟨f0, f1, f2, f3, f4, f5, f6⟩, ⟨g0, g1, g2, g3, g4, g5, g6⟩⟩ := hS7.free
      obtain ⟨y0, y1, y2, y3, y4, y5, y6⟩ := hS7.res.at7
      obtain ⟨bm, hbm⟩ : ∃ bm, decide (0 < mm) = bm := ⟨_, rfl⟩
      cases bm with
      | false =>
        go_upto_region 15 with fail
        have ch : w7.cell? ⟨bH, oH + u, none⟩ = some (.int .i64 y) := (hS7.bel.cell (p := ⟨bH, oH + u, none⟩) hbH).trans CH0.out
        have hbz' : bH < w7.heap.size := by have := hS7.bel.size; omega
        go_upto_region 16 with fail
        obtain ⟨w7h, hw7h⟩ : ∃ WW, w7.setCell ⟨w.heap.size + 1 + 1 + 1 + 1, 5, none⟩ (.int .i64 y) = WW := ⟨_, rfl⟩
        have hS7h := hS7.put 5 (.int .i64 y) rfl rfl
        rw [hw7h] at hS7h ⊢
        clear a0 a1 a2 a3 a4 a5 a6 a7 a8 p0 p1 p2 x0 x1 x2 v0 v1 v2 v3 v4 v5 v6 hz f0 f1 f2 f3 f4 f5 f6 g0 g1 g2 g3 g4 g5 g6 y0 y1 y2 y3 y4 y5 y6 hw7h
        clear hS7
        obtain ⟨a0, a1, a2, a3, a4, a5, a6, a7, a8, p0, p1, p2, x0, x1, x2, v0, v1, v2, v3, v4, v5, v6, hz⟩ := hS7h.cells
        try dsimp only at a3 a4 a5 a6 a7 a8 p0 p1 p2
        obtain ⟨⟨f0, f1, f2, f3, f4, f5, f6⟩, ⟨g0, g1, g2, g3, g4, g5, g6⟩⟩ := hS7h.free
        obtain ⟨y0, y1, y2, y3, y4, y5, y6⟩ := hS7h.res.at7
        clear ch hbz'
        refine wp_region_still_tail 8 (by kernel_rfl) (by kernel_rfl) ?_
        simp only [List.take_succ_cons, List.take_zero, List.drop_succ_cons, List.drop_zero]
        repeat (first | still_step | still_call (HC2.out _))
        try refine wpStill_nil ?_
        change wpList _ _ _ _ _ w7h.drew
        have hS7i := hS7h.drewN 1
        obtain ⟨w7i, hw7i⟩ : ∃ WW, w7h.drew = WW := ⟨_, rfl⟩
        replace hS7i : FitS w w7h.drew _ _ _ _ _ _ _ _ _ _ _ _ _ _ _ _ _ _ _ _ _ _ := hS7i
        rw [hw7i] at hS7i ⊢
        clear a0 a1 a2 a3 a4 a5 a6 a7 a8 p0 p1 p2 x0 x1 x2 v0 v1 v2 v3 v4 v5 v6 hz f0 f1 f2 f3 f4 f5 f6 g0 g1 g2 g3 g4 g5 g6 y0 y1 y2 y3 y4 y5 y6 hw7i hS7h
        obtain ⟨a0, a1, a2, a3, a4, a5, a6, a7, a8, p0, p1, p2, x0, x1, x2, v0, v1, v2, v3, v4, v5, v6, hz⟩ := hS7i.cells
        try dsimp only at a3 a4 a5 a6 a7 a8 p0 p1 p2
        obtain ⟨⟨f0, f1, f2, f3, f4, f5, f6⟩, ⟨g0, g1, g2, g3, g4, g5, g6⟩⟩ := hS7i.free
        obtain ⟨y0, y1, y2, y3, y4, y5, y6⟩ := hS7i.res.at7
        go_upto_region 17 with fail
        obtain ⟨w7j, hw7j⟩ : ∃ WW, w7i.setCell ⟨w.heap.size + 1 + 1 + 1 + 1, 6, none⟩ (.int .i64 r2) = WW := ⟨_, rfl⟩
        have hS7j := hS7i.put 6 (.int .i64 r2) rfl rfl
        rw [hw7j] at hS7j ⊢
        clear a0 a1 a2 a3 a4 a5 a6 a7 a8 p0 p1 p2 x0 x1 x2 v0 v1 v2 v3 v4 v5 v6 hz f0 f1 f2 f3 f4 f5 f6 g0 g1 g2 g3 g4 g5 g6 y0 y1 y2 y3 y4 y5 y6 hw7j
        clear hS7i
        obtain ⟨a0, a1, a2, a3, a4, a5, a6, a7, a8, p0, p1, p2, x0, x1, x2, v0, v1, v2, v3, v4, v5, v6, hz⟩ := hS7j.cells
        try dsimp only at a3 a4 a5 a6 a7 a8 p0 p1 p2
        obtain ⟨⟨f0, f1, f2, f3, f4, f5, f6⟩, ⟨g0, g1, g2, g3, g4, g5, g6⟩⟩ := hS7j.free
        obtain ⟨y0, y1, y2, y3, y4, y5, y6⟩ := hS7j.res.at7
        go_wp2_with fail
        obtain ⟨BF, RF⟩ := hS7j.out7 (y0 := .int .i64 who) (y1 := .int .u8 wv) (y2 := .int .i64 (u : Int)) (y3 := .int .i64 arc) (y4 := .int .i64 d0) (y5 := .int .i64 y) (y6 := .int .i64 r2)
        obtain ⟨k0, k1, k2, k3, k4, k5, k6⟩ := RF.at7
        refine bodyPost_ret (v := .agg #[.int .i64 who, .int .u8 wv, .int .i64 (u : Int), .int .i64 arc, .int .i64 d0, .int .i64 y, .int .i64 r2]) (by simp [results, Try.results12, go_sem, k0, k1, k2, k3, k4, k5, k6]) rfl ?_
        exact ⟨⟨who, wv, (u : Int), arc, d0, y, r2⟩, rfl, BF⟩
      | true =>
        have cf0 : w7.cell? ⟨bF, oF + u, none⟩ = some (.int .i64 (k0 : Int)) := (hS7.bel.cell (p := ⟨bF, oF + u, none⟩) hbF).trans CF00.out
        have hm0 := of_decide_eq_true hbm
        have hbFz : bF < w7.heap.size := by have := hS7.bel.size; omega
        have hmv := HMM.out
        have huN1 : (u : Int) < (N : Int) + 1 := by omega
        obtain ⟨am, ham⟩ : ∃ am, arc % mm = am := ⟨_, rfl⟩
        have hc4 : ∀ W, Calls Try.prog 30 #[.int .i64 arc, .int .i64 mm] W fun e w' => e = .returned (.int .i64 am) ∧ w' = W := fun W => by rw [← ham]; exact HAM.out _ _ _ hm0 (by omega)
        have HC4 := Lib.hid hc4
        have ha1 := Int.emod_nonneg arc (show mm ≠ 0 by omega)
        have ha2 := Int.emod_lt_of_pos arc hm0
        rw [ham] at ha1 ha2
        obtain ⟨a, hae⟩ : ∃ a : Nat, (k0 : Int) + am = (a : Int) := ⟨((k0 : Int) + am).toNat, by omega⟩
        have haM : a < M := by omega
        have hwa : IntKind.i64.wrap ((k0 : Int) + am) = (a : Int) := by rw [← hae]; exact wrap_in (by omega) (by omega)
        clear hc4 ham hmv hae ha1 ha2
        go_upto_region 11 with fail
        refine wp_region_still_tail 12 (by kernel_rfl) (by kernel_rfl) ?_
        simp only [List.take_succ_cons, List.take_zero, List.drop_succ_cons, List.drop_zero]
        repeat (first | still_step | still_call (HC4.out _))
        try refine wpStill_nil ?_
        change wpList _ _ _ _ _ w7.drew
        have hS8 := hS7.drewN 1
        obtain ⟨w8, hw8⟩ : ∃ WW, w7.drew = WW := ⟨_, rfl⟩
        replace hS8 : FitS w w7.drew _ _ _ _ _ _ _ _ _ _ _ _ _ _ _ _ _ _ _ _ _ _ := hS8
        rw [hw8] at hS8 ⊢
        clear a0 a1 a2 a3 a4 a5 a6 a7 a8 p0 p1 p2 x0 x1 x2 v0 v1 v2 v3 v4 v5 v6 hz f0 f1 f2 f3 f4 f5 f6 g0 g1 g2 g3 g4 g5 g6 y0 y1 y2 y3 y4 y5 y6 hw8 hS7
        obtain ⟨a0, a1, a2, a3, a4, a5, a6, a7, a8, p0, p1, p2, x0, x1, x2, v0, v1, v2, v3, v4, v5, v6, hz⟩ := hS8.cells
        try dsimp only at a3 a4 a5 a6 a7 a8 p0 p1 p2
        obtain ⟨⟨f0, f1, f2, f3, f4, f5, f6⟩, ⟨g0, g1, g2, g3, g4, g5, g6⟩⟩ := hS8.free
        obtain ⟨y0, y1, y2, y3, y4, y5, y6⟩ := hS8.res.at7
        clear cf0 hbFz huN1
        go_upto_region 12 with fail
        obtain ⟨w9, hw9⟩ : ∃ WW, w8.setCell ⟨w.heap.size + 1 + 1 + 1 + 1, 3, none⟩ (.int .i64 (a : Int)) = WW := ⟨_, rfl⟩
        have hS9 := hS8.put 3 (.int .i64 (a : Int)) rfl rfl
        rw [hw9] at hS9 ⊢
        clear a0 a1 a2 a3 a4 a5 a6 a7 a8 p0 p1 p2 x0 x1 x2 v0 v1 v2 v3 v4 v5 v6 hz f0 f1 f2 f3 f4 f5 f6 g0 g1 g2 g3 g4 g5 g6 y0 y1 y2 y3 y4 y5 y6 hw9
        clear hS8
        obtain ⟨a0, a1, a2, a3, a4, a5, a6, a7, a8, p0, p1, p2, x0, x1, x2, v0, v1, v2, v3, v4, v5, v6, hz⟩ := hS9.cells
        try dsimp only at a3 a4 a5 a6 a7 a8 p0 p1 p2
        obtain ⟨⟨f0, f1, f2, f3, f4, f5, f6⟩, ⟨g0, g1, g2, g3, g4, g5, g6⟩⟩ := hS9.free
        obtain ⟨y0, y1, y2, y3, y4, y5, y6⟩ := hS9.res.at7
        obtain ⟨bE, oE, hAE, hbE, ce0⟩ := hOf_cel HQ.out.iE huN
        obtain ⟨bX, oX, hAX, hbX, cx0⟩ := hOf_cel HQ.out.iX haM
        dsimp only at hAE hAX
        subst hAE; subst hAX
        obtain ⟨ee, hee⟩ : ∃ ee, hOf E u = ee := ⟨_, rfl⟩
        obtain ⟨xx, hxx⟩ : ∃ xx, hOf X a = xx := ⟨_, rfl⟩
        rw [hee] at ce0
        rw [hxx] at cx0
        have CE0 := Lib.hid ce0; have CX0 := Lib.hid cx0
        obtain ⟨mx, hmx⟩ : ∃ mx, max ee 0 = mx := ⟨_, rfl⟩
        have hmx1 : (if ee < 0 then 0 else ee) = mx := by rw [← hmx]; by_cases h : ee < 0 <;> simp [h] <;> omega
        have hmx2 : (if 0 < ee then ee else 0) = mx := by rw [← hmx]; by_cases h : 0 < ee <;> simp [h] <;> omega
        obtain ⟨d1, hd1⟩ : ∃ d1, min mx xx = d1 := ⟨_, rfl⟩
        have hd2 : (if xx < mx then xx else mx) = d1 := by rw [← hd1]; by_cases h : xx < mx <;> simp [h] <;> omega
        have hd3 : (if mx < xx then mx else xx) = d1 := by rw [← hd1]; by_cases h : mx < xx <;> simp [h] <;> omega
        clear ce0 cx0 hmx hd1 hee hxx
        have ce : w9.cell? ⟨bE, oE + u, none⟩ = some (.int .i64 ee) := (hS9.bel.cell (p := ⟨bE, oE + u, none⟩) hbE).trans CE0.out
        have cx : w9.cell? ⟨bX, oX + a, none⟩ = some (.int .i64 xx) := (hS9.bel.cell (p := ⟨bX, oX + a, none⟩) hbX).trans CX0.out
        refine wp_region_lastL (S := fun W' => W'.cell? ⟨w.heap.size + 1, 0, none⟩ = some (.slice (some ⟨bX, oX, none⟩) M cX) ∧ W'.cell? ⟨w.heap.size + 1, 1, none⟩ = some (.slice (some ⟨bE, oE, none⟩) N cE) ∧ W'.cell? ⟨w.heap.size + 1 + 1 + 1 + 1, 2, none⟩ = some (.int .i64 (u : Int)) ∧ W'.cell? ⟨w.heap.size + 1 + 1 + 1 + 1, 3, none⟩ = some (.int .i64 (a : Int)) ∧ W'.cell? ⟨bE, oE + u, none⟩ = some (.int .i64 ee) ∧ W'.cell? ⟨bX, oX + a, none⟩ = some (.int .i64 xx)) rfl (by kernel_rfl) (by kernel_rfl) ⟨p0, p1, v2, v3, ce, cx⟩ (fun hS0 => ?_)
        simp only [List.dropLast]
        refine tk (v := ?_) 0 69 rfl ?_ ?_
        rotate_left
        · (intro W' hSw; obtain ⟨t0, t1, t2, t3, t4, t5⟩ := hSw; go_simp; try with_reducible rfl)
        simp only [Act.put, pa, pz, ps]
        refine tk (v := ?_) 1 70 rfl ?_ ?_
        rotate_left
        · (intro W' hSw; obtain ⟨t0, t1, t2, t3, t4, t5⟩ := hSw; go_simp; try with_reducible rfl)
        simp only [Act.put, pa, pz, ps]
        refine tk (v := ?_) 2 71 rfl ?_ ?_
        rotate_left
        · (intro W' hSw; obtain ⟨t0, t1, t2, t3, t4, t5⟩ := hSw; go_simp; try with_reducible rfl)
        simp only [Act.put, pa, pz, ps]
        refine tk (v := ?_) 3 72 rfl ?_ ?_
        rotate_left
        · (intro W' hSw; obtain ⟨t0, t1, t2, t3, t4, t5⟩ := hSw; go_simp; try with_reducible rfl)
        simp only [Act.put, pa, pz, ps]
        refine tk (v := ?_) 4 73 rfl ?_ ?_
        rotate_left
        · (intro W' hSw; obtain ⟨t0, t1, t2, t3, t4, t5⟩ := hSw; go_simp; try with_reducible rfl)
        simp only [Act.put, pa, pz, ps]
        refine tk (v := ?_) 5 74 rfl ?_ ?_
        rotate_left
        · (intro W' hSw; obtain ⟨t0, t1, t2, t3, t4, t5⟩ := hSw; go_simp; try with_reducible rfl)
        simp only [Act.put, pa, pz, ps]
        refine tk (v := ?_) 6 75 rfl ?_ ?_
        rotate_left
        · (intro W' hSw; obtain ⟨t0, t1, t2, t3, t4, t5⟩ := hSw; go_simp; try with_reducible rfl)
        simp only [Act.put, pa, pz, ps]
        refine tk (v := ?_) 7 76 rfl ?_ ?_
        rotate_left
        · (intro W' hSw; obtain ⟨t0, t1, t2, t3, t4, t5⟩ := hSw; go_simp; try with_reducible rfl)
        simp only [Act.put, pa, pz, ps]
        refine tk (v := ?_) 8 77 rfl ?_ ?_
        rotate_left
        · (intro W' hSw; obtain ⟨t0, t1, t2, t3, t4, t5⟩ := hSw; go_simp; try with_reducible rfl)
        simp only [Act.put, pa, pz, ps]
        refine tk (v := ?_) 9 78 rfl ?_ ?_
        rotate_left
        · (intro W' hSw; obtain ⟨t0, t1, t2, t3, t4, t5⟩ := hSw; go_simp; try with_reducible rfl)
        simp only [Act.put, pa, pz, ps]
        refine tk (v := ?_) 10 79 rfl ?_ ?_
        rotate_left
        · (intro W' hSw; obtain ⟨t0, t1, t2, t3, t4, t5⟩ := hSw; go_simp; try with_reducible rfl)
        simp only [Act.put, pa, pz, ps]
        refine tk (v := ?_) 11 80 rfl ?_ ?_
        rotate_left
        · (intro W' hSw; obtain ⟨t0, t1, t2, t3, t4, t5⟩ := hSw; go_simp; try with_reducible rfl)
        simp only [Act.put, pa, pz, ps]
        refine tk (v := ?_) 12 81 rfl ?_ ?_
        rotate_left
        · (intro W' hSw; obtain ⟨t0, t1, t2, t3, t4, t5⟩ := hSw; go_simp; try with_reducible rfl)
        simp only [Act.put, pa, pz, ps]
        refine tk (v := ?_) 13 82 rfl ?_ ?_
        rotate_left
        · (intro W' hSw; obtain ⟨t0, t1, t2, t3, t4, t5⟩ := hSw; go_simp; try with_reducible rfl)
        simp only [Act.put, pa, pz, ps]
        refine tk (v := ?_) 14 83 rfl ?_ ?_
        rotate_left
        · (intro W' hSw; obtain ⟨t0, t1, t2, t3, t4, t5⟩ := hSw; go_simp; try with_reducible rfl)
        simp only [Act.put, pa, pz, ps]
        clear hS0 ce cx hmx1 hmx2 hd2 hd3
        refine wpAnyH_done (by kernel_rfl) ?_ _
        have hSk : FitS w w9.drew _ _ _ _ _ _ _ _ _ _ _ _ _ _ _ _ _ _ _ _ _ _ := hS9.drewN 1
        obtain ⟨wk, hwk⟩ : ∃ WW, w9.drew = WW := ⟨_, rfl⟩
        rw [hwk] at hSk ⊢
        clear a0 a1 a2 a3 a4 a5 a6 a7 a8 p0 p1 p2 x0 x1 x2 v0 v1 v2 v3 v4 v5 v6 hz f0 f1 f2 f3 f4 f5 f6 g0 g1 g2 g3 g4 g5 g6 y0 y1 y2 y3 y4 y5 y6 hwk hS9
        obtain ⟨a0, a1, a2, a3, a4, a5, a6, a7, a8, p0, p1, p2, x0, x1, x2, v0, v1, v2, v3, v4, v5, v6, hz⟩ := hSk.cells
        try dsimp only at a3 a4 a5 a6 a7 a8 p0 p1 p2
        obtain ⟨⟨f0, f1, f2, f3, f4, f5, f6⟩, ⟨g0, g1, g2, g3, g4, g5, g6⟩⟩ := hSk.free
        obtain ⟨y0, y1, y2, y3, y4, y5, y6⟩ := hSk.res.at7
        go_upto_region 13 with fail
        obtain ⟨wm, hwm⟩ : ∃ WW, wk.setCell ⟨w.heap.size + 1 + 1 + 1 + 1, 4, none⟩ (.int .i64 d1) = WW := ⟨_, rfl⟩
        have hSm := hSk.put 4 (.int .i64 d1) rfl rfl
        rw [hwm] at hSm ⊢
        clear a0 a1 a2 a3 a4 a5 a6 a7 a8 p0 p1 p2 x0 x1 x2 v0 v1 v2 v3 v4 v5 v6 hz f0 f1 f2 f3 f4 f5 f6 g0 g1 g2 g3 g4 g5 g6 y0 y1 y2 y3 y4 y5 y6 hwm
        clear hSk
        obtain ⟨a0, a1, a2, a3, a4, a5, a6, a7, a8, p0, p1, p2, x0, x1, x2, v0, v1, v2, v3, v4, v5, v6, hz⟩ := hSm.cells
        try dsimp only at a3 a4 a5 a6 a7 a8 p0 p1 p2
        obtain ⟨⟨f0, f1, f2, f3, f4, f5, f6⟩, ⟨g0, g1, g2, g3, g4, g5, g6⟩⟩ := hSm.free
        obtain ⟨y0, y1, y2, y3, y4, y5, y6⟩ := hSm.res.at7
        obtain ⟨b2, hb2⟩ : ∃ b2, (bits BinOp.and IntKind.u8 fit 2 != 0) = b2 := ⟨_, rfl⟩
        obtain ⟨b3, hb3⟩ : ∃ b3, decide (1 < d1) = b3 := ⟨_, rfl⟩
        cases b2 with
        | false =>
          go_upto_region 15 with fail
          have ch : wm.cell? ⟨bH, oH + u, none⟩ = some (.int .i64 y) := (hSm.bel.cell (p := ⟨bH, oH + u, none⟩) hbH).trans CH0.out
          have hbz' : bH < wm.heap.size := by have := hSm.bel.size; omega
          go_upto_region 16 with fail
          obtain ⟨wmh, hwmh⟩ : ∃ WW, wm.setCell ⟨w.heap.size + 1 + 1 + 1 + 1, 5, none⟩ (.int .i64 y) = WW := ⟨_, rfl⟩
          have hSmh := hSm.put 5 (.int .i64 y) rfl rfl
          rw [hwmh] at hSmh ⊢
          clear a0 a1 a2 a3 a4 a5 a6 a7 a8 p0 p1 p2 x0 x1 x2 v0 v1 v2 v3 v4 v5 v6 hz f0 f1 f2 f3 f4 f5 f6 g0 g1 g2 g3 g4 g5 g6 y0 y1 y2 y3 y4 y5 y6 hwmh
          clear hSm
          obtain ⟨a0, a1, a2, a3, a4, a5, a6, a7, a8, p0, p1, p2, x0, x1, x2, v0, v1, v2, v3, v4, v5, v6, hz⟩ := hSmh.cells
          try dsimp only at a3 a4 a5 a6 a7 a8 p0 p1 p2
          obtain ⟨⟨f0, f1, f2, f3, f4, f5, f6⟩, ⟨g0, g1, g2, g3, g4, g5, g6⟩⟩ := hSmh.free
          obtain ⟨y0, y1, y2, y3, y4, y5, y6⟩ := hSmh.res.at7
          clear ch hbz'
          refine wp_region_still_tail 8 (by kernel_rfl) (by kernel_rfl) ?_
          simp only [List.take_succ_cons, List.take_zero, List.drop_succ_cons, List.drop_zero]
          repeat (first | still_step | still_call (HC2.out _))
          try refine wpStill_nil ?_
          change wpList _ _ _ _ _ wmh.drew
          have hSmi := hSmh.drewN 1
          obtain ⟨wmi, hwmi⟩ : ∃ WW, wmh.drew = WW := ⟨_, rfl⟩
          replace hSmi : FitS w wmh.drew _ _ _ _ _ _ _ _ _ _ _ _ _ _ _ _ _ _ _ _ _ _ := hSmi
          rw [hwmi] at hSmi ⊢
          clear a0 a1 a2 a3 a4 a5 a6 a7 a8 p0 p1 p2 x0 x1 x2 v0 v1 v2 v3 v4 v5 v6 hz f0 f1 f2 f3 f4 f5 f6 g0 g1 g2 g3 g4 g5 g6 y0 y1 y2 y3 y4 y5 y6 hwmi hSmh
          obtain ⟨a0, a1, a2, a3, a4, a5, a6, a7, a8, p0, p1, p2, x0, x1, x2, v0, v1, v2, v3, v4, v5, v6, hz⟩ := hSmi.cells
          try dsimp only at a3 a4 a5 a6 a7 a8 p0 p1 p2
          obtain ⟨⟨f0, f1, f2, f3, f4, f5, f6⟩, ⟨g0, g1, g2, g3, g4, g5, g6⟩⟩ := hSmi.free
          obtain ⟨y0, y1, y2, y3, y4, y5, y6⟩ := hSmi.res.at7
          go_upto_region 17 with fail
          obtain ⟨wmj, hwmj⟩ : ∃ WW, wmi.setCell ⟨w.heap.size + 1 + 1 + 1 + 1, 6, none⟩ (.int .i64 r2) = WW := ⟨_, rfl⟩
          have hSmj := hSmi.put 6 (.int .i64 r2) rfl rfl
          rw [hwmj] at hSmj ⊢
          clear a0 a1 a2 a3 a4 a5 a6 a7 a8 p0 p1 p2 x0 x1 x2 v0 v1 v2 v3 v4 v5 v6 hz f0 f1 f2 f3 f4 f5 f6 g0 g1 g2 g3 g4 g5 g6 y0 y1 y2 y3 y4 y5 y6 hwmj
          clear hSmi
          obtain ⟨a0, a1, a2, a3, a4, a5, a6, a7, a8, p0, p1, p2, x0, x1, x2, v0, v1, v2, v3, v4, v5, v6, hz⟩ := hSmj.cells
          try dsimp only at a3 a4 a5 a6 a7 a8 p0 p1 p2
          obtain ⟨⟨f0, f1, f2, f3, f4, f5, f6⟩, ⟨g0, g1, g2, g3, g4, g5, g6⟩⟩ := hSmj.free
          obtain ⟨y0, y1, y2, y3, y4, y5, y6⟩ := hSmj.res.at7
          go_wp2_with fail
          obtain ⟨BF, RF⟩ := hSmj.out7 (y0 := .int .i64 who) (y1 := .int .u8 wv) (y2 := .int .i64 (u : Int)) (y3 := .int .i64 (a : Int)) (y4 := .int .i64 d1) (y5 := .int .i64 y) (y6 := .int .i64 r2)
          obtain ⟨k0, k1, k2, k3, k4, k5, k6⟩ := RF.at7
          refine bodyPost_ret (v := .agg #[.int .i64 who, .int .u8 wv, .int .i64 (u : Int), .int .i64 (a : Int), .int .i64 d1, .int .i64 y, .int .i64 r2]) (by simp [results, Try.results12, go_sem, k0, k1, k2, k3, k4, k5, k6]) rfl ?_
          exact ⟨⟨who, wv, (u : Int), (a : Int), d1, y, r2⟩, rfl, BF⟩
        | true =>
          cases b3 with
          | false =>
            go_upto_region 15 with fail
            have ch : wm.cell? ⟨bH, oH + u, none⟩ = some (.int .i64 y) := (hSm.bel.cell (p := ⟨bH, oH + u, none⟩) hbH).trans CH0.out
            have hbz' : bH < wm.heap.size := by have := hSm.bel.size; omega
            go_upto_region 16 with fail
            obtain ⟨wmh, hwmh⟩ : ∃ WW, wm.setCell ⟨w.heap.size + 1 + 1 + 1 + 1, 5, none⟩ (.int .i64 y) = WW := ⟨_, rfl⟩
            have hSmh := hSm.put 5 (.int .i64 y) rfl rfl
            rw [hwmh] at hSmh ⊢
            clear a0 a1 a2 a3 a4 a5 a6 a7 a8 p0 p1 p2 x0 x1 x2 v0 v1 v2 v3 v4 v5 v6 hz f0 f1 f2 f3 f4 f5 f6 g0 g1 g2 g3 g4 g5 g6 y0 y1 y2 y3 y4 y5 y6 hwmh
            clear hSm
            obtain ⟨a0, a1, a2, a3, a4, a5, a6, a7, a8, p0, p1, p2, x0, x1, x2, v0, v1, v2, v3, v4, v5, v6, hz⟩ := hSmh.cells
            try dsimp only at a3 a4 a5 a6 a7 a8 p0 p1 p2
            obtain ⟨⟨f0, f1, f2, f3, f4, f5, f6⟩, ⟨g0, g1, g2, g3, g4, g5, g6⟩⟩ := hSmh.free
            obtain ⟨y0, y1, y2, y3, y4, y5, y6⟩ := hSmh.res.at7
            clear ch hbz'
            refine wp_region_still_tail 8 (by kernel_rfl) (by kernel_rfl) ?_
            simp only [List.take_succ_cons, List.take_zero, List.drop_succ_cons, List.drop_zero]
            repeat (first | still_step | still_call (HC2.out _))
            try refine wpStill_nil ?_
            change wpList _ _ _ _ _ wmh.drew
            have hSmi := hSmh.drewN 1
            obtain ⟨wmi, hwmi⟩ : ∃ WW, wmh.drew = WW := ⟨_, rfl⟩
            replace hSmi : FitS w wmh.drew _ _ _ _ _ _ _ _ _ _ _ _ _ _ _ _ _ _ _ _ _ _ := hSmi
            rw [hwmi] at hSmi ⊢
            clear a0 a1 a2 a3 a4 a5 a6 a7 a8 p0 p1 p2 x0 x1 x2 v0 v1 v2 v3 v4 v5 v6 hz f0 f1 f2 f3 f4 f5 f6 g0 g1 g2 g3 g4 g5 g6 y0 y1 y2 y3 y4 y5 y6 hwmi hSmh
            obtain ⟨a0, a1, a2, a3, a4, a5, a6, a7, a8, p0, p1, p2, x0, x1, x2, v0, v1, v2, v3, v4, v5, v6, hz⟩ := hSmi.cells
            try dsimp only at a3 a4 a5 a6 a7 a8 p0 p1 p2
            obtain ⟨⟨f0, f1, f2, f3, f4, f5, f6⟩, ⟨g0, g1, g2, g3, g4, g5, g6⟩⟩ := hSmi.free
            obtain ⟨y0, y1, y2, y3, y4, y5, y6⟩ := hSmi.res.at7
            go_upto_region 17 with fail
            obtain ⟨wmj, hwmj⟩ : ∃ WW, wmi.setCell ⟨w.heap.size + 1 + 1 + 1 + 1, 6, none⟩ (.int .i64 r2) = WW := ⟨_, rfl⟩
            have hSmj := hSmi.put 6 (.int .i64 r2) rfl rfl
            rw [hwmj] at hSmj ⊢
            clear a0 a1 a2 a3 a4 a5 a6 a7 a8 p0 p1 p2 x0 x1 x2 v0 v1 v2 v3 v4 v5 v6 hz f0 f1 f2 f3 f4 f5 f6 g0 g1 g2 g3 g4 g5 g6 y0 y1 y2 y3 y4 y5 y6 hwmj
            clear hSmi
            obtain ⟨a0, a1, a2, a3, a4, a5, a6, a7, a8, p0, p1, p2, x0, x1, x2, v0, v1, v2, v3, v4, v5, v6, hz⟩ := hSmj.cells
            try dsimp only at a3 a4 a5 a6 a7 a8 p0 p1 p2
            obtain ⟨⟨f0, f1, f2, f3, f4, f5, f6⟩, ⟨g0, g1, g2, g3, g4, g5, g6⟩⟩ := hSmj.free
            obtain ⟨y0, y1, y2, y3, y4, y5, y6⟩ := hSmj.res.at7
            go_wp2_with fail
            obtain ⟨BF, RF⟩ := hSmj.out7 (y0 := .int .i64 who) (y1 := .int .u8 wv) (y2 := .int .i64 (u : Int)) (y3 := .int .i64 (a : Int)) (y4 := .int .i64 d1) (y5 := .int .i64 y) (y6 := .int .i64 r2)
            obtain ⟨k0, k1, k2, k3, k4, k5, k6⟩ := RF.at7
            refine bodyPost_ret (v := .agg #[.int .i64 who, .int .u8 wv, .int .i64 (u : Int), .int .i64 (a : Int), .int .i64 d1, .int .i64 y, .int .i64 r2]) (by simp [results, Try.results12, go_sem, k0, k1, k2, k3, k4, k5, k6]) rfl ?_
            exact ⟨⟨who, wv, (u : Int), (a : Int), d1, y, r2⟩, rfl, BF⟩
          | true =>
            have hd1 := of_decide_eq_true hb3
            obtain ⟨d2, hd2⟩ : ∃ d2, wrap64 (1 + wrap64 (d1.tdiv 2)) = d2 := ⟨_, rfl⟩
            have HD2 := Lib.hid hd2
            clear hd2
            go_upto_region 15 with fail
            rw [HD2.out]
            obtain ⟨wn, hwn⟩ : ∃ WW, wm.setCell ⟨w.heap.size + 1 + 1 + 1 + 1, 4, none⟩ (.int .i64 d2) = WW := ⟨_, rfl⟩
            have hSn := hSm.put 4 (.int .i64 d2) rfl rfl
            rw [hwn] at hSn ⊢
            clear a0 a1 a2 a3 a4 a5 a6 a7 a8 p0 p1 p2 x0 x1 x2 v0 v1 v2 v3 v4 v5 v6 hz f0 f1 f2 f3 f4 f5 f6 g0 g1 g2 g3 g4 g5 g6 y0 y1 y2 y3 y4 y5 y6 hwn
            clear hSm
            obtain ⟨a0, a1, a2, a3, a4, a5, a6, a7, a8, p0, p1, p2, x0, x1, x2, v0, v1, v2, v3, v4, v5, v6, hz⟩ := hSn.cells
            try dsimp only at a3 a4 a5 a6 a7 a8 p0 p1 p2
            obtain ⟨⟨f0, f1, f2, f3, f4, f5, f6⟩, ⟨g0, g1, g2, g3, g4, g5, g6⟩⟩ := hSn.free
            obtain ⟨y0, y1, y2, y3, y4, y5, y6⟩ := hSn.res.at7
            have ch : wn.cell? ⟨bH, oH + u, none⟩ = some (.int .i64 y) := (hSn.bel.cell (p := ⟨bH, oH + u, none⟩) hbH).trans CH0.out
            have hbz' : bH < wn.heap.size := by have := hSn.bel.size; omega
            go_upto_region 16 with fail
            obtain ⟨wnh, hwnh⟩ : ∃ WW, wn.setCell ⟨w.heap.size + 1 + 1 + 1 + 1, 5, none⟩ (.int .i64 y) = WW := ⟨_, rfl⟩
            have hSnh := hSn.put 5 (.int .i64 y) rfl rfl
            rw [hwnh] at hSnh ⊢
            clear a0 a1 a2 a3 a4 a5 a6 a7 a8 p0 p1 p2 x0 x1 x2 v0 v1 v2 v3 v4 v5 v6 hz f0 f1 f2 f3 f4 f5 f6 g0 g1 g2 g3 g4 g5 g6 y0 y1 y2 y3 y4 y5 y6 hwnh
            clear hSn
            obtain ⟨a0, a1, a2, a3, a4, a5, a6, a7, a8, p0, p1, p2, x0, x1, x2, v0, v1, v2, v3, v4, v5, v6, hz⟩ := hSnh.cells
            try dsimp only at a3 a4 a5 a6 a7 a8 p0 p1 p2
            obtain ⟨⟨f0, f1, f2, f3, f4, f5, f6⟩, ⟨g0, g1, g2, g3, g4, g5, g6⟩⟩ := hSnh.free
            obtain ⟨y0, y1, y2, y3, y4, y5, y6⟩ := hSnh.res.at7
            clear ch hbz'
            refine wp_region_still_tail 8 (by kernel_rfl) (by kernel_rfl) ?_
            simp only [List.take_succ_cons, List.take_zero, List.drop_succ_cons, List.drop_zero]
            repeat (first | still_step | still_call (HC2.out _))
            try refine wpStill_nil ?_
            change wpList _ _ _ _ _ wnh.drew
            have hSni := hSnh.drewN 1
            obtain ⟨wni, hwni⟩ : ∃ WW, wnh.drew = WW := ⟨_, rfl⟩
            replace hSni : FitS w wnh.drew _ _ _ _ _ _ _ _ _ _ _ _ _ _ _ _ _ _ _ _ _ _ := hSni
            rw [hwni] at hSni ⊢
            clear a0 a1 a2 a3 a4 a5 a6 a7 a8 p0 p1 p2 x0 x1 x2 v0 v1 v2 v3 v4 v5 v6 hz f0 f1 f2 f3 f4 f5 f6 g0 g1 g2 g3 g4 g5 g6 y0 y1 y2 y3 y4 y5 y6 hwni hSnh
            obtain ⟨a0, a1, a2, a3, a4, a5, a6, a7, a8, p0, p1, p2, x0, x1, x2, v0, v1, v2, v3, v4, v5, v6, hz⟩ := hSni.cells
            try dsimp only at a3 a4 a5 a6 a7 a8 p0 p1 p2
            obtain ⟨⟨f0, f1, f2, f3, f4, f5, f6⟩, ⟨g0, g1, g2, g3, g4, g5, g6⟩⟩ := hSni.free
            obtain ⟨y0, y1, y2, y3, y4, y5, y6⟩ := hSni.res.at7
            go_upto_region 17 with fail
            obtain ⟨wnj, hwnj⟩ : ∃ WW, wni.setCell ⟨w.heap.size + 1 + 1 + 1 + 1, 6, none⟩ (.int .i64 r2) = WW := ⟨_, rfl⟩
            have hSnj := hSni.put 6 (.int .i64 r2) rfl rfl
            rw [hwnj] at hSnj ⊢
            clear a0 a1 a2 a3 a4 a5 a6 a7 a8 p0 p1 p2 x0 x1 x2 v0 v1 v2 v3 v4 v5 v6 hz f0 f1 f2 f3 f4 f5 f6 g0 g1 g2 g3 g4 g5 g6 y0 y1 y2 y3 y4 y5 y6 hwnj
            clear hSni
            obtain ⟨a0, a1, a2, a3, a4, a5, a6, a7, a8, p0, p1, p2, x0, x1, x2, v0, v1, v2, v3, v4, v5, v6, hz⟩ := hSnj.cells
            try dsimp only at a3 a4 a5 a6 a7 a8 p0 p1 p2
            obtain ⟨⟨f0, f1, f2, f3, f4, f5, f6⟩, ⟨g0, g1, g2, g3, g4, g5, g6⟩⟩ := hSnj.free
            obtain ⟨y0, y1, y2, y3, y4, y5, y6⟩ := hSnj.res.at7
            go_wp2_with fail
            obtain ⟨BF, RF⟩ := hSnj.out7 (y0 := .int .i64 who) (y1 := .int .u8 wv) (y2 := .int .i64 (u : Int)) (y3 := .int .i64 (a : Int)) (y4 := .int .i64 d2) (y5 := .int .i64 y) (y6 := .int .i64 r2)
            obtain ⟨k0, k1, k2, k3, k4, k5, k6⟩ := RF.at7
            refine bodyPost_ret (v := .agg #[.int .i64 who, .int .u8 wv, .int .i64 (u : Int), .int .i64 (a : Int), .int .i64 d2, .int .i64 y, .int .i64 r2]) (by simp [results, Try.results12, go_sem, k0, k1, k2, k3, k4, k5, k6]) rfl ?_
            exact ⟨⟨who, wv, (u : Int), (a : Int), d2, y, r2⟩, rfl, BF⟩
end Go.Proofs.Ytanifbofjecpmaa
