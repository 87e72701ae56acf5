/- Layer 9: the chapter's examples ('awake'). -/
import Derived.Test.YtanifbofjecpmaaRbg
import Derived.Test.YtanifbofjecpmaaRls
import Derived.Test.YtanifbofjecpmaaRst
import Derived.Test.YtanifbofjecpmaaRld
namespace Go.Proofs.Ytanifbofjecpmaa
open Go.RowKit Go.Shelf
set_option maxRecDepth 100000

/-! Plain facts. -/
def axArcs : List ArcN := [⟨0, 1, 5⟩, ⟨1, 2, 5⟩]
def axH : List Int := [1, 0, 2, 1]
def axX : List Int := [0, 5, 5, 0]
def axE : List Int := [-5, 5, 0]
theorem ax_check : checkF (3 : Nat) (0 : Nat) (2 : Nat) axArcs = 0 := by decide +kernel
theorem ax_first : firstOf axArcs 3 = 4 := by decide +kernel
theorem ax_inc : Inc axArcs 0 0 1 false 5 ∧ Inc axArcs 0 1 0 true 0 ∧ Inc axArcs 1 1 2 false 5 ∧ Inc axArcs 1 2 1 true 0 :=
  ⟨⟨by decide, _, rfl, .inl ⟨rfl, rfl, rfl, rfl⟩⟩, ⟨by decide, _, rfl, .inr ⟨rfl, rfl, rfl, rfl⟩⟩, ⟨by decide, _, rfl, .inl ⟨rfl, rfl, rfl, rfl⟩⟩, ⟨by decide, _, rfl, .inr ⟨rfl, rfl, rfl, rfl⟩⟩⟩
theorem ax_pos : posOf axArcs 0 0 = 0 ∧ posOf axArcs 0 1 = 1 ∧ posOf axArcs 1 1 = 2 ∧ posOf axArcs 1 2 = 3 := by decide +kernel
theorem ax_four {L : List Int} {x0 x1 x2 x3 : Int} (hl : L.length = 4) (h0 : L[0]? = some x0) (h1 : L[1]? = some x1) (h2 : L[2]? = some x2) (h3 : L[3]? = some x3) : L = [x0, x1, x2, x3] := by
  apply List.ext_getElem?
  intro i
  match i with
  | 0 => rw [h0]; rfl
  | 1 => rw [h1]; rfl
  | 2 => rw [h2]; rfl
  | 3 => rw [h3]; rfl
  | i + 4 => rw [List.getElem?_eq_none (by omega)]; simp
theorem ax_rows {F H R C Ai : List Int} {B : List Bool} (h : CsrL 3 axArcs F H R C Ai B) : H = axH := by
  obtain ⟨i0, i1, i2, i3⟩ := ax_inc
  obtain ⟨p0, p1, p2, p3⟩ := ax_pos
  have hf := ax_first
  have e := fun (i : Nat) (v u : Int) (b : Bool) (c : Int) (hI : Inc axArcs i v u b c) (hv : 0 ≤ v) (hp : posOf axArcs i v < 4) => (h.ent.ent i v u b c hI hv (by rw [hf]; exact hp)).1
  have hl := h.ent.lH
  rw [hf] at hl
  have q0 := e _ _ _ _ _ i0 (by omega) (by rw [p0]; omega); have q1 := e _ _ _ _ _ i1 (by omega) (by rw [p1]; omega)
  have q2 := e _ _ _ _ _ i2 (by omega) (by rw [p2]; omega); have q3 := e _ _ _ _ _ i3 (by omega) (by rw [p3]; omega)
  rw [p0] at q0; rw [p1] at q1; rw [p2] at q2; rw [p3] at q3
  exact ax_four hl q0 q1 q2 q3
theorem ax_res {X : List Int} (h : ResOf axArcs (fullF 0 axArcs) (firstOf axArcs 3) X) : X = axX := by
  obtain ⟨i0, i1, i2, i3⟩ := ax_inc
  obtain ⟨p0, p1, p2, p3⟩ := ax_pos
  have hl := h.len
  rw [ax_first] at hl
  have f0 : (fullF 0 axArcs)[0]? = some 5 := by decide +kernel
  have f1 : (fullF 0 axArcs)[1]? = some 0 := by decide +kernel
  have q0 := h.ent _ _ _ _ _ _ i0 f0; have q1 := h.ent _ _ _ _ _ _ i1 f0; have q2 := h.ent _ _ _ _ _ _ i2 f1; have q3 := h.ent _ _ _ _ _ _ i3 f1
  rw [p0] at q0; rw [p1] at q1; rw [p2] at q2; rw [p3] at q3
  exact ax_four hl q0 q1 q2 q3
abbrev axF := firstOf axArcs
abbrev axhd := hdOf axH
theorem ax_leg : legI 3 0 2 axF axX axE [3, 1, 0] ⟨0, 1, 1, 2, 3, 1, 0⟩ = 0 ∧ legI 3 0 2 axF axX axE [3, 1, 0] ⟨0, 1, 1, 2, 3, 1, 1⟩ = 30 ∧ legI 3 0 2 axF axX axE [3, 1, 0] ⟨0, 2, 1, 0, 0, 6, 0⟩ = 0 ∧
    legI 3 0 2 axF axX axE [3, 1, 0] ⟨0, 2, 1, 0, 0, 1, 0⟩ = 30 ∧ legI 3 0 2 axF axX axE [3, 1, 0] ⟨0, 2, 1, 0, 0, 7, 0⟩ = 30 ∧ legI 3 0 2 axF axX axE [3, 1, 0] ⟨0, 2, 2, 0, 0, 6, 0⟩ = 2 := by decide +kernel
theorem ax_str : strB 3 0 2 axF axhd axX axE [3, 1, 0] ⟨0, 1, 1, 2, 3, 1, 0⟩ = false ∧ strB 3 0 2 axF axhd axX axE [3, 1, 0] ⟨0, 1, 1, 2, 5, 1, 0⟩ = true := by decide +kernel

/-- The example's network, and its first state in rows that may be written to. -/
def RetAx (w : World) (e : Ending) (w' : World) : Prop :=
  ∃ (x0 : Nat) (K : CsrS) (Q : PreS) (rv ai : Nat → Nat) (cp : Nat → Int) (bk : Nat → Bool), e = .returned (.tuple #[csrW 3 4 (0 : Nat) (2 : Nat) K, preW 4 3 3 Q]) ∧ PNet 3 4 0 2 axF axhd rv ai cp bk ∧ PIn w' x0 3 4 K axF axhd rv ai cp bk ∧
    Hx w' w' x0 (pstR 4 3 3 Q axX axE [3, 0, 0]) ∧ SndIs 3 4 0 2 axhd rv cp axX axE [3, 1, 0] ∧ w.heap.size ≤ x0 ∧ Below w.heap.size w w'
theorem begun_ax (A : Option Addr) (c : Nat) (w : World) (hA : Arcs w w.heap.size A 2 axArcs) :
    Calls Try.prog 8 #[.agg #[.int .i64 3, .int .i64 0, .int .i64 2, .slice A 2 c]] w (RetAx w) := by
  refine (begun_is 3 0 2 A 2 c axArcs w hA ax_check (by decide)).mono fun e w' h => ?_
  obtain ⟨x0, K, F, H, R, C, Ai, B, Q, X, he, hL, hI, hX, hR, hx0, hB⟩ := h
  have hP := (hL.pnet ax_check).1
  have hN := hL.pin ax_check hI
  have hS := full_ok hL ax_check hX
  have hXx := ax_res hX
  have hHh := ax_rows hL
  subst hXx; subst hHh
  have eE : exList 3 axArcs (fullF 0 axArcs) = axE := by decide +kernel
  have eH : begH 3 0 = [3, 0, 0] := by decide +kernel
  rw [eE, eH] at hS hR
  rw [ax_first] at he hP hN hR hS
  have hS1 := hS.lift (u := 1) (x := 1) (by omega) (by omega) (by omega) (by omega) (by omega)
  exact ⟨x0, K, Q, hdOf R, hdOf Ai, hOf C, bOf B, he, hP, hN, hR, hS1, hx0, hB⟩

/-- The example's moves, laid. -/
structure AwE (w4 W : World) (g3 g4 g5 g6 g7 g8 g9 : Nat) : Prop where
  bel : Below w4.heap.size w4 W
  e3 : Blk W g3 39 #[.int .i64 0, .int .u8 1, .int .i64 1, .int .i64 2, .int .i64 3, .int .i64 1, .int .i64 0]
  e4 : Blk W g4 39 #[.int .i64 0, .int .u8 1, .int .i64 1, .int .i64 2, .int .i64 5, .int .i64 1, .int .i64 0]
  e5 : Blk W g5 39 #[.int .i64 0, .int .u8 1, .int .i64 1, .int .i64 2, .int .i64 3, .int .i64 1, .int .i64 1]
  e6 : Blk W g6 39 #[.int .i64 0, .int .u8 2, .int .i64 1, .int .i64 0, .int .i64 0, .int .i64 6, .int .i64 0]
  e7 : Blk W g7 39 #[.int .i64 0, .int .u8 2, .int .i64 1, .int .i64 0, .int .i64 0, .int .i64 1, .int .i64 0]
  e8 : Blk W g8 39 #[.int .i64 0, .int .u8 2, .int .i64 1, .int .i64 0, .int .i64 0, .int .i64 7, .int .i64 0]
  e9 : Blk W g9 39 #[.int .i64 0, .int .u8 2, .int .i64 2, .int .i64 0, .int .i64 0, .int .i64 6, .int .i64 0]
theorem AwE.below {w4 W W' : World} {g3 g4 g5 g6 g7 g8 g9 : Nat} (h : AwE w4 W g3 g4 g5 g6 g7 g8 g9) (hb : Below W.heap.size W W') : AwE w4 W' g3 g4 g5 g6 g7 g8 g9 :=
  ⟨below_step h.bel hb, h.e3.below hb h.e3.lt, h.e4.below hb h.e4.lt, h.e5.below hb h.e5.lt, h.e6.below hb h.e6.lt, h.e7.below hb h.e7.lt, h.e8.below hb h.e8.lt, h.e9.below hb h.e9.lt⟩

set_option maxHeartbeats 16000000 in
theorem awake9_is (w : World) : Calls Try.prog 21 #[] w fun e w' => e = .returned (.bool true) ∧ Below w.heap.size w w' := by
  go_enter Try.func21, Try.ntmps21
  go_wp2_with fail
  obtain ⟨w1, hw1⟩ : ∃ w1, w.alloc (.cells #[.int .i64 0, .int .i64 1, .int .i64 5, .int .i64 1, .int .i64 2, .int .i64 5] 68) = w1 := ⟨_, rfl⟩
  have a1 : Arcs w1 w1.heap.size (some ⟨w.heap.size, 0, none⟩) 2 axArcs := by
    have : Arcs (w.alloc (.cells (axArcs.flatMap arcCells).toArray 68)) (w.alloc (.cells (axArcs.flatMap arcCells).toArray 68)).heap.size (some ⟨w.heap.size, 0, none⟩) 2 axArcs := arcs_new rfl rfl (by simp [maxLen])
    rw [← hw1]; exact this
  have B1 : Below w.heap.size w w1 := by rw [← hw1]; exact below_alloc _
  rw [hw1]
  clear hw1
  refine (begun_ax _ _ _ a1).mono ?_
  rintro e w2 ⟨x0, K, Q, rv, ai, cp, bk, rfl, hP, hI, hR, hS, hx0, B2⟩
  have Bw := below_step B1 B2
  obtain ⟨AF, cF, AH, cH, AR, cR, AC, cC, AA, cA, AB, cB⟩ := K
  obtain ⟨gH, hgH⟩ := own_some (hR.held.own 2 _ rfl) (show 0 < 3 by omega)
  obtain ⟨AX, cX, AE, cE, AHH, cHH⟩ := Q
  dsimp only at hgH
  subst hgH
  dsimp only [csrW, preW]
  have HP := Lib.hid hP; have HI := Lib.hid hI; have HR := Lib.hid hR; have HS := Lib.hid hS; have HBw := Lib.hid Bw
  have hx2 := hR.bas
  have hX0 := Lib.hid (show w.heap.size ≤ x0 by have := B1.size; omega)
  clear hP hI hR hS Bw B1 B2 a1 hx0
  go_upto_region 4 with fail
  obtain ⟨w3, hw3⟩ : ∃ w3, ((w2.alloc (.cells #[.int .i64 3, .int .i64 0, .int .i64 2, .slice AF 4 cF, .slice AH 4 cH, .slice AR 4 cR, .slice AC 4 cC, .slice AA 4 cA, .slice AB 4 cB] 32)).alloc (.cells #[.slice AX 4 cX, .slice AE 3 cE, .slice (some ⟨gH, 0, none⟩) 3 cHH] 29)) = w3 := ⟨_, rfl⟩
  have C3 : Blk w3 w2.heap.size 32 #[.int .i64 3, .int .i64 0, .int .i64 2, .slice AF 4 cF, .slice AH 4 cH, .slice AR 4 cR, .slice AC 4 cC, .slice AA 4 cA, .slice AB 4 cB] := by rw [← hw3]; exact (Blk.new rfl).alloc _
  have P3 : Blk w3 (w2.heap.size + 1) 29 #[.slice AX 4 cX, .slice AE 3 cE, .slice (some ⟨gH, 0, none⟩) 3 cHH] := by rw [← hw3]; exact Blk.new (by simp)
  have R3 := (HR.out.alloc (.cells #[.int .i64 3, .int .i64 0, .int .i64 2, .slice AF 4 cF, .slice AH 4 cH, .slice AR 4 cR, .slice AC 4 cC, .slice AA 4 cA, .slice AB 4 cB] 32)).alloc (.cells #[.slice AX 4 cX, .slice AE 3 cE, .slice (some ⟨gH, 0, none⟩) 3 cHH] 29)
  rw [hw3] at R3 ⊢
  have S3 : w3.heap.size = w2.heap.size + 2 := by rw [← hw3]; simp
  have B3 : Below w.heap.size w w3 := by rw [← hw3]; exact (HBw.out.alloc HBw.out.size _).alloc (by have := HBw.out.size; simp; omega) _
  clear hw3
  obtain ⟨ch, fh, zh, -⟩ := R3.cell (i := 2) (j := 1) rfl (by omega) (lvs_at (by decide))
  obtain ⟨⟨p0, p1, p2⟩, -, hzp⟩ := P3.full3
  have hgC : w2.heap.size ≠ gH := own_apart (R3.held.own 2 _ rfl) C3 (show (3 : TypeId) ≠ 32 by decide)
  have hgP : w2.heap.size + 1 ≠ gH := own_apart (R3.held.own 2 _ rfl) P3 (show (3 : TypeId) ≠ 29 by decide)
  go_upto_region 5 with fail
  obtain ⟨w4, hw4⟩ : ∃ w4, w3.setCell ⟨gH, 1, none⟩ (.int .i64 1) = w4 := ⟨_, rfl⟩
  have C4 : Blk w4 w2.heap.size 32 #[.int .i64 3, .int .i64 0, .int .i64 2, .slice AF 4 cF, .slice AH 4 cH, .slice AR 4 cR, .slice AC 4 cC, .slice AA 4 cA, .slice AB 4 cB] := by rw [← hw4]; exact C3.far (p := ⟨gH, 1, none⟩) hgC _
  have P4 : Blk w4 (w2.heap.size + 1) 29 #[.slice AX 4 cX, .slice AE 3 cE, .slice (some ⟨gH, 0, none⟩) 3 cHH] := by rw [← hw4]; exact P3.far (p := ⟨gH, 1, none⟩) hgP _
  have R4 := R3.putH 1 1
  have B4 : Below w.heap.size w w4 := by rw [← hw4]; exact B3.setCell (p := ⟨gH, 1, none⟩) (by have h1 := (R3.held.own 2 _ rfl).lt gH rfl; have := hX0.out; simp; omega) _
  rw [hw4] at R4 ⊢
  clear hw4 ch fh zh p0 p1 p2 hzp C3 P3 R3 B3
  have I4 := (HI.out.below R4.bel).more R4.bas
  have Q4 : StIn w4 w4.heap.size 4 3 3 ⟨AX, cX, AE, cE, some ⟨gH, 0, none⟩, cHH⟩ axX axE [3, 1, 0] := R4.st (by decide) (by decide) (by decide)
  have hleg := fun ev W (hb : Below w4.heap.size w4 W) => rlegal_is 3 4 0 2 ⟨AF, cF, AH, cH, AR, cR, AC, cC, AA, cA, AB, cB⟩ ⟨AX, cX, AE, cE, some ⟨gH, 0, none⟩, cHH⟩ axF axhd rv axX axE [3, 1, 0] ev W HP.out.g ((I4.on hb).gi) (Q4.on hb) (by omega)
  have hstr := fun ev W (hb : Below w4.heap.size w4 W) => rstrict_is 3 4 0 2 ⟨AF, cF, AH, cH, AR, cR, AC, cC, AA, cA, AB, cB⟩ ⟨AX, cX, AE, cE, some ⟨gH, 0, none⟩, cHH⟩ axF axhd rv ai cp bk axX axE [3, 1, 0] ev W HP.out ((I4.on hb).gi) (Q4.on hb) HS.out
  have hrt := fun W (hb : Below w4.heap.size w4 W) => rright_is 3 4 0 2 4 3 3 ⟨AF, cF, AH, cH, AR, cR, AC, cC, AA, cA, AB, cB⟩ ⟨AX, cX, AE, cE, some ⟨gH, 0, none⟩, cHH⟩ axF axhd rv ai cp bk axX axE [3, 1, 0] true W HP.out (I4.on hb) (Q4.on hb) (by intro x hx; simp [axX] at hx; unfold InR; omega) ⟨fun _ => ⟨rfl, rfl, rfl, HS.out⟩, fun _ => rfl⟩
  have HLEG := Lib.hid hleg; have HSTR := Lib.hid hstr; have HRT := Lib.hid hrt; have HB4 := Lib.hid B4; have HC4 := Lib.hid C4; have HP4 := Lib.hid P4
  clear hleg hstr hrt I4 Q4 R4 B4 C4 P4 HI HR HS HP HBw hX0 hx2 S3 hgC hgP
  dsimp only [csrW, preW, evW] at HLEG HSTR HRT
  go_upto_region 6 with fail
  obtain ⟨w5, hw5⟩ : ∃ w5, w4.alloc (.cells #[.int .i64 0, .int .u8 1, .int .i64 1, .int .i64 2, .int .i64 3, .int .i64 1, .int .i64 0] 39) = w5 := ⟨_, rfl⟩
  have E5 : Blk w5 w4.heap.size 39 #[.int .i64 0, .int .u8 1, .int .i64 1, .int .i64 2, .int .i64 3, .int .i64 1, .int .i64 0] := by rw [← hw5]; exact Blk.new rfl
  have B5 : Below w4.heap.size w4 w5 := by rw [← hw5]; exact below_alloc _
  rw [hw5]
  clear hw5
  obtain ⟨e0, e1, e2, e3, e4, e5, e6⟩ := E5.at7
  have hz5 := E5.lt
  have HE5 := Lib.hid E5; have HB5 := Lib.hid B5
  clear E5 B5
  go_cut [4, 5] (fun s4 s5 wx => ∃ g4 g5, s4 = .pointer (some ⟨g4, 0, none⟩) ∧ s5 = .pointer (some ⟨g5, 0, none⟩) ∧ Blk wx g4 39 #[.int .i64 0, .int .u8 1, .int .i64 1, .int .i64 2, .int .i64 3, .int .i64 1, .int .i64 0] ∧ Blk wx g5 39 #[.int .i64 0, .int .u8 1, .int .i64 1, .int .i64 2, .int .i64 3, .int .i64 1, .int .i64 0] ∧ g4 ≠ g5 ∧ w5.heap.size ≤ g4 ∧ w5.heap.size ≤ g5 ∧ Below w5.heap.size w5 wx)
  case first =>
    go_region
    all_goals
      go_wp2_with fail
      go_meet
      first
        | exact ⟨w5.heap.size, w5.heap.size + 1, rfl, rfl, ((Blk.new rfl).alloc _).drew, (Blk.new (by simp)).drew, by omega, by omega, by omega, ((below_alloc _).alloc (by simp) _).drew⟩
        | exact ⟨w5.heap.size + 1, w5.heap.size, rfl, rfl, (Blk.new (by simp)).drew, ((Blk.new rfl).alloc _).drew, by omega, by omega, by omega, ((below_alloc _).alloc (by simp) _).drew⟩
  case rest =>
    obtain ⟨g4, g5, hs4, hs5, D4, D5, hne, hl4, hl5, B6⟩ := hcut
    replace hs4 := hs4.symm; replace hs5 := hs5.symm
    subst hs4; subst hs5
    have E6 := HE5.out.below B6 HE5.out.lt
    obtain ⟨i0, i1, i2, i3, i4, i5, i6⟩ := D4.at7
    obtain ⟨j0, j1, j2, j3, j4, j5, j6⟩ := D5.at7
    have k4 := D4.frozen 4; have k6 := D5.frozen 6
    have hz4 := D4.lt; have hz5' := D5.lt
    have hne2 : g5 ≠ g4 := fun e => hne e.symm
    clear e0 e1 e2 e3 e4 e5 e6 hz5
    go_upto_region 9 with fail
    obtain ⟨w6, hw6⟩ : ∃ w6, (wc.setCell ⟨g4, 4, none⟩ (.int .i64 5)).setCell ⟨g5, 6, none⟩ (.int .i64 1) = w6 := ⟨_, rfl⟩
    have E4 : Blk w6 g4 39 #[.int .i64 0, .int .u8 1, .int .i64 1, .int .i64 2, .int .i64 5, .int .i64 1, .int .i64 0] := by rw [← hw6]; exact (D4.set 4 (.int .i64 5)).far (p := ⟨g5, 6, none⟩) hne _
    have E5 : Blk w6 g5 39 #[.int .i64 0, .int .u8 1, .int .i64 1, .int .i64 2, .int .i64 3, .int .i64 1, .int .i64 1] := by rw [← hw6]; exact (D5.far (p := ⟨g4, 4, none⟩) hne2 _).set 6 (.int .i64 1)
    have E3 : Blk w6 w4.heap.size 39 #[.int .i64 0, .int .u8 1, .int .i64 1, .int .i64 2, .int .i64 3, .int .i64 1, .int .i64 0] := by rw [← hw6]; exact (E6.far (p := ⟨g4, 4, none⟩) (by have := HE5.out.lt; simp; omega) _).far (p := ⟨g5, 6, none⟩) (by have := HE5.out.lt; simp; omega) _
    have BB6 : Below w4.heap.size w4 w6 := by
      have h1 := HB5.out.size
      have h2 := below_step HB5.out B6
      rw [← hw6]; exact (h2.setCell (p := ⟨g4, 4, none⟩) (by simp; omega) _).setCell (p := ⟨g5, 6, none⟩) (by simp; omega) _
    have S6 : w6.heap.size = wc.heap.size := by rw [← hw6]; simp
    rw [hw6]
    obtain ⟨w7, hw7⟩ : ∃ w7, w6.alloc (.cells #[.int .i64 0, .int .u8 2, .int .i64 1, .int .i64 0, .int .i64 0, .int .i64 6, .int .i64 0] 39) = w7 := ⟨_, rfl⟩
    have F6 : Blk w7 w6.heap.size 39 #[.int .i64 0, .int .u8 2, .int .i64 1, .int .i64 0, .int .i64 0, .int .i64 6, .int .i64 0] := by rw [← hw7]; exact Blk.new rfl
    have F3 : Blk w7 w4.heap.size 39 #[.int .i64 0, .int .u8 1, .int .i64 1, .int .i64 2, .int .i64 3, .int .i64 1, .int .i64 0] := by rw [← hw7]; exact E3.alloc _
    have F4 : Blk w7 g4 39 #[.int .i64 0, .int .u8 1, .int .i64 1, .int .i64 2, .int .i64 5, .int .i64 1, .int .i64 0] := by rw [← hw7]; exact E4.alloc _
    have F5 : Blk w7 g5 39 #[.int .i64 0, .int .u8 1, .int .i64 1, .int .i64 2, .int .i64 3, .int .i64 1, .int .i64 1] := by rw [← hw7]; exact E5.alloc _
    have B7 : Below w4.heap.size w4 w7 := by rw [← hw7]; exact BB6.alloc BB6.size _
    rw [hw7]
    rw [← S6]
    have HF3 := Lib.hid F3; have HF4 := Lib.hid F4; have HF5 := Lib.hid F5; have HF6 := Lib.hid F6; have HB7 := Lib.hid B7
    obtain ⟨e0, e1, e2, e3, e4, e5, e6⟩ := F6.at7
    have hz6 := F6.lt
    have hz6a : w6.heap.size < w7.heap.size + 1 := by omega
    have hz6b : w6.heap.size < w7.heap.size + 1 + 1 := by omega
    have hz6c : w6.heap.size ≠ w7.heap.size := by omega
    have hz6d : w6.heap.size ≠ w7.heap.size + 1 := by omega
    have hz6e : w6.heap.size ≠ w7.heap.size + 1 + 1 := by omega
    clear hw6 hw7 i0 i1 i2 i3 i4 i5 i6 j0 j1 j2 j3 j4 j5 j6 k4 k6 hz4 hz5' D4 D5 E3 E4 E5 E6 BB6 F3 F4 F5 F6 B6 B7 S6 HE5 HB5 hl4 hl5 hne hne2
    go_cut [7, 8, 9] (fun s7 s8 s9 wx => ∃ g7 g8 g9, s7 = .pointer (some ⟨g7, 0, none⟩) ∧ s8 = .pointer (some ⟨g8, 0, none⟩) ∧ s9 = .pointer (some ⟨g9, 0, none⟩) ∧ Blk wx g7 39 #[.int .i64 0, .int .u8 2, .int .i64 1, .int .i64 0, .int .i64 0, .int .i64 6, .int .i64 0] ∧ Blk wx g8 39 #[.int .i64 0, .int .u8 2, .int .i64 1, .int .i64 0, .int .i64 0, .int .i64 6, .int .i64 0] ∧ Blk wx g9 39 #[.int .i64 0, .int .u8 2, .int .i64 1, .int .i64 0, .int .i64 0, .int .i64 6, .int .i64 0] ∧ g7 ≠ g8 ∧ g7 ≠ g9 ∧ g8 ≠ g9 ∧ w7.heap.size ≤ g7 ∧ w7.heap.size ≤ g8 ∧ w7.heap.size ≤ g9 ∧ Below w7.heap.size w7 wx)
    case first =>
      go_region
      all_goals
        go_wp2_with fail
        go_meet
        first
          | exact ⟨w7.heap.size, w7.heap.size + 1, w7.heap.size + 1 + 1, rfl, rfl, rfl, (((Blk.new rfl).alloc _).alloc _).drew, ((Blk.new (by simp)).alloc _).drew, (Blk.new (by simp)).drew, by omega, by omega, by omega, by omega, by omega, by omega, (((below_alloc _).alloc (by simp) _).alloc (by simp <;> omega) _).drew⟩
          | exact ⟨w7.heap.size, w7.heap.size + 1 + 1, w7.heap.size + 1, rfl, rfl, rfl, (((Blk.new rfl).alloc _).alloc _).drew, (Blk.new (by simp)).drew, ((Blk.new (by simp)).alloc _).drew, by omega, by omega, by omega, by omega, by omega, by omega, (((below_alloc _).alloc (by simp) _).alloc (by simp <;> omega) _).drew⟩
          | exact ⟨w7.heap.size + 1, w7.heap.size, w7.heap.size + 1 + 1, rfl, rfl, rfl, ((Blk.new (by simp)).alloc _).drew, (((Blk.new rfl).alloc _).alloc _).drew, (Blk.new (by simp)).drew, by omega, by omega, by omega, by omega, by omega, by omega, (((below_alloc _).alloc (by simp) _).alloc (by simp <;> omega) _).drew⟩
          | exact ⟨w7.heap.size + 1, w7.heap.size + 1 + 1, w7.heap.size, rfl, rfl, rfl, ((Blk.new (by simp)).alloc _).drew, (Blk.new (by simp)).drew, (((Blk.new rfl).alloc _).alloc _).drew, by omega, by omega, by omega, by omega, by omega, by omega, (((below_alloc _).alloc (by simp) _).alloc (by simp <;> omega) _).drew⟩
          | exact ⟨w7.heap.size + 1 + 1, w7.heap.size, w7.heap.size + 1, rfl, rfl, rfl, (Blk.new (by simp)).drew, (((Blk.new rfl).alloc _).alloc _).drew, ((Blk.new (by simp)).alloc _).drew, by omega, by omega, by omega, by omega, by omega, by omega, (((below_alloc _).alloc (by simp) _).alloc (by simp <;> omega) _).drew⟩
          | exact ⟨w7.heap.size + 1 + 1, w7.heap.size + 1, w7.heap.size, rfl, rfl, rfl, (Blk.new (by simp)).drew, ((Blk.new (by simp)).alloc _).drew, (((Blk.new rfl).alloc _).alloc _).drew, by omega, by omega, by omega, by omega, by omega, by omega, (((below_alloc _).alloc (by simp) _).alloc (by simp <;> omega) _).drew⟩
    case rest =>
      obtain ⟨g7, g8, g9, hs7, hs8, hs9, D7, D8, D9, n78, n79, n89, l7, l8, l9, B8⟩ := hcut
      replace hs7 := hs7.symm; replace hs8 := hs8.symm; replace hs9 := hs9.symm
      subst hs7; subst hs8; subst hs9
      have n87 := n78.symm; have n97 := n79.symm; have n98 := n89.symm
      have hz7 := D7.lt; have hz8 := D8.lt; have hz9 := D9.lt
      have c7 := D7.cell 5; have c8 := D8.cell 5; have c9 := D9.cell 2
      simp only [List.getElem?_toArray, List.getElem?_cons_zero, List.getElem?_cons_succ] at c7 c8 c9
      have f7 := D7.frozen 5; have f8 := D8.frozen 5; have f9 := D9.frozen 2
      go_upto_region 11 with fail
      have hw7 := HB7.out.size
      have l3 := HF3.out.lt; have l4 := HF4.out.lt; have l5 := HF5.out.lt; have l6 := HF6.out.lt
      obtain ⟨w8, hw8⟩ : ∃ w8, (((wc.setCell ⟨g7, 5, none⟩ (.int .i64 1)).setCell ⟨g8, 5, none⟩ (.int .i64 7)).setCell ⟨g9, 2, none⟩ (.int .i64 2)) = w8 := ⟨_, rfl⟩
      have Bx : Below w7.heap.size w7 w8 := by rw [← hw8]; exact ((B8.setCell (p := ⟨g7, 5, none⟩) l7 _).setCell (p := ⟨g8, 5, none⟩) l8 _).setCell (p := ⟨g9, 2, none⟩) l9 _
      have D7' : Blk w8 g7 39 #[.int .i64 0, .int .u8 2, .int .i64 1, .int .i64 0, .int .i64 0, .int .i64 1, .int .i64 0] := by rw [← hw8]; exact ((D7.set 5 (.int .i64 1)).far (p := ⟨g8, 5, none⟩) n78 _).far (p := ⟨g9, 2, none⟩) n79 _
      have D8' : Blk w8 g8 39 #[.int .i64 0, .int .u8 2, .int .i64 1, .int .i64 0, .int .i64 0, .int .i64 7, .int .i64 0] := by rw [← hw8]; exact ((D8.far (p := ⟨g7, 5, none⟩) n87 _).set 5 (.int .i64 7)).far (p := ⟨g9, 2, none⟩) n89 _
      have D9' : Blk w8 g9 39 #[.int .i64 0, .int .u8 2, .int .i64 2, .int .i64 0, .int .i64 0, .int .i64 6, .int .i64 0] := by rw [← hw8]; exact ((D9.far (p := ⟨g7, 5, none⟩) n97 _).far (p := ⟨g8, 5, none⟩) n98 _).set 2 (.int .i64 2)
      rw [hw8]
      have hAw : AwE w4 w8 w4.heap.size g4 g5 w6.heap.size g7 g8 g9 := ⟨below_step HB7.out Bx, HF3.out.below Bx l3, HF4.out.below Bx l4, HF5.out.below Bx l5, HF6.out.below Bx l6, D7', D8', D9'⟩
      have hzc4 := HC4.out.lt; have hzp4 := HP4.out.lt
      clear hw8 Bx D7' D8' D9' D7 D8 D9 n78 n79 n89 n87 n97 n98 l7 l8 l9 l3 l4 l5 l6 hz7 hz8 hz9 c7 c8 c9 f7 f8 f9 B8 HF3 HF4 HF5 HF6 HB7 hw7 e0 e1 e2 e3 e4 e5 e6 hz6 hz6a hz6b hz6c hz6d hz6e
      obtain ⟨lg1, lg2, lg3, lg4, lg5, lg6⟩ := ax_leg
      obtain ⟨st1, st2⟩ := ax_str
      have LG1 := Lib.hid lg1; have LG2 := Lib.hid lg2; have LG3 := Lib.hid lg3; have LG4 := Lib.hid lg4; have LG5 := Lib.hid lg5; have LG6 := Lib.hid lg6; have ST1 := Lib.hid st1; have ST2 := Lib.hid st2
      clear lg1 lg2 lg3 lg4 lg5 lg6 st1 st2
      have c1 := (HC4.out.below hAw.bel hzc4).at9; have p1 := (HP4.out.below hAw.bel hzp4).full3; have v1 := hAw.e3.at7; have x1 := hAw.e3.lt; have y1 := HC4.out.below hAw.bel hzc4 |>.lt; have z1 := HP4.out.below hAw.bel hzp4 |>.lt
      obtain ⟨a0, a1, a2, a3, a4, a5, a6, a7, a8⟩ := c1
      obtain ⟨⟨p0, p1, p2⟩, -, -⟩ := p1
      obtain ⟨e0, e1, e2, e3, e4, e5, e6⟩ := v1
      go_wp2_with fail
      refine (HRT.out _ hAw.bel).mono ?_
      rintro e W1 ⟨rfl, Bn⟩
      replace hAw := hAw.below Bn
      clear a0 a1 a2 a3 a4 a5 a6 a7 a8 p0 p1 p2 e0 e1 e2 e3 e4 e5 e6 x1 y1 z1 Bn
      have c2 := (HC4.out.below hAw.bel hzc4).at9; have p2 := (HP4.out.below hAw.bel hzp4).full3; have v2 := hAw.e3.at7; have x2 := hAw.e3.lt; have y2 := HC4.out.below hAw.bel hzc4 |>.lt; have z2 := HP4.out.below hAw.bel hzp4 |>.lt
      obtain ⟨a0, a1, a2, a3, a4, a5, a6, a7, a8⟩ := c2
      obtain ⟨⟨p0, p1, p2⟩, -, -⟩ := p2
      obtain ⟨e0, e1, e2, e3, e4, e5, e6⟩ := v2
      go_wp2_with fail
      refine (HLEG.out ⟨0, 1, 1, 2, 3, 1, 0⟩ _ hAw.bel).mono ?_
      rintro e W2 ⟨rfl, Bn⟩
      rw [LG1.out]
      replace hAw := hAw.below Bn
      clear a0 a1 a2 a3 a4 a5 a6 a7 a8 p0 p1 p2 e0 e1 e2 e3 e4 e5 e6 x2 y2 z2 Bn
      have c3 := (HC4.out.below hAw.bel hzc4).at9; have p3 := (HP4.out.below hAw.bel hzp4).full3; have v3 := hAw.e3.at7; have x3 := hAw.e3.lt; have y3 := HC4.out.below hAw.bel hzc4 |>.lt; have z3 := HP4.out.below hAw.bel hzp4 |>.lt
      obtain ⟨a0, a1, a2, a3, a4, a5, a6, a7, a8⟩ := c3
      obtain ⟨⟨p0, p1, p2⟩, -, -⟩ := p3
      obtain ⟨e0, e1, e2, e3, e4, e5, e6⟩ := v3
      go_wp2_with fail
      refine (HSTR.out ⟨0, 1, 1, 2, 3, 1, 0⟩ _ hAw.bel).mono ?_
      rintro e W3 ⟨rfl, Bn⟩
      rw [ST1.out]
      replace hAw := hAw.below Bn
      clear a0 a1 a2 a3 a4 a5 a6 a7 a8 p0 p1 p2 e0 e1 e2 e3 e4 e5 e6 x3 y3 z3 Bn
      have c4 := (HC4.out.below hAw.bel hzc4).at9; have p4 := (HP4.out.below hAw.bel hzp4).full3; have v4 := hAw.e4.at7; have x4 := hAw.e4.lt; have y4 := HC4.out.below hAw.bel hzc4 |>.lt; have z4 := HP4.out.below hAw.bel hzp4 |>.lt
      obtain ⟨a0, a1, a2, a3, a4, a5, a6, a7, a8⟩ := c4
      obtain ⟨⟨p0, p1, p2⟩, -, -⟩ := p4
      obtain ⟨e0, e1, e2, e3, e4, e5, e6⟩ := v4
      go_wp2_with fail
      refine (HSTR.out ⟨0, 1, 1, 2, 5, 1, 0⟩ _ hAw.bel).mono ?_
      rintro e W4 ⟨rfl, Bn⟩
      rw [ST2.out]
      replace hAw := hAw.below Bn
      clear a0 a1 a2 a3 a4 a5 a6 a7 a8 p0 p1 p2 e0 e1 e2 e3 e4 e5 e6 x4 y4 z4 Bn
      have c5 := (HC4.out.below hAw.bel hzc4).at9; have p5 := (HP4.out.below hAw.bel hzp4).full3; have v5 := hAw.e5.at7; have x5 := hAw.e5.lt; have y5 := HC4.out.below hAw.bel hzc4 |>.lt; have z5 := HP4.out.below hAw.bel hzp4 |>.lt
      obtain ⟨a0, a1, a2, a3, a4, a5, a6, a7, a8⟩ := c5
      obtain ⟨⟨p0, p1, p2⟩, -, -⟩ := p5
      obtain ⟨e0, e1, e2, e3, e4, e5, e6⟩ := v5
      go_wp2_with fail
      refine (HLEG.out ⟨0, 1, 1, 2, 3, 1, 1⟩ _ hAw.bel).mono ?_
      rintro e W5 ⟨rfl, Bn⟩
      rw [LG2.out]
      replace hAw := hAw.below Bn
      clear a0 a1 a2 a3 a4 a5 a6 a7 a8 p0 p1 p2 e0 e1 e2 e3 e4 e5 e6 x5 y5 z5 Bn
      have c6 := (HC4.out.below hAw.bel hzc4).at9; have p6 := (HP4.out.below hAw.bel hzp4).full3; have v6 := hAw.e6.at7; have x6 := hAw.e6.lt; have y6 := HC4.out.below hAw.bel hzc4 |>.lt; have z6 := HP4.out.below hAw.bel hzp4 |>.lt
      obtain ⟨a0, a1, a2, a3, a4, a5, a6, a7, a8⟩ := c6
      obtain ⟨⟨p0, p1, p2⟩, -, -⟩ := p6
      obtain ⟨e0, e1, e2, e3, e4, e5, e6⟩ := v6
      go_wp2_with fail
      refine (HLEG.out ⟨0, 2, 1, 0, 0, 6, 0⟩ _ hAw.bel).mono ?_
      rintro e W6 ⟨rfl, Bn⟩
      rw [LG3.out]
      replace hAw := hAw.below Bn
      clear a0 a1 a2 a3 a4 a5 a6 a7 a8 p0 p1 p2 e0 e1 e2 e3 e4 e5 e6 x6 y6 z6 Bn
      have c7 := (HC4.out.below hAw.bel hzc4).at9; have p7 := (HP4.out.below hAw.bel hzp4).full3; have v7 := hAw.e7.at7; have x7 := hAw.e7.lt; have y7 := HC4.out.below hAw.bel hzc4 |>.lt; have z7 := HP4.out.below hAw.bel hzp4 |>.lt
      obtain ⟨a0, a1, a2, a3, a4, a5, a6, a7, a8⟩ := c7
      obtain ⟨⟨p0, p1, p2⟩, -, -⟩ := p7
      obtain ⟨e0, e1, e2, e3, e4, e5, e6⟩ := v7
      go_wp2_with fail
      refine (HLEG.out ⟨0, 2, 1, 0, 0, 1, 0⟩ _ hAw.bel).mono ?_
      rintro e W7 ⟨rfl, Bn⟩
      rw [LG4.out]
      replace hAw := hAw.below Bn
      clear a0 a1 a2 a3 a4 a5 a6 a7 a8 p0 p1 p2 e0 e1 e2 e3 e4 e5 e6 x7 y7 z7 Bn
      have c8 := (HC4.out.below hAw.bel hzc4).at9; have p8 := (HP4.out.below hAw.bel hzp4).full3; have v8 := hAw.e8.at7; have x8 := hAw.e8.lt; have y8 := HC4.out.below hAw.bel hzc4 |>.lt; have z8 := HP4.out.below hAw.bel hzp4 |>.lt
      obtain ⟨a0, a1, a2, a3, a4, a5, a6, a7, a8⟩ := c8
      obtain ⟨⟨p0, p1, p2⟩, -, -⟩ := p8
      obtain ⟨e0, e1, e2, e3, e4, e5, e6⟩ := v8
      go_wp2_with fail
      refine (HLEG.out ⟨0, 2, 1, 0, 0, 7, 0⟩ _ hAw.bel).mono ?_
      rintro e W8 ⟨rfl, Bn⟩
      rw [LG5.out]
      replace hAw := hAw.below Bn
      clear a0 a1 a2 a3 a4 a5 a6 a7 a8 p0 p1 p2 e0 e1 e2 e3 e4 e5 e6 x8 y8 z8 Bn
      have c9 := (HC4.out.below hAw.bel hzc4).at9; have p9 := (HP4.out.below hAw.bel hzp4).full3; have v9 := hAw.e9.at7; have x9 := hAw.e9.lt; have y9 := HC4.out.below hAw.bel hzc4 |>.lt; have z9 := HP4.out.below hAw.bel hzp4 |>.lt
      obtain ⟨a0, a1, a2, a3, a4, a5, a6, a7, a8⟩ := c9
      obtain ⟨⟨p0, p1, p2⟩, -, -⟩ := p9
      obtain ⟨e0, e1, e2, e3, e4, e5, e6⟩ := v9
      go_wp2_with fail
      refine (HLEG.out ⟨0, 2, 2, 0, 0, 6, 0⟩ _ hAw.bel).mono ?_
      rintro e W9 ⟨rfl, Bn⟩
      rw [LG6.out]
      replace hAw := hAw.below Bn
      clear a0 a1 a2 a3 a4 a5 a6 a7 a8 p0 p1 p2 e0 e1 e2 e3 e4 e5 e6 x9 y9 z9 Bn
      have BF := HB4.out.trans (hAw.bel.mono HB4.out.size)
      clear hAw
      go_wp2_with fail
      go_ret
      exact ⟨rfl, BF⟩
end Go.Proofs.Ytanifbofjecpmaa
