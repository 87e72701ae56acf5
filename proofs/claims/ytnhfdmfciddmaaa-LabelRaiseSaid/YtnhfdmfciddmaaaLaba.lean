/- Layer 6: the chapter's examples ('awake'). -/
import Derived.Test.YtnhfdmfciddmaaaLabf
import Derived.Test.YtnhfdmfciddmaaaDawake
namespace Go.Proofs.Ytnhfdmfciddmaaa
open Go.RowKit
set_option maxRecDepth 100000

/-! Plain facts. -/
def sxArcs : List ArcN := [⟨0, 1, 5⟩, ⟨1, 2, 5⟩]
def sxH : List Int := [1, 0, 2, 1]
def sxR : List Int := [1, 0, 3, 2]
def sxX : List Int := [5, 0, 5, 0]
theorem sx_check : checkF (3 : Nat) 0 2 sxArcs = 0 := by decide +kernel
theorem sx_first : firstOf sxArcs 3 = 4 := by decide +kernel
theorem sx_first1 : firstOf sxArcs 1 = 1 := by decide +kernel
theorem sx_first2 : firstOf sxArcs 2 = 3 := by decide +kernel
theorem sx_inc : Inc sxArcs 0 0 1 false 5 ∧ Inc sxArcs 0 1 0 true 0 ∧ Inc sxArcs 1 1 2 false 5 ∧ Inc sxArcs 1 2 1 true 0 :=
  ⟨⟨by decide, _, rfl, .inl ⟨rfl, rfl, rfl, rfl⟩⟩, ⟨by decide, _, rfl, .inr ⟨rfl, rfl, rfl, rfl⟩⟩, ⟨by decide, _, rfl, .inl ⟨rfl, rfl, rfl, rfl⟩⟩, ⟨by decide, _, rfl, .inr ⟨rfl, rfl, rfl, rfl⟩⟩⟩
theorem sx_pos : posOf sxArcs 0 0 = 0 ∧ posOf sxArcs 0 1 = 1 ∧ posOf sxArcs 1 1 = 2 ∧ posOf sxArcs 1 2 = 3 := by decide +kernel
theorem four_is {L : List Int} {x0 x1 x2 x3 : Int} (hl : L.length = 4) (h0 : L[0]? = some x0) (h1 : L[1]? = some x1) (h2 : L[2]? = some x2) (h3 : L[3]? = some x3) : L = [x0, x1, x2, x3] := by
  apply List.ext_getElem?
  intro i
  match i with
  | 0 => rw [h0]; rfl
  | 1 => rw [h1]; rfl
  | 2 => rw [h2]; rfl
  | 3 => rw [h3]; rfl
  | i + 4 => rw [List.getElem?_eq_none (by omega)]; simp
theorem sx_rows {F H R C Ai : List Int} {B : List Bool} (h : CsrL 3 sxArcs F H R C Ai B) : H = sxH ∧ R = sxR := by
  obtain ⟨i0, i1, i2, i3⟩ := sx_inc
  obtain ⟨p0, p1, p2, p3⟩ := sx_pos
  have hf := sx_first
  have e := fun (i : Nat) (v u : Int) (b : Bool) (c : Int) (hI : Inc sxArcs i v u b c) (hv : 0 ≤ v) (hp : posOf sxArcs i v < 4) => (h.ent.ent i v u b c hI hv (by rw [hf]; exact hp)).1
  have r := fun (i : Nat) (v u : Int) (b : Bool) (c : Int) (hI : Inc sxArcs i v u b c) (hv : 0 ≤ v) (hp : posOf sxArcs i v < 4) => h.rev.ent i v u b c hI hv (by rw [hf]; exact hp)
  have hl := h.ent.lH
  have hr := h.rev.len
  rw [hf] at hl hr
  constructor
  · have q0 := e _ _ _ _ _ i0 (by omega) (by rw [p0]; omega); have q1 := e _ _ _ _ _ i1 (by omega) (by rw [p1]; omega)
    have q2 := e _ _ _ _ _ i2 (by omega) (by rw [p2]; omega); have q3 := e _ _ _ _ _ i3 (by omega) (by rw [p3]; omega)
    rw [p0] at q0; rw [p1] at q1; rw [p2] at q2; rw [p3] at q3
    exact four_is hl q0 q1 q2 q3
  · have q0 := r _ _ _ _ _ i0 (by omega) (by rw [p0]; omega); have q1 := r _ _ _ _ _ i1 (by omega) (by rw [p1]; omega)
    have q2 := r _ _ _ _ _ i2 (by omega) (by rw [p2]; omega); have q3 := r _ _ _ _ _ i3 (by omega) (by rw [p3]; omega)
    rw [p0, p1] at q0; rw [p1, p0] at q1; rw [p2, p3] at q2; rw [p3, p2] at q3
    exact four_is hr q0 q1 q2 q3
theorem sx_res {f X : List Int} (h : ResOf sxArcs f (firstOf sxArcs 3) X) (h0 : f[0]? = some 0) (h1 : f[1]? = some 0) : X = sxX := by
  obtain ⟨i0, i1, i2, i3⟩ := sx_inc
  obtain ⟨p0, p1, p2, p3⟩ := sx_pos
  have hl := h.len
  rw [sx_first] at hl
  have q0 := h.ent _ _ _ _ _ _ i0 h0; have q1 := h.ent _ _ _ _ _ _ i1 h0; have q2 := h.ent _ _ _ _ _ _ i2 h1; have q3 := h.ent _ _ _ _ _ _ i3 h1
  rw [p0] at q0; rw [p1] at q1; rw [p2] at q2; rw [p3] at q3
  exact four_is hl q0 q1 q2 q3
theorem sx_within {f : List Int} (hw : WithinX sxArcs [] sxArcs.length f) : f[0]? = some 0 ∧ f[1]? = some 0 := by
  have hl : f.length = 2 := hw.base.len
  have key : ∀ (i : Nat) (a : ArcN), i < 2 → sxArcs[i]? = some a → f[i]? = some 0 := by
    intro i a hi ha
    obtain ⟨x, hx⟩ : ∃ x, f[i]? = some x := ⟨_, List.getElem?_eq_getElem (by omega)⟩
    obtain ⟨g1, g2⟩ := hw.told i a x hi ha hx
    rw [hx]
    rw [g1 (by simp)]
  exact ⟨key 0 _ (by omega) rfl, key 1 _ (by omega) rfl⟩
def SxOk (M : Nat) (fst hd rv : Nat → Nat) (X : List Int) : Prop := M = 4 ∧ fst = firstOf sxArcs ∧ hd = hdOf sxH ∧ rv = hdOf sxR ∧ X = sxX
theorem left_sx (A : Option Addr) (c : Nat) (w : World) (hA : Arcs w w.heap.size A 2 sxArcs) :
    Calls Try.prog 8 #[.agg #[.int .i64 3, .int .i64 0, .int .i64 2, .slice A 2 c], .slice none 0 0] w (RetGrid 3 0 2 SxOk w) := by
  refine (left_good 3 0 2 A 2 c sxArcs none 0 0 [] w hA sx_check RdBy.empty (by simp) (by decide)).mono fun e w' h => h.grid (ends_in sx_check).2.2.2.1 fun F H R C Ai B f X hc hr hw => ?_
  obtain ⟨rfl, rfl⟩ := sx_rows hc
  obtain ⟨h0, h1⟩ := sx_within hw
  exact ⟨sx_first, rfl, rfl, rfl, sx_res hr h0 h1⟩
theorem sx_right (x : Int) (h : 0 ≤ x ∧ x ≤ 3) : rightB 3 0 2 [3, x, 0] = true := rightB_yes.2 ⟨rfl, rfl, rfl, fun v hv => by
  match v, hv with
  | 0, _ => simp [hOf]
  | 1, _ => simpa [hOf] using h
  | 2, _ => simp [hOf]⟩
theorem sx_flat1 : slps 3 4 0 2 4 (hdOf sxH) (hdOf sxR) sxX [3, 1, 0] qFlat = [2] := by
  unfold slps
  rw [if_pos ⟨rfl, sx_right 1 (by omega)⟩]
  decide
theorem sx_steep1 : slps 3 4 0 2 4 (hdOf sxH) (hdOf sxR) sxX [3, 1, 0] qSteep = [] := by
  unfold slps
  rw [if_pos ⟨rfl, sx_right 1 (by omega)⟩]
  decide
theorem sx_steep2 : slps 3 4 0 2 4 (hdOf sxH) (hdOf sxR) sxX [3, 2, 0] qSteep = [2] := by
  unfold slps
  rw [if_pos ⟨rfl, sx_right 2 (by omega)⟩]
  decide
theorem sx_flat0 : slps 3 4 0 2 4 (hdOf sxH) (hdOf sxR) sxX [3, 0, 0] qFlat = [] := by
  unfold slps
  rw [if_pos ⟨rfl, sx_right 0 (by omega)⟩]
  decide
theorem sx_valid : validB 3 4 0 2 4 (hdOf sxH) (hdOf sxR) sxX [3, 1, 0] = true := by
  unfold validB
  rw [sx_steep1, sx_right 1 (by omega)]
  rfl
theorem sx_sum : htSum 3 0 2 [3, 1, 0] = 4 := by
  unfold htSum
  rw [sx_right 1 (by omega)]
  rfl
theorem sx_low {a x : Int} {ok : Bool} (h : LowAns 3 4 0 2 4 (firstOf sxArcs) (hdOf sxH) sxX [3, 1, 0] 1 a x ok) : a = 2 ∧ x = 0 ∧ ok = true := by
  have h2 : LowAns 3 4 0 2 4 (firstOf sxArcs) (hdOf sxH) sxX [3, 1, 0] 1 2 0 true := .inl ⟨rfl, rfl, rightB_yes.1 (sx_right 1 (by omega)), 1, 2, rfl, by omega, rfl, ⟨by rw [sx_first1]; omega, by rw [show 1 + 1 = 2 from rfl, sx_first2]; omega, by decide, fun b h1 h2 h3 => ?_, fun b h1 h2 h3 => ?_⟩, by decide⟩
  · exact h.same h2
  · rw [sx_first1] at h1
    rw [show 1 + 1 = 2 from rfl, sx_first2] at h2
    match b, h1, h2, h3 with
    | 1, _, _, h3 => exact absurd h3 (by decide)
    | 2, _, _, _ => exact Int.le_refl _
  · rw [sx_first1] at h1
    match b, h1, h2, h3 with
    | 1, _, _, h3 => exact absurd h3 (by decide)

/-! The walk. -/
set_option maxHeartbeats 8000000 in
theorem awake6_any (w : World) : Calls Try.prog 24 #[] w fun e w' => e = .returned (.bool true) ∧ Below w.heap.size w w' := by
  have e1 := sx_flat1; have e2 := sx_steep2; have e3 := sx_flat0; have e4 := sx_valid; have e5 := sx_sum
  have E1 := Lib.hid e1; have E2 := Lib.hid e2; have E3 := Lib.hid e3; have E4 := Lib.hid e4; have E5 := Lib.hid e5
  clear e1 e2 e3 e4 e5
  go_enter Try.func24, Try.ntmps24
  go_wp2_with fail
  have N1 : Blk ((w.alloc (.cells #[.int .i64 0, .int .i64 1, .int .i64 5, .int .i64 1, .int .i64 2, .int .i64 5] 59)).alloc (.cells #[.int .i64 3, .int .i64 0, .int .i64 2, .slice (some ⟨w.heap.size, 0, none⟩) 2 2] 24)) (w.heap.size + 1) 24 #[.int .i64 3, .int .i64 0, .int .i64 2, .slice (some ⟨w.heap.size, 0, none⟩) 2 2] := Blk.new (by simp)
  have a1 : Arcs (w.alloc (.cells (sxArcs.flatMap arcCells).toArray 59)) (w.alloc (.cells (sxArcs.flatMap arcCells).toArray 59)).heap.size (some ⟨w.heap.size, 0, none⟩) 2 sxArcs := arcs_new rfl rfl (by simp [maxLen])
  have a1' : Arcs ((w.alloc (.cells #[.int .i64 0, .int .i64 1, .int .i64 5, .int .i64 1, .int .i64 2, .int .i64 5] 59)).alloc (.cells #[.int .i64 3, .int .i64 0, .int .i64 2, .slice (some ⟨w.heap.size, 0, none⟩) 2 2] 24)) ((w.alloc (.cells #[.int .i64 0, .int .i64 1, .int .i64 5, .int .i64 1, .int .i64 2, .int .i64 5] 59)).alloc (.cells #[.int .i64 3, .int .i64 0, .int .i64 2, .slice (some ⟨w.heap.size, 0, none⟩) 2 2] 24)).heap.size (some ⟨w.heap.size, 0, none⟩) 2 sxArcs := a1.onAlloc _
  have B1 : Below w.heap.size w ((w.alloc (.cells #[.int .i64 0, .int .i64 1, .int .i64 5, .int .i64 1, .int .i64 2, .int .i64 5] 59)).alloc (.cells #[.int .i64 3, .int .i64 0, .int .i64 2, .slice (some ⟨w.heap.size, 0, none⟩) 2 2] 24)) := (below_alloc _).alloc (by simp) _
  generalize ((w.alloc (.cells #[.int .i64 0, .int .i64 1, .int .i64 5, .int .i64 1, .int .i64 2, .int .i64 5] 59)).alloc (.cells #[.int .i64 3, .int .i64 0, .int .i64 2, .slice (some ⟨w.heap.size, 0, none⟩) 2 2] 24)) = w1 at *
  clear a1 N1
  refine (left_sx (some ⟨w.heap.size, 0, none⟩) 2 w1 a1').mono ?_
  rintro e w2 ⟨M, K, fst, hd, rv, AX, cX, X, rfl, hG, G2, X2, ⟨rfl, rfl, rfl, rfl, rfl⟩, B2⟩
  have Bw2 := below_step B1 B2
  have HG := Lib.hid hG
  clear a1' B1 B2 hG
  dsimp only [csrW]
  go_wp2_with fail
  have C3 : Blk ((w2.alloc (.cells #[.int .i64 3, .int .i64 0, .int .i64 2, .slice K.AF (3 + 1) K.cF, .slice K.AH 4 K.cH, .slice K.AR 4 K.cR, .slice K.AC 4 K.cC, .slice K.AA 4 K.cA, .slice K.AB 4 K.cB] 29)).alloc (.cells #[.int .i64 3, .int .i64 1, .int .i64 0] 3)) w2.heap.size 29 #[.int .i64 3, .int .i64 0, .int .i64 2, .slice K.AF (3 + 1) K.cF, .slice K.AH 4 K.cH, .slice K.AR 4 K.cR, .slice K.AC 4 K.cC, .slice K.AA 4 K.cA, .slice K.AB 4 K.cB] := (Blk.new rfl).alloc _
  have G3 := (G2.onAlloc (.cells #[.int .i64 3, .int .i64 0, .int .i64 2, .slice K.AF (3 + 1) K.cF, .slice K.AH 4 K.cH, .slice K.AR 4 K.cR, .slice K.AC 4 K.cC, .slice K.AA 4 K.cA, .slice K.AB 4 K.cB] 29)).onAlloc (.cells #[.int .i64 3, .int .i64 1, .int .i64 0] 3)
  have X3 := (X2.onAlloc (.cells #[.int .i64 3, .int .i64 0, .int .i64 2, .slice K.AF (3 + 1) K.cF, .slice K.AH 4 K.cH, .slice K.AR 4 K.cR, .slice K.AC 4 K.cC, .slice K.AA 4 K.cA, .slice K.AB 4 K.cB] 29)).onAlloc (.cells #[.int .i64 3, .int .i64 1, .int .i64 0] 3)
  have H3 : Ints ((w2.alloc (.cells #[.int .i64 3, .int .i64 0, .int .i64 2, .slice K.AF (3 + 1) K.cF, .slice K.AH 4 K.cH, .slice K.AR 4 K.cR, .slice K.AC 4 K.cC, .slice K.AA 4 K.cA, .slice K.AB 4 K.cB] 29)).alloc (.cells #[.int .i64 3, .int .i64 1, .int .i64 0] 3)) ((w2.alloc (.cells #[.int .i64 3, .int .i64 0, .int .i64 2, .slice K.AF (3 + 1) K.cF, .slice K.AH 4 K.cH, .slice K.AR 4 K.cR, .slice K.AC 4 K.cC, .slice K.AA 4 K.cA, .slice K.AB 4 K.cB] 29)).alloc (.cells #[.int .i64 3, .int .i64 1, .int .i64 0] 3)).heap.size (some ⟨w2.heap.size + 1, 0, none⟩) 3 [3, 1, 0] := Blk.ints (Blk.new (by simp)) rfl
  have Bw3 := (Bw2.alloc Bw2.size (.cells #[.int .i64 3, .int .i64 0, .int .i64 2, .slice K.AF (3 + 1) K.cF, .slice K.AH 4 K.cH, .slice K.AR 4 K.cR, .slice K.AC 4 K.cC, .slice K.AA 4 K.cA, .slice K.AB 4 K.cB] 29)).alloc (by have := Bw2.size; simp; omega) (.cells #[.int .i64 3, .int .i64 1, .int .i64 0] 3)
  generalize ((w2.alloc (.cells #[.int .i64 3, .int .i64 0, .int .i64 2, .slice K.AF (3 + 1) K.cF, .slice K.AH 4 K.cH, .slice K.AR 4 K.cR, .slice K.AC 4 K.cC, .slice K.AA 4 K.cA, .slice K.AB 4 K.cB] 29)).alloc (.cells #[.int .i64 3, .int .i64 1, .int .i64 0] 3)) = w3 at *
  clear G2 X2 Bw2
  refine (lleast_is 3 4 0 2 K _ _ _ AX 4 cX sxX _ 3 3 [3, 1, 0] 1 _ HG.out G3 X3 H3 (by omega) (by omega) (by omega) (by omega)).mono ?_
  rintro e w4 ⟨a, x, ok, rfl, hlow, B4⟩
  obtain ⟨rfl, rfl, rfl⟩ := sx_low hlow
  have C4 := C3.below B4 C3.lt
  have G4 := G3.on B4
  have X4 := X3.on B4
  have Bw4 := below_step Bw3 B4
  clear C3 G3 X3 H3 Bw3 B4 hlow
  obtain ⟨a0, a1, a2, a3, a4, a5, a6, a7, a8⟩ := C4.at9
  have hz4 := C4.lt
  go_wp2_with fail
  have C5 := C4.alloc (.cells #[.int .i64 3, .int .i64 1, .int .i64 0] 3)
  have G5 := G4.onAlloc (.cells #[.int .i64 3, .int .i64 1, .int .i64 0] 3)
  have X5 := X4.onAlloc (.cells #[.int .i64 3, .int .i64 1, .int .i64 0] 3)
  have H5 : Ints (w4.alloc (.cells #[.int .i64 3, .int .i64 1, .int .i64 0] 3)) (w4.alloc (.cells #[.int .i64 3, .int .i64 1, .int .i64 0] 3)).heap.size (some ⟨w4.heap.size, 0, none⟩) 3 [3, 1, 0] := Blk.ints (Blk.new rfl) rfl
  have Bw5 := Bw4.alloc Bw4.size (.cells #[.int .i64 3, .int .i64 1, .int .i64 0] 3)
  generalize w4.alloc (.cells #[.int .i64 3, .int .i64 1, .int .i64 0] 3) = w5 at *
  clear C4 G4 X4 Bw4 a0 a1 a2 a3 a4 a5 a6 a7 a8 hz4
  refine (lvalid_is 3 4 0 2 K _ _ _ AX 4 cX sxX _ 3 3 [3, 1, 0] _ HG.out G5 X5 H5 (by omega) (by omega) (by omega) (by omega)).mono ?_
  rw [E4.out]
  rintro e w6 ⟨rfl, B6⟩
  have C6 := C5.below B6 C5.lt
  have G6 := G5.on B6
  have X6 := X5.on B6
  have Bw6 := below_step Bw5 B6
  clear C5 G5 X5 H5 Bw5 B6
  obtain ⟨a0, a1, a2, a3, a4, a5, a6, a7, a8⟩ := C6.at9
  have hz6 := C6.lt
  go_wp2_with fail
  have C7 := C6.alloc (.cells #[.int .i64 3, .int .i64 1, .int .i64 0] 3)
  have G7 := G6.onAlloc (.cells #[.int .i64 3, .int .i64 1, .int .i64 0] 3)
  have X7 := X6.onAlloc (.cells #[.int .i64 3, .int .i64 1, .int .i64 0] 3)
  have H7 : Ints (w6.alloc (.cells #[.int .i64 3, .int .i64 1, .int .i64 0] 3)) (w6.alloc (.cells #[.int .i64 3, .int .i64 1, .int .i64 0] 3)).heap.size (some ⟨w6.heap.size, 0, none⟩) 3 [3, 1, 0] := Blk.ints (Blk.new rfl) rfl
  have Bw7 := Bw6.alloc Bw6.size (.cells #[.int .i64 3, .int .i64 1, .int .i64 0] 3)
  generalize w6.alloc (.cells #[.int .i64 3, .int .i64 1, .int .i64 0] 3) = w7 at *
  clear C6 G6 X6 Bw6 a0 a1 a2 a3 a4 a5 a6 a7 a8 hz6
  refine (lflat_is 3 4 0 2 K _ _ _ AX 4 cX sxX _ 3 3 [3, 1, 0] _ HG.out G7 X7 H7 (by omega) (by omega) (by omega) (by omega)).mono ?_
  rw [E1.out]
  rintro e w8 ⟨AQ, cQ, rfl, hO, B8⟩
  have Q8 := own_nums hO
  have C8 := C7.below B8 C7.lt
  have G8 := G7.on B8
  have X8 := X7.on B8
  have Bw8 := below_step Bw7 B8
  clear C7 G7 X7 H7 Bw7 B8 hO
  go_wp2_with fail
  have C9 := C8.alloc (.cells #[.int .i64 2] 3)
  have G9 := G8.onAlloc (.cells #[.int .i64 2] 3)
  have X9 := X8.onAlloc (.cells #[.int .i64 2] 3)
  have Q9 := Q8.onAlloc (.cells #[.int .i64 2] 3)
  have H9 : Ints (w8.alloc (.cells #[.int .i64 2] 3)) (w8.alloc (.cells #[.int .i64 2] 3)).heap.size (some ⟨w8.heap.size, 0, none⟩) 1 [2] := Blk.ints (Blk.new rfl) rfl
  have Bw9 := Bw8.alloc Bw8.size (.cells #[.int .i64 2] 3)
  generalize w8.alloc (.cells #[.int .i64 2] 3) = w9 at *
  clear C8 G8 X8 Bw8 Q8
  refine (ints_is (n := 1) (m := 1) _ _ Q9 H9 (by omega) (by omega) (v := true) (decide_eq_true rfl)).mono ?_
  rintro e w10 ⟨rfl, B10⟩
  have C10 := C9.below B10 C9.lt
  have G10 := G9.on B10
  have X10 := X9.on B10
  have Bw10 := below_step Bw9 B10
  clear C9 G9 X9 H9 Bw9 B10 Q9
  obtain ⟨a0, a1, a2, a3, a4, a5, a6, a7, a8⟩ := C10.at9
  have hz10 := C10.lt
  go_wp2_with fail
  have C11 := C10.alloc (.cells #[.int .i64 3, .int .i64 2, .int .i64 0] 3)
  have G11 := G10.onAlloc (.cells #[.int .i64 3, .int .i64 2, .int .i64 0] 3)
  have X11 := X10.onAlloc (.cells #[.int .i64 3, .int .i64 2, .int .i64 0] 3)
  have H11 : Ints (w10.alloc (.cells #[.int .i64 3, .int .i64 2, .int .i64 0] 3)) (w10.alloc (.cells #[.int .i64 3, .int .i64 2, .int .i64 0] 3)).heap.size (some ⟨w10.heap.size, 0, none⟩) 3 [3, 2, 0] := Blk.ints (Blk.new rfl) rfl
  have Bw11 := Bw10.alloc Bw10.size (.cells #[.int .i64 3, .int .i64 2, .int .i64 0] 3)
  generalize w10.alloc (.cells #[.int .i64 3, .int .i64 2, .int .i64 0] 3) = w11 at *
  clear C10 G10 X10 Bw10 a0 a1 a2 a3 a4 a5 a6 a7 a8 hz10
  refine (lsteep_is 3 4 0 2 K _ _ _ AX 4 cX sxX _ 3 3 [3, 2, 0] _ HG.out G11 X11 H11 (by omega) (by omega) (by omega) (by omega)).mono ?_
  rw [E2.out]
  rintro e w12 ⟨AQ2, cQ2, rfl, hO, B12⟩
  have Q12 := own_nums hO
  have C12 := C11.below B12 C11.lt
  have G12 := G11.on B12
  have X12 := X11.on B12
  have Bw12 := below_step Bw11 B12
  clear C11 G11 X11 H11 Bw11 B12 hO
  go_wp2_with fail
  have C13 := C12.alloc (.cells #[.int .i64 2] 3)
  have G13 := G12.onAlloc (.cells #[.int .i64 2] 3)
  have X13 := X12.onAlloc (.cells #[.int .i64 2] 3)
  have Q13 := Q12.onAlloc (.cells #[.int .i64 2] 3)
  have H13 : Ints (w12.alloc (.cells #[.int .i64 2] 3)) (w12.alloc (.cells #[.int .i64 2] 3)).heap.size (some ⟨w12.heap.size, 0, none⟩) 1 [2] := Blk.ints (Blk.new rfl) rfl
  have Bw13 := Bw12.alloc Bw12.size (.cells #[.int .i64 2] 3)
  generalize w12.alloc (.cells #[.int .i64 2] 3) = w13 at *
  clear C12 G12 X12 Bw12 Q12
  refine (ints_is (n := 1) (m := 1) _ _ Q13 H13 (by omega) (by omega) (v := true) (decide_eq_true rfl)).mono ?_
  rintro e w14 ⟨rfl, B14⟩
  have C14 := C13.below B14 C13.lt
  have G14 := G13.on B14
  have X14 := X13.on B14
  have Bw14 := below_step Bw13 B14
  clear C13 G13 X13 H13 Bw13 B14 Q13
  obtain ⟨a0, a1, a2, a3, a4, a5, a6, a7, a8⟩ := C14.at9
  have hz14 := C14.lt
  go_wp2_with fail
  have C15 := C14.alloc (.cells #[.int .i64 3, .int .i64 0, .int .i64 0] 3)
  have G15 := G14.onAlloc (.cells #[.int .i64 3, .int .i64 0, .int .i64 0] 3)
  have X15 := X14.onAlloc (.cells #[.int .i64 3, .int .i64 0, .int .i64 0] 3)
  have H15 : Ints (w14.alloc (.cells #[.int .i64 3, .int .i64 0, .int .i64 0] 3)) (w14.alloc (.cells #[.int .i64 3, .int .i64 0, .int .i64 0] 3)).heap.size (some ⟨w14.heap.size, 0, none⟩) 3 [3, 0, 0] := Blk.ints (Blk.new rfl) rfl
  have Bw15 := Bw14.alloc Bw14.size (.cells #[.int .i64 3, .int .i64 0, .int .i64 0] 3)
  generalize w14.alloc (.cells #[.int .i64 3, .int .i64 0, .int .i64 0] 3) = w15 at *
  clear C14 G14 X14 Bw14 a0 a1 a2 a3 a4 a5 a6 a7 a8 hz14
  refine (lflat_is 3 4 0 2 K _ _ _ AX 4 cX sxX _ 3 3 [3, 0, 0] _ HG.out G15 X15 H15 (by omega) (by omega) (by omega) (by omega)).mono ?_
  rw [E3.out]
  rintro e w16 ⟨AQ3, cQ3, rfl, hO, B16⟩
  have C16 := C15.below B16 C15.lt
  have G16 := G15.on B16
  have X16 := X15.on B16
  have Bw16 := below_step Bw15 B16
  clear C15 G15 X15 H15 Bw15 B16 hO
  obtain ⟨a0, a1, a2, a3, a4, a5, a6, a7, a8⟩ := C16.at9
  have hz16 := C16.lt
  go_wp2_with fail
  have C17 := C16.alloc (.cells #[.int .i64 3, .int .i64 1, .int .i64 0] 3)
  have G17 := G16.onAlloc (.cells #[.int .i64 3, .int .i64 1, .int .i64 0] 3)
  have X17 := X16.onAlloc (.cells #[.int .i64 3, .int .i64 1, .int .i64 0] 3)
  have H17 : Ints (w16.alloc (.cells #[.int .i64 3, .int .i64 1, .int .i64 0] 3)) (w16.alloc (.cells #[.int .i64 3, .int .i64 1, .int .i64 0] 3)).heap.size (some ⟨w16.heap.size, 0, none⟩) 3 [3, 1, 0] := Blk.ints (Blk.new rfl) rfl
  have Bw17 := Bw16.alloc Bw16.size (.cells #[.int .i64 3, .int .i64 1, .int .i64 0] 3)
  generalize w16.alloc (.cells #[.int .i64 3, .int .i64 1, .int .i64 0] 3) = w17 at *
  clear C16 G16 X16 Bw16 a0 a1 a2 a3 a4 a5 a6 a7 a8 hz16
  refine (lsum_is 3 4 0 2 K _ 3 3 [3, 1, 0] _ H17 (by omega) (by omega) (by omega)).mono ?_
  rw [E5.out]
  rintro e w18 ⟨rfl, B18⟩
  have Bw18 := below_step Bw17 B18
  have hB := Lib.hid Bw18
  clear C17 G17 X17 H17 Bw17 B18 Bw18
  go_wp2_with fail
  go_ret
  exact ⟨rfl, hB.out⟩

end Go.Proofs.Ytnhfdmfciddmaaa
