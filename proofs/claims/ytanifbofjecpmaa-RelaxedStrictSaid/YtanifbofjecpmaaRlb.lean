/- Layer 9: the machine's checks: most, checkLift, checkPush, check. -/
import Derived.Test.YtanifbofjecpmaaRla
namespace Go.Proofs.Ytanifbofjecpmaa
open Go.RowKit Go.Shelf
set_option maxRecDepth 100000

theorem Blk.at7 {w : World} {g : Nat} {t : TypeId} {v0 v1 v2 v3 v4 v5 v6 : Value} (h : Blk w g t #[v0, v1, v2, v3, v4, v5, v6]) :
    w.cell? ⟨g, 0, none⟩ = some v0 ∧ w.cell? ⟨g, 1, none⟩ = some v1 ∧ w.cell? ⟨g, 2, none⟩ = some v2 ∧ w.cell? ⟨g, 3, none⟩ = some v3 ∧ w.cell? ⟨g, 4, none⟩ = some v4 ∧ w.cell? ⟨g, 5, none⟩ = some v5 ∧ w.cell? ⟨g, 6, none⟩ = some v6 :=
  ⟨h.cell 0, h.cell 1, h.cell 2, h.cell 3, h.cell 4, h.cell 5, h.cell 6⟩
theorem hOf_cel {w : World} {x n : Nat} {A : Option Addr} {L : List Int} (h : Ints w x A n L) {i : Nat} (hi : i < n) : ∃ bb oo, A = some ⟨bb, oo, none⟩ ∧ bb < x ∧ w.cell? ⟨bb, oo + i, none⟩ = some (.int .i64 (hOf L i)) := by
  obtain ⟨bb, oo, e⟩ := h.adr (by omega)
  subst e
  obtain ⟨h1, h2⟩ := h.cel (hOf_get h.len hi)
  exact ⟨bb, oo, rfl, h1, h2⟩


set_option maxHeartbeats 4000000 in
theorem most_is (g b N M s t u a : Nat) (K : CsrS) (Q : PreS) (X E H : List Int) (e : EvS) (w : World) (hM : Mch w g b N M s t K M N N Q) (hQ : StIn w w.heap.size M N N Q X E H) (he : e.u = u) (hea : e.arc = a) (hu : u < N) (ha : a < M) :
    Calls Try.prog 74 #[.pointer (some ⟨g, 0, none⟩), evW e] w fun e' w' => e' = .returned (.int .i64 (min (hOf E u) (hOf X a))) ∧ Below w.heap.size w w' := by
  obtain ⟨bE, oE, hE, hbE, ce⟩ := hOf_cel hQ.iE hu
  obtain ⟨bX, oX, hX, hbX, cx⟩ := hOf_cel hQ.iX ha
  have hbox := hM.box
  obtain ⟨AF, cF, AH, cH, AR, cR, AC, cC, AA, cA, AB, cB⟩ := K
  obtain ⟨AX, cX, AE, cE, AHH, cHH⟩ := Q
  obtain ⟨who, what, eu, arc, d0, h0, low⟩ := e
  dsimp only [evW] at hE hX he hea hbox ⊢
  subst hE; subst hX; subst he; subst hea
  obtain ⟨x, hx⟩ : ∃ x, hOf X a = x := ⟨_, rfl⟩
  obtain ⟨y, hy⟩ : ∃ y, hOf E u = y := ⟨_, rfl⟩
  rw [hx] at cx ⊢
  rw [hy] at ce ⊢
  obtain ⟨d, hd⟩ : ∃ d, min y x = d := ⟨_, rfl⟩
  have hd1 : (if x < y then x else y) = d := by rw [← hd]; by_cases h : x < y <;> simp [h] <;> omega
  have hd2 : (if y < x then y else x) = d := by rw [← hd]; by_cases h : y < x <;> simp [h] <;> omega
  rw [hd]
  have hgl := hbox.lt
  clear hd hx hy hM hQ
  go_enter Try.func74, Try.ntmps74
  go_wp2_with fail

  obtain ⟨w1, hw1⟩ : ∃ w1, w.alloc (.cells #[.int .i64 who, .int .u8 what, .int .i64 (u : Int), .int .i64 (a : Int), .int .i64 d0, .int .i64 h0, .int .i64 low] 39) = w1 := ⟨_, rfl⟩
  have B1 : Below w.heap.size w w1 := by rw [← hw1]; exact below_alloc _
  have C1 : Blk w1 w.heap.size 39 #[.int .i64 who, .int .u8 what, .int .i64 (u : Int), .int .i64 (a : Int), .int .i64 d0, .int .i64 h0, .int .i64 low] := by rw [← hw1]; exact Blk.new rfl
  rw [hw1]
  clear hw1
  have hS : (fun W' => W'.cell? ⟨g, 0, none⟩ = some (.int .i64 (N : Int)) ∧ W'.cell? ⟨g, 1, none⟩ = some (.int .i64 (s : Int)) ∧ W'.cell? ⟨g, 2, none⟩ = some (.int .i64 (t : Int)) ∧ W'.cell? ⟨g, 3, none⟩ = some (.slice AF (N + 1) cF) ∧ W'.cell? ⟨g, 4, none⟩ = some (.slice AH M cH) ∧ W'.cell? ⟨g, 5, none⟩ = some (.slice AR M cR) ∧ W'.cell? ⟨g, 6, none⟩ = some (.slice AC M cC) ∧ W'.cell? ⟨g, 7, none⟩ = some (.slice AA M cA) ∧ W'.cell? ⟨g, 8, none⟩ = some (.slice AB M cB) ∧ W'.cell? ⟨g, 9, none⟩ = some (.slice (some ⟨bX, oX, none⟩) M cX) ∧ W'.cell? ⟨g, 10, none⟩ = some (.slice (some ⟨bE, oE, none⟩) N cE) ∧ W'.cell? ⟨g, 11, none⟩ = some (.slice AHH N cHH) ∧ W'.cell? ⟨g, 12, none⟩ = some (.map (some b)) ∧ W'.cell? ⟨w.heap.size, 0, none⟩ = some (.int .i64 who) ∧ W'.cell? ⟨w.heap.size, 1, none⟩ = some (.int .u8 what) ∧ W'.cell? ⟨w.heap.size, 2, none⟩ = some (.int .i64 (u : Int)) ∧ W'.cell? ⟨w.heap.size, 3, none⟩ = some (.int .i64 (a : Int)) ∧ W'.cell? ⟨w.heap.size, 4, none⟩ = some (.int .i64 d0) ∧ W'.cell? ⟨w.heap.size, 5, none⟩ = some (.int .i64 h0) ∧ W'.cell? ⟨w.heap.size, 6, none⟩ = some (.int .i64 low) ∧ W'.cell? ⟨bE, oE + u, none⟩ = some (.int .i64 y) ∧ W'.cell? ⟨bX, oX + a, none⟩ = some (.int .i64 x)) w1.drew := by
    obtain ⟨m0, m1, m2, m3, m4, m5, m6, m7, m8, m9, m10, m11, m12⟩ := (hbox.below B1 hgl).at13
    obtain ⟨e0, e1, e2, e3, e4, e5, e6⟩ := C1.at7
    exact ⟨m0, m1, m2, m3, m4, m5, m6, m7, m8, m9, m10, m11, m12, e0, e1, e2, e3, e4, e5, e6, (B1.cell (p := ⟨bE, oE + u, none⟩) hbE).trans ce, (B1.cell (p := ⟨bX, oX + a, none⟩) hbX).trans cx⟩
  have HB1 := Lib.hid B1
  have HS := Lib.hid hS
  clear hS C1 B1 hbox ce cx
  refine wp_region_held_drew (S := fun W' => W'.cell? ⟨g, 0, none⟩ = some (.int .i64 (N : Int)) ∧ W'.cell? ⟨g, 1, none⟩ = some (.int .i64 (s : Int)) ∧ W'.cell? ⟨g, 2, none⟩ = some (.int .i64 (t : Int)) ∧ W'.cell? ⟨g, 3, none⟩ = some (.slice AF (N + 1) cF) ∧ W'.cell? ⟨g, 4, none⟩ = some (.slice AH M cH) ∧ W'.cell? ⟨g, 5, none⟩ = some (.slice AR M cR) ∧ W'.cell? ⟨g, 6, none⟩ = some (.slice AC M cC) ∧ W'.cell? ⟨g, 7, none⟩ = some (.slice AA M cA) ∧ W'.cell? ⟨g, 8, none⟩ = some (.slice AB M cB) ∧ W'.cell? ⟨g, 9, none⟩ = some (.slice (some ⟨bX, oX, none⟩) M cX) ∧ W'.cell? ⟨g, 10, none⟩ = some (.slice (some ⟨bE, oE, none⟩) N cE) ∧ W'.cell? ⟨g, 11, none⟩ = some (.slice AHH N cHH) ∧ W'.cell? ⟨g, 12, none⟩ = some (.map (some b)) ∧ W'.cell? ⟨w.heap.size, 0, none⟩ = some (.int .i64 who) ∧ W'.cell? ⟨w.heap.size, 1, none⟩ = some (.int .u8 what) ∧ W'.cell? ⟨w.heap.size, 2, none⟩ = some (.int .i64 (u : Int)) ∧ W'.cell? ⟨w.heap.size, 3, none⟩ = some (.int .i64 (a : Int)) ∧ W'.cell? ⟨w.heap.size, 4, none⟩ = some (.int .i64 d0) ∧ W'.cell? ⟨w.heap.size, 5, none⟩ = some (.int .i64 h0) ∧ W'.cell? ⟨w.heap.size, 6, none⟩ = some (.int .i64 low) ∧ W'.cell? ⟨bE, oE + u, none⟩ = some (.int .i64 y) ∧ W'.cell? ⟨bX, oX + a, none⟩ = some (.int .i64 x)) (by kernel_rfl) (HS.out) (fun hS0 => ?_)
  refine tk (v := ?_) 0 5 rfl ?_ ?_
  rotate_left
  · (intro W hSw; obtain ⟨m0, m1, m2, m3, m4, m5, m6, m7, m8, m9, m10, m11, m12, e0, e1, e2, e3, e4, e5, e6, ce, cx⟩ := hSw; go_simp; try with_reducible rfl)
  simp only [Act.put, pa, pz, ps]
  refine tk (v := ?_) 1 6 rfl ?_ ?_
  rotate_left
  · (intro W hSw; obtain ⟨m0, m1, m2, m3, m4, m5, m6, m7, m8, m9, m10, m11, m12, e0, e1, e2, e3, e4, e5, e6, ce, cx⟩ := hSw; go_simp; try with_reducible rfl)
  simp only [Act.put, pa, pz, ps]
  refine tk (v := ?_) 2 7 rfl ?_ ?_
  rotate_left
  · (intro W hSw; obtain ⟨m0, m1, m2, m3, m4, m5, m6, m7, m8, m9, m10, m11, m12, e0, e1, e2, e3, e4, e5, e6, ce, cx⟩ := hSw; go_simp; try with_reducible rfl)
  simp only [Act.put, pa, pz, ps]
  refine tk (v := ?_) 3 8 rfl ?_ ?_
  rotate_left
  · (intro W hSw; obtain ⟨m0, m1, m2, m3, m4, m5, m6, m7, m8, m9, m10, m11, m12, e0, e1, e2, e3, e4, e5, e6, ce, cx⟩ := hSw; go_simp; try with_reducible rfl)
  simp only [Act.put, pa, pz, ps]
  refine tk (v := ?_) 4 9 rfl ?_ ?_
  rotate_left
  · (intro W hSw; obtain ⟨m0, m1, m2, m3, m4, m5, m6, m7, m8, m9, m10, m11, m12, e0, e1, e2, e3, e4, e5, e6, ce, cx⟩ := hSw; go_simp; try with_reducible rfl)
  simp only [Act.put, pa, pz, ps]
  refine tk (v := ?_) 5 10 rfl ?_ ?_
  rotate_left
  · (intro W hSw; obtain ⟨m0, m1, m2, m3, m4, m5, m6, m7, m8, m9, m10, m11, m12, e0, e1, e2, e3, e4, e5, e6, ce, cx⟩ := hSw; go_simp; try with_reducible rfl)
  simp only [Act.put, pa, pz, ps]
  refine tk (v := ?_) 6 11 rfl ?_ ?_
  rotate_left
  · (intro W hSw; obtain ⟨m0, m1, m2, m3, m4, m5, m6, m7, m8, m9, m10, m11, m12, e0, e1, e2, e3, e4, e5, e6, ce, cx⟩ := hSw; go_simp; try with_reducible rfl)
  simp only [Act.put, pa, pz, ps]
  refine tk (v := ?_) 7 12 rfl ?_ ?_
  rotate_left
  · (intro W hSw; obtain ⟨m0, m1, m2, m3, m4, m5, m6, m7, m8, m9, m10, m11, m12, e0, e1, e2, e3, e4, e5, e6, ce, cx⟩ := hSw; go_simp; try with_reducible rfl)
  simp only [Act.put, pa, pz, ps]
  refine tk (v := ?_) 8 13 rfl ?_ ?_
  rotate_left
  · (intro W hSw; obtain ⟨m0, m1, m2, m3, m4, m5, m6, m7, m8, m9, m10, m11, m12, e0, e1, e2, e3, e4, e5, e6, ce, cx⟩ := hSw; go_simp; try with_reducible rfl)
  simp only [Act.put, pa, pz, ps]
  refine tk (v := ?_) 9 14 rfl ?_ ?_
  rotate_left
  · (intro W hSw; obtain ⟨m0, m1, m2, m3, m4, m5, m6, m7, m8, m9, m10, m11, m12, e0, e1, e2, e3, e4, e5, e6, ce, cx⟩ := hSw; go_simp; try with_reducible rfl)
  simp only [Act.put, pa, pz, ps]
  refine tk (v := ?_) 10 15 rfl ?_ ?_
  rotate_left
  · (intro W hSw; obtain ⟨m0, m1, m2, m3, m4, m5, m6, m7, m8, m9, m10, m11, m12, e0, e1, e2, e3, e4, e5, e6, ce, cx⟩ := hSw; go_simp; try with_reducible rfl)
  simp only [Act.put, pa, pz, ps]
  refine tk (v := ?_) 11 16 rfl ?_ ?_
  rotate_left
  · (intro W hSw; obtain ⟨m0, m1, m2, m3, m4, m5, m6, m7, m8, m9, m10, m11, m12, e0, e1, e2, e3, e4, e5, e6, ce, cx⟩ := hSw; go_simp; try with_reducible rfl)
  simp only [Act.put, pa, pz, ps]
  refine tk (v := ?_) 12 17 rfl ?_ ?_
  rotate_left
  · (intro W hSw; obtain ⟨m0, m1, m2, m3, m4, m5, m6, m7, m8, m9, m10, m11, m12, e0, e1, e2, e3, e4, e5, e6, ce, cx⟩ := hSw; go_simp; try with_reducible rfl)
  simp only [Act.put, pa, pz, ps]
  refine tk (v := ?_) 13 18 rfl ?_ ?_
  rotate_left
  · (intro W hSw; obtain ⟨m0, m1, m2, m3, m4, m5, m6, m7, m8, m9, m10, m11, m12, e0, e1, e2, e3, e4, e5, e6, ce, cx⟩ := hSw; go_simp; try with_reducible rfl)
  simp only [Act.put, pa, pz, ps]
  refine tk (v := ?_) 14 19 rfl ?_ ?_
  rotate_left
  · (intro W hSw; obtain ⟨m0, m1, m2, m3, m4, m5, m6, m7, m8, m9, m10, m11, m12, e0, e1, e2, e3, e4, e5, e6, ce, cx⟩ := hSw; go_simp; try with_reducible rfl)
  simp only [Act.put, pa, pz, ps]
  refine tk (v := ?_) 15 20 rfl ?_ ?_
  rotate_left
  · (intro W hSw; obtain ⟨m0, m1, m2, m3, m4, m5, m6, m7, m8, m9, m10, m11, m12, e0, e1, e2, e3, e4, e5, e6, ce, cx⟩ := hSw; go_simp; try with_reducible rfl)
  simp only [Act.put, pa, pz, ps]
  refine tk (v := ?_) 16 21 rfl ?_ ?_
  rotate_left
  · (intro W hSw; obtain ⟨m0, m1, m2, m3, m4, m5, m6, m7, m8, m9, m10, m11, m12, e0, e1, e2, e3, e4, e5, e6, ce, cx⟩ := hSw; go_simp; try with_reducible rfl)
  simp only [Act.put, pa, pz, ps]
  refine tk (v := ?_) 17 22 rfl ?_ ?_
  rotate_left
  · (intro W hSw; obtain ⟨m0, m1, m2, m3, m4, m5, m6, m7, m8, m9, m10, m11, m12, e0, e1, e2, e3, e4, e5, e6, ce, cx⟩ := hSw; go_simp; try with_reducible rfl)
  simp only [Act.put, pa, pz, ps]
  refine tk (v := ?_) 18 23 rfl ?_ ?_
  rotate_left
  · (intro W hSw; obtain ⟨m0, m1, m2, m3, m4, m5, m6, m7, m8, m9, m10, m11, m12, e0, e1, e2, e3, e4, e5, e6, ce, cx⟩ := hSw; go_simp; try with_reducible rfl)
  simp only [Act.put, pa, pz, ps]
  refine tk (v := ?_) 19 4 rfl ?_ ?_
  rotate_left
  · (intro W hSw; obtain ⟨m0, m1, m2, m3, m4, m5, m6, m7, m8, m9, m10, m11, m12, e0, e1, e2, e3, e4, e5, e6, ce, cx⟩ := hSw; go_simp; try with_reducible rfl)
  simp only [Act.put, pa, pz, ps]
  refine wpAnyH_done (by kernel_rfl) ?_ _
  go_wp2_with fail
  go_ret
  exact ⟨rfl, below_drewN' (n := 1) HB1.out⟩


set_option maxHeartbeats 4000000 in
theorem checkLift_is (g b N M s t u nX nE : Nat) (K : CsrS) (Q : PreS) (X E H : List Int) (e : EvS) (w : World) (hM : Mch w g b N M s t K nX nE N Q) (hQ : StIn w w.heap.size nX nE N Q X E H) (he : e.u = u) (hu : u < N) (hN : N ≤ 4096) (r : Int) (hr : chkL N H e = r) :
    Calls Try.prog 71 #[.pointer (some ⟨g, 0, none⟩), evW e] w fun e' w' => e' = .returned (.int .i64 r) ∧ Below w.heap.size w w' := by
  obtain ⟨bH, oH, hH, hbH, ch⟩ := hOf_cel hQ.iH hu
  have hbox := hM.box
  have hf : liftFits N H e ↔ (hOf H u < e.h ∧ e.h ≤ 2 * (N : Int)) := by unfold liftFits; rw [he]; exact Iff.rfl
  have hT : hOf H u < e.h ∧ e.h ≤ 2 * (N : Int) → (0 : Int) = r := fun h => by rw [← hr]; unfold chkL; rw [if_pos (hf.2 h)]
  have hF : ¬ (hOf H u < e.h ∧ e.h ≤ 2 * (N : Int)) → (30 : Int) = r := fun h => by rw [← hr]; unfold chkL; rw [if_neg (fun k => h (hf.1 k))]
  clear hf hr
  obtain ⟨AF, cF, AH, cH, AR, cR, AC, cC, AA, cA, AB, cB⟩ := K
  obtain ⟨AX, cX, AE, cE, AHH, cHH⟩ := Q
  obtain ⟨who, what, eu, arc, d0, h0, low⟩ := e
  dsimp only [evW] at hH he hbox hT hF ⊢
  subst hH; subst he
  obtain ⟨y, hy⟩ : ∃ y, hOf H u = y := ⟨_, rfl⟩
  rw [hy] at ch hT hF
  obtain ⟨n2, hn2⟩ : ∃ n2 : Int, 2 * (N : Int) = n2 := ⟨_, rfl⟩
  have hw2 : IntKind.i64.wrap (2 * (N : Int)) = n2 := by rw [← hn2]; exact wrap_in (by omega) (by omega)
  rw [hn2] at hT hF
  have hgl := hbox.lt
  clear hn2 hy hM hQ
  by_cases c1 : h0 ≤ y
  · have d1 : decide (h0 ≤ y) = true := decide_eq_true c1
    have hr2 : (30 : Int) = r := hF (by omega)
    have HR := Lib.hid hr2
    have hd0 := True.intro
    clear hT hF hr2 c1
    clear hd0
    go_enter Try.func71, Try.ntmps71
    go_wp2_with fail
    obtain ⟨w1, hw1⟩ : ∃ w1, w.alloc (.cells #[.int .i64 who, .int .u8 what, .int .i64 (u : Int), .int .i64 arc, .int .i64 d0, .int .i64 h0, .int .i64 low] 39) = w1 := ⟨_, rfl⟩
    have B1 : Below w.heap.size w w1 := by rw [← hw1]; exact below_alloc _
    have C1 : Blk w1 w.heap.size 39 #[.int .i64 who, .int .u8 what, .int .i64 (u : Int), .int .i64 arc, .int .i64 d0, .int .i64 h0, .int .i64 low] := by rw [← hw1]; exact Blk.new rfl
    rw [hw1]
    clear hw1
    obtain ⟨m0, m1, m2, m3, m4, m5, m6, m7, m8, m9, m10, m11, m12⟩ := (hbox.below B1 hgl).at13
    obtain ⟨e0, e1, e2, e3, e4, e5, e6⟩ := C1.at7
    replace ch := (B1.cell (p := ⟨bH, oH + u, none⟩) hbH).trans ch
    clear C1 hbox
    go_quiet (fail)
    go_wp2_with fail
    go_ret
    exact ⟨by rw [← HR.out]; rfl, below_drewN' B1 _⟩
  · have d1 : decide (h0 ≤ y) = false := decide_eq_false c1
    obtain ⟨c, hc⟩ : ∃ c, decide (n2 < h0) = c := ⟨_, rfl⟩
    cases c
    · have hr2 : (0 : Int) = r := by have := of_decide_eq_false hc; exact hT (by omega)
      have HR := Lib.hid hr2
      have hd0 := True.intro
      clear hT hF hr2 c1
      clear hd0
      go_enter Try.func71, Try.ntmps71
      go_wp2_with fail
      obtain ⟨w1, hw1⟩ : ∃ w1, w.alloc (.cells #[.int .i64 who, .int .u8 what, .int .i64 (u : Int), .int .i64 arc, .int .i64 d0, .int .i64 h0, .int .i64 low] 39) = w1 := ⟨_, rfl⟩
      have B1 : Below w.heap.size w w1 := by rw [← hw1]; exact below_alloc _
      have C1 : Blk w1 w.heap.size 39 #[.int .i64 who, .int .u8 what, .int .i64 (u : Int), .int .i64 arc, .int .i64 d0, .int .i64 h0, .int .i64 low] := by rw [← hw1]; exact Blk.new rfl
      rw [hw1]
      clear hw1
      obtain ⟨m0, m1, m2, m3, m4, m5, m6, m7, m8, m9, m10, m11, m12⟩ := (hbox.below B1 hgl).at13
      obtain ⟨e0, e1, e2, e3, e4, e5, e6⟩ := C1.at7
      replace ch := (B1.cell (p := ⟨bH, oH + u, none⟩) hbH).trans ch
      clear C1 hbox
      go_quiet (fail)
      go_wp2_with fail
      go_ret
      exact ⟨by rw [← HR.out]; rfl, below_drewN' B1 _⟩
    · have hr2 : (30 : Int) = r := by have := of_decide_eq_true hc; exact hF (by omega)
      have HR := Lib.hid hr2
      have hd0 := True.intro
      clear hT hF hr2 c1
      clear hd0
      go_enter Try.func71, Try.ntmps71
      go_wp2_with fail
      obtain ⟨w1, hw1⟩ : ∃ w1, w.alloc (.cells #[.int .i64 who, .int .u8 what, .int .i64 (u : Int), .int .i64 arc, .int .i64 d0, .int .i64 h0, .int .i64 low] 39) = w1 := ⟨_, rfl⟩
      have B1 : Below w.heap.size w w1 := by rw [← hw1]; exact below_alloc _
      have C1 : Blk w1 w.heap.size 39 #[.int .i64 who, .int .u8 what, .int .i64 (u : Int), .int .i64 arc, .int .i64 d0, .int .i64 h0, .int .i64 low] := by rw [← hw1]; exact Blk.new rfl
      rw [hw1]
      clear hw1
      obtain ⟨m0, m1, m2, m3, m4, m5, m6, m7, m8, m9, m10, m11, m12⟩ := (hbox.below B1 hgl).at13
      obtain ⟨e0, e1, e2, e3, e4, e5, e6⟩ := C1.at7
      replace ch := (B1.cell (p := ⟨bH, oH + u, none⟩) hbH).trans ch
      clear C1 hbox
      go_quiet (fail)
      go_wp2_with fail
      go_ret
      exact ⟨by rw [← HR.out]; rfl, below_drewN' B1 _⟩


set_option maxHeartbeats 4000000 in
theorem checkPush_none (g b N M s t u : Nat) (K : CsrS) (Q : PreS) (fst hd rv : Nat → Nat) (X E H : List Int) (e : EvS) (w : World) (_ : Grid N M fst hd rv) (hI : GridIn w w.heap.size N M K fst hd rv) (hM : Mch w g b N M s t K M N N Q) (hQ : StIn w w.heap.size M N N Q X E H) (he : e.u = u) (hu : u < N) (ha : ¬ (0 ≤ e.arc ∧ e.arc < (M : Int))) :
    Calls Try.prog 70 #[.pointer (some ⟨g, 0, none⟩), evW e] w fun e' w' => e' = .returned (.int .i64 2) ∧ Below w.heap.size w w' := by
  have hends := fun W (_ : Below w.heap.size w W) => rends_no N M s t e.arc K W ha
  have HE := Lib.hid hends
  obtain ⟨bH, oH, hH, hbH, ch⟩ := hOf_cel hQ.iH hu
  have hbox := hM.box
  obtain ⟨AF, cF, AH, cH, AR, cR, AC, cC, AA, cA, AB, cB⟩ := K
  obtain ⟨AX, cX, AE, cE, AHH, cHH⟩ := Q
  obtain ⟨who, what, eu, arc, d0, h0, low⟩ := e
  dsimp only [evW, csrW] at hH he hbox HE ⊢
  subst hH; subst he
  have hgl := hbox.lt
  clear hends ha hI hM hQ
  go_enter Try.func70, Try.ntmps70
  go_wp2_with fail
  obtain ⟨w1, hw1⟩ : ∃ w1, w.alloc (.cells #[.int .i64 who, .int .u8 what, .int .i64 (u : Int), .int .i64 arc, .int .i64 d0, .int .i64 h0, .int .i64 low] 39) = w1 := ⟨_, rfl⟩
  have B1 : Below w.heap.size w w1 := by rw [← hw1]; exact below_alloc _
  have C1 : Blk w1 w.heap.size 39 #[.int .i64 who, .int .u8 what, .int .i64 (u : Int), .int .i64 arc, .int .i64 d0, .int .i64 h0, .int .i64 low] := by rw [← hw1]; exact Blk.new rfl
  have M1 := hbox.below B1 hgl
  rw [hw1]
  clear hw1
  have hkeep : ∀ W', Below w1.heap.size w1 W' → Below w1.heap.size w1 W' ∧ W'.cell? ⟨g, 0, none⟩ = some (.int .i64 (N : Int)) ∧ W'.cell? ⟨g, 1, none⟩ = some (.int .i64 (s : Int)) ∧ W'.cell? ⟨g, 2, none⟩ = some (.int .i64 (t : Int)) ∧ W'.cell? ⟨g, 3, none⟩ = some (.slice AF (N + 1) cF) ∧ W'.cell? ⟨g, 4, none⟩ = some (.slice AH M cH) ∧ W'.cell? ⟨g, 5, none⟩ = some (.slice AR M cR) ∧ W'.cell? ⟨g, 6, none⟩ = some (.slice AC M cC) ∧ W'.cell? ⟨g, 7, none⟩ = some (.slice AA M cA) ∧ W'.cell? ⟨g, 8, none⟩ = some (.slice AB M cB) ∧ W'.cell? ⟨g, 9, none⟩ = some (.slice AX M cX) ∧ W'.cell? ⟨g, 10, none⟩ = some (.slice AE N cE) ∧ W'.cell? ⟨g, 11, none⟩ = some (.slice (some ⟨bH, oH, none⟩) N cHH) ∧ W'.cell? ⟨g, 12, none⟩ = some (.map (some b)) ∧ W'.cell? ⟨w.heap.size, 0, none⟩ = some (.int .i64 who) ∧ W'.cell? ⟨w.heap.size, 1, none⟩ = some (.int .u8 what) ∧ W'.cell? ⟨w.heap.size, 2, none⟩ = some (.int .i64 (u : Int)) ∧ W'.cell? ⟨w.heap.size, 3, none⟩ = some (.int .i64 arc) ∧ W'.cell? ⟨w.heap.size, 4, none⟩ = some (.int .i64 d0) ∧ W'.cell? ⟨w.heap.size, 5, none⟩ = some (.int .i64 h0) ∧ W'.cell? ⟨w.heap.size, 6, none⟩ = some (.int .i64 low) := fun W' hb => by
    obtain ⟨m0, m1, m2, m3, m4, m5, m6, m7, m8, m9, m10, m11, m12⟩ := (M1.below hb M1.lt).at13
    obtain ⟨e0, e1, e2, e3, e4, e5, e6⟩ := (C1.below hb C1.lt).at7
    exact ⟨hb, m0, m1, m2, m3, m4, m5, m6, m7, m8, m9, m10, m11, m12, e0, e1, e2, e3, e4, e5, e6⟩
  have HKEEP := Lib.hid hkeep
  have HB1 := Lib.hid B1
  clear hkeep hbox B1 C1 M1

  refine wp_region_held_drew (S := fun W' => Below w1.heap.size w1 W' ∧ W'.cell? ⟨g, 0, none⟩ = some (.int .i64 (N : Int)) ∧ W'.cell? ⟨g, 1, none⟩ = some (.int .i64 (s : Int)) ∧ W'.cell? ⟨g, 2, none⟩ = some (.int .i64 (t : Int)) ∧ W'.cell? ⟨g, 3, none⟩ = some (.slice AF (N + 1) cF) ∧ W'.cell? ⟨g, 4, none⟩ = some (.slice AH M cH) ∧ W'.cell? ⟨g, 5, none⟩ = some (.slice AR M cR) ∧ W'.cell? ⟨g, 6, none⟩ = some (.slice AC M cC) ∧ W'.cell? ⟨g, 7, none⟩ = some (.slice AA M cA) ∧ W'.cell? ⟨g, 8, none⟩ = some (.slice AB M cB) ∧ W'.cell? ⟨g, 9, none⟩ = some (.slice AX M cX) ∧ W'.cell? ⟨g, 10, none⟩ = some (.slice AE N cE) ∧ W'.cell? ⟨g, 11, none⟩ = some (.slice (some ⟨bH, oH, none⟩) N cHH) ∧ W'.cell? ⟨g, 12, none⟩ = some (.map (some b)) ∧ W'.cell? ⟨w.heap.size, 0, none⟩ = some (.int .i64 who) ∧ W'.cell? ⟨w.heap.size, 1, none⟩ = some (.int .u8 what) ∧ W'.cell? ⟨w.heap.size, 2, none⟩ = some (.int .i64 (u : Int)) ∧ W'.cell? ⟨w.heap.size, 3, none⟩ = some (.int .i64 arc) ∧ W'.cell? ⟨w.heap.size, 4, none⟩ = some (.int .i64 d0) ∧ W'.cell? ⟨w.heap.size, 5, none⟩ = some (.int .i64 h0) ∧ W'.cell? ⟨w.heap.size, 6, none⟩ = some (.int .i64 low)) (by kernel_rfl) (HKEEP.out _ (Below.refl _ _).drew) (fun hS0 => ?_)
  refine tk (v := ?_) 0 9 rfl ?_ ?_
  rotate_left
  · (intro W hSw; obtain ⟨-, m0, m1, m2, m3, m4, m5, m6, m7, m8, m9, m10, m11, m12, e0, e1, e2, e3, e4, e5, e6⟩ := hSw; go_simp; try with_reducible rfl)
  simp only [Act.put, pa, pz, ps]
  refine tk (v := ?_) 1 10 rfl ?_ ?_
  rotate_left
  · (intro W hSw; obtain ⟨-, m0, m1, m2, m3, m4, m5, m6, m7, m8, m9, m10, m11, m12, e0, e1, e2, e3, e4, e5, e6⟩ := hSw; go_simp; try with_reducible rfl)
  simp only [Act.put, pa, pz, ps]
  refine tk (v := ?_) 2 11 rfl ?_ ?_
  rotate_left
  · (intro W hSw; obtain ⟨-, m0, m1, m2, m3, m4, m5, m6, m7, m8, m9, m10, m11, m12, e0, e1, e2, e3, e4, e5, e6⟩ := hSw; go_simp; try with_reducible rfl)
  simp only [Act.put, pa, pz, ps]
  refine tk (v := ?_) 3 12 rfl ?_ ?_
  rotate_left
  · (intro W hSw; obtain ⟨-, m0, m1, m2, m3, m4, m5, m6, m7, m8, m9, m10, m11, m12, e0, e1, e2, e3, e4, e5, e6⟩ := hSw; go_simp; try with_reducible rfl)
  simp only [Act.put, pa, pz, ps]
  refine tk (v := ?_) 4 13 rfl ?_ ?_
  rotate_left
  · (intro W hSw; obtain ⟨-, m0, m1, m2, m3, m4, m5, m6, m7, m8, m9, m10, m11, m12, e0, e1, e2, e3, e4, e5, e6⟩ := hSw; go_simp; try with_reducible rfl)
  simp only [Act.put, pa, pz, ps]
  refine tk (v := ?_) 5 14 rfl ?_ ?_
  rotate_left
  · (intro W hSw; obtain ⟨-, m0, m1, m2, m3, m4, m5, m6, m7, m8, m9, m10, m11, m12, e0, e1, e2, e3, e4, e5, e6⟩ := hSw; go_simp; try with_reducible rfl)
  simp only [Act.put, pa, pz, ps]
  refine wpAnyH_ready (rs := [6]) (by kernel_rfl) (by simp) ?_
  refine AllReadyH.cons rfl (fun K hK => ?_) AllReadyH.nil
  go_simp
  first
    | (go_at_call 92; ((with_reducible refine (HE.out _ ?_).mono ?_); (first | exact below_step HB1.out hS0.1 | skip); rintro e W8 ⟨rfl, B8⟩); refine hK.out _ _ (HKEEP.out _ (below_step hS0.1 B8)) (fun hS7 => ?_))
  clear hK K
  try simp only [Act.put, pa, pz, ps]
  refine tk (v := ?_) 7 8 rfl ?_ ?_
  rotate_left
  · (intro W hSw; obtain ⟨-, m0, m1, m2, m3, m4, m5, m6, m7, m8, m9, m10, m11, m12, e0, e1, e2, e3, e4, e5, e6⟩ := hSw; go_simp; try with_reducible rfl)
  simp only [Act.put, pa, pz, ps]
  refine tk (v := ?_) 8 16 rfl ?_ ?_
  rotate_left
  · (intro W hSw; obtain ⟨-, m0, m1, m2, m3, m4, m5, m6, m7, m8, m9, m10, m11, m12, e0, e1, e2, e3, e4, e5, e6⟩ := hSw; go_simp; try with_reducible rfl)
  simp only [Act.put, pa, pz, ps]
  refine tk (v := ?_) 9 17 rfl ?_ ?_
  rotate_left
  · (intro W hSw; obtain ⟨-, m0, m1, m2, m3, m4, m5, m6, m7, m8, m9, m10, m11, m12, e0, e1, e2, e3, e4, e5, e6⟩ := hSw; go_simp; try with_reducible rfl)
  simp only [Act.put, pa, pz, ps]
  refine tk (v := ?_) 10 18 rfl ?_ ?_
  rotate_left
  · (intro W hSw; obtain ⟨-, m0, m1, m2, m3, m4, m5, m6, m7, m8, m9, m10, m11, m12, e0, e1, e2, e3, e4, e5, e6⟩ := hSw; go_simp; try with_reducible rfl)
  simp only [Act.put, pa, pz, ps]
  refine tk (v := ?_) 11 5 rfl ?_ ?_
  rotate_left
  · (intro W hSw; obtain ⟨-, m0, m1, m2, m3, m4, m5, m6, m7, m8, m9, m10, m11, m12, e0, e1, e2, e3, e4, e5, e6⟩ := hSw; go_simp; try with_reducible rfl)
  simp only [Act.put, pa, pz, ps]
  refine tk (v := ?_) 12 6 rfl ?_ ?_
  rotate_left
  · (intro W hSw; obtain ⟨-, m0, m1, m2, m3, m4, m5, m6, m7, m8, m9, m10, m11, m12, e0, e1, e2, e3, e4, e5, e6⟩ := hSw; go_simp; try with_reducible rfl)
  simp only [Act.put, pa, pz, ps]
  refine tk (v := ?_) 13 7 rfl ?_ ?_
  rotate_left
  · (intro W hSw; obtain ⟨-, m0, m1, m2, m3, m4, m5, m6, m7, m8, m9, m10, m11, m12, e0, e1, e2, e3, e4, e5, e6⟩ := hSw; go_simp; try with_reducible rfl)
  simp only [Act.put, pa, pz, ps]
  refine wpAnyH_done (by kernel_rfl) ?_ _
  have BF := below_step HB1.out hS7.1
  obtain ⟨-, m0, m1, m2, m3, m4, m5, m6, m7, m8, m9, m10, m11, m12, e0, e1, e2, e3, e4, e5, e6⟩ := hS7
  go_wp2_with fail
  go_ret
  exact ⟨rfl, BF⟩


set_option maxHeartbeats 4000000 in
theorem checkPush_else (g b N M s t u : Nat) (K : CsrS) (Q : PreS) (fst hd rv : Nat → Nat) (X E H : List Int) (e : EvS) (w : World) (hG : Grid N M fst hd rv) (hI : GridIn w w.heap.size N M K fst hd rv) (hM : Mch w g b N M s t K M N N Q) (hQ : StIn w w.heap.size M N N Q X E H) (he : e.u = u) (hu : u < N) (a : Nat) (hea : e.arc = a) (ha : a < M) (hv : hd (rv a) ≠ u) :
    Calls Try.prog 70 #[.pointer (some ⟨g, 0, none⟩), evW e] w fun e' w' => e' = .returned (.int .i64 2) ∧ Below w.heap.size w w' := by
  have hends := fun W (hb : Below w.heap.size w W) => rends_yes N M s t a K fst hd rv W hG (hI.on hb) ha
  have HE := Lib.hid hends
  obtain ⟨bH, oH, hH, hbH, ch⟩ := hOf_cel hQ.iH hu
  have hbox := hM.box
  obtain ⟨AF, cF, AH, cH, AR, cR, AC, cC, AA, cA, AB, cB⟩ := K
  obtain ⟨AX, cX, AE, cE, AHH, cHH⟩ := Q
  obtain ⟨who, what, eu, arc, d0, h0, low⟩ := e
  dsimp only [evW, csrW] at hH he hea hbox HE ⊢
  subst hH; subst he; subst hea
  obtain ⟨v, hv'⟩ : ∃ v, hd (rv a) = v := ⟨_, rfl⟩
  rw [hv'] at HE hv
  have hne : ((v : Int) != (u : Int)) = true := by simpa using (show ¬ (v : Int) = (u : Int) by omega)
  have hgl := hbox.lt
  clear hends hG hI hM hQ hv hv'
  go_enter Try.func70, Try.ntmps70
  go_wp2_with fail
  obtain ⟨w1, hw1⟩ : ∃ w1, w.alloc (.cells #[.int .i64 who, .int .u8 what, .int .i64 (u : Int), .int .i64 (a : Int), .int .i64 d0, .int .i64 h0, .int .i64 low] 39) = w1 := ⟨_, rfl⟩
  have B1 : Below w.heap.size w w1 := by rw [← hw1]; exact below_alloc _
  have C1 : Blk w1 w.heap.size 39 #[.int .i64 who, .int .u8 what, .int .i64 (u : Int), .int .i64 (a : Int), .int .i64 d0, .int .i64 h0, .int .i64 low] := by rw [← hw1]; exact Blk.new rfl
  have M1 := hbox.below B1 hgl
  rw [hw1]
  clear hw1
  have hkeep : ∀ W', Below w1.heap.size w1 W' → Below w1.heap.size w1 W' ∧ W'.cell? ⟨g, 0, none⟩ = some (.int .i64 (N : Int)) ∧ W'.cell? ⟨g, 1, none⟩ = some (.int .i64 (s : Int)) ∧ W'.cell? ⟨g, 2, none⟩ = some (.int .i64 (t : Int)) ∧ W'.cell? ⟨g, 3, none⟩ = some (.slice AF (N + 1) cF) ∧ W'.cell? ⟨g, 4, none⟩ = some (.slice AH M cH) ∧ W'.cell? ⟨g, 5, none⟩ = some (.slice AR M cR) ∧ W'.cell? ⟨g, 6, none⟩ = some (.slice AC M cC) ∧ W'.cell? ⟨g, 7, none⟩ = some (.slice AA M cA) ∧ W'.cell? ⟨g, 8, none⟩ = some (.slice AB M cB) ∧ W'.cell? ⟨g, 9, none⟩ = some (.slice AX M cX) ∧ W'.cell? ⟨g, 10, none⟩ = some (.slice AE N cE) ∧ W'.cell? ⟨g, 11, none⟩ = some (.slice (some ⟨bH, oH, none⟩) N cHH) ∧ W'.cell? ⟨g, 12, none⟩ = some (.map (some b)) ∧ W'.cell? ⟨w.heap.size, 0, none⟩ = some (.int .i64 who) ∧ W'.cell? ⟨w.heap.size, 1, none⟩ = some (.int .u8 what) ∧ W'.cell? ⟨w.heap.size, 2, none⟩ = some (.int .i64 (u : Int)) ∧ W'.cell? ⟨w.heap.size, 3, none⟩ = some (.int .i64 (a : Int)) ∧ W'.cell? ⟨w.heap.size, 4, none⟩ = some (.int .i64 d0) ∧ W'.cell? ⟨w.heap.size, 5, none⟩ = some (.int .i64 h0) ∧ W'.cell? ⟨w.heap.size, 6, none⟩ = some (.int .i64 low) := fun W' hb => by
    obtain ⟨m0, m1, m2, m3, m4, m5, m6, m7, m8, m9, m10, m11, m12⟩ := (M1.below hb M1.lt).at13
    obtain ⟨e0, e1, e2, e3, e4, e5, e6⟩ := (C1.below hb C1.lt).at7
    exact ⟨hb, m0, m1, m2, m3, m4, m5, m6, m7, m8, m9, m10, m11, m12, e0, e1, e2, e3, e4, e5, e6⟩
  have HKEEP := Lib.hid hkeep
  have HB1 := Lib.hid B1
  clear hkeep hbox B1 C1 M1

  refine wp_region_held_drew (S := fun W' => Below w1.heap.size w1 W' ∧ W'.cell? ⟨g, 0, none⟩ = some (.int .i64 (N : Int)) ∧ W'.cell? ⟨g, 1, none⟩ = some (.int .i64 (s : Int)) ∧ W'.cell? ⟨g, 2, none⟩ = some (.int .i64 (t : Int)) ∧ W'.cell? ⟨g, 3, none⟩ = some (.slice AF (N + 1) cF) ∧ W'.cell? ⟨g, 4, none⟩ = some (.slice AH M cH) ∧ W'.cell? ⟨g, 5, none⟩ = some (.slice AR M cR) ∧ W'.cell? ⟨g, 6, none⟩ = some (.slice AC M cC) ∧ W'.cell? ⟨g, 7, none⟩ = some (.slice AA M cA) ∧ W'.cell? ⟨g, 8, none⟩ = some (.slice AB M cB) ∧ W'.cell? ⟨g, 9, none⟩ = some (.slice AX M cX) ∧ W'.cell? ⟨g, 10, none⟩ = some (.slice AE N cE) ∧ W'.cell? ⟨g, 11, none⟩ = some (.slice (some ⟨bH, oH, none⟩) N cHH) ∧ W'.cell? ⟨g, 12, none⟩ = some (.map (some b)) ∧ W'.cell? ⟨w.heap.size, 0, none⟩ = some (.int .i64 who) ∧ W'.cell? ⟨w.heap.size, 1, none⟩ = some (.int .u8 what) ∧ W'.cell? ⟨w.heap.size, 2, none⟩ = some (.int .i64 (u : Int)) ∧ W'.cell? ⟨w.heap.size, 3, none⟩ = some (.int .i64 (a : Int)) ∧ W'.cell? ⟨w.heap.size, 4, none⟩ = some (.int .i64 d0) ∧ W'.cell? ⟨w.heap.size, 5, none⟩ = some (.int .i64 h0) ∧ W'.cell? ⟨w.heap.size, 6, none⟩ = some (.int .i64 low)) (by kernel_rfl) (HKEEP.out _ (Below.refl _ _).drew) (fun hS0 => ?_)
  refine tk (v := ?_) 0 9 rfl ?_ ?_
  rotate_left
  · (intro W hSw; obtain ⟨-, m0, m1, m2, m3, m4, m5, m6, m7, m8, m9, m10, m11, m12, e0, e1, e2, e3, e4, e5, e6⟩ := hSw; go_simp; try with_reducible rfl)
  simp only [Act.put, pa, pz, ps]
  refine tk (v := ?_) 1 10 rfl ?_ ?_
  rotate_left
  · (intro W hSw; obtain ⟨-, m0, m1, m2, m3, m4, m5, m6, m7, m8, m9, m10, m11, m12, e0, e1, e2, e3, e4, e5, e6⟩ := hSw; go_simp; try with_reducible rfl)
  simp only [Act.put, pa, pz, ps]
  refine tk (v := ?_) 2 11 rfl ?_ ?_
  rotate_left
  · (intro W hSw; obtain ⟨-, m0, m1, m2, m3, m4, m5, m6, m7, m8, m9, m10, m11, m12, e0, e1, e2, e3, e4, e5, e6⟩ := hSw; go_simp; try with_reducible rfl)
  simp only [Act.put, pa, pz, ps]
  refine tk (v := ?_) 3 12 rfl ?_ ?_
  rotate_left
  · (intro W hSw; obtain ⟨-, m0, m1, m2, m3, m4, m5, m6, m7, m8, m9, m10, m11, m12, e0, e1, e2, e3, e4, e5, e6⟩ := hSw; go_simp; try with_reducible rfl)
  simp only [Act.put, pa, pz, ps]
  refine tk (v := ?_) 4 13 rfl ?_ ?_
  rotate_left
  · (intro W hSw; obtain ⟨-, m0, m1, m2, m3, m4, m5, m6, m7, m8, m9, m10, m11, m12, e0, e1, e2, e3, e4, e5, e6⟩ := hSw; go_simp; try with_reducible rfl)
  simp only [Act.put, pa, pz, ps]
  refine tk (v := ?_) 5 14 rfl ?_ ?_
  rotate_left
  · (intro W hSw; obtain ⟨-, m0, m1, m2, m3, m4, m5, m6, m7, m8, m9, m10, m11, m12, e0, e1, e2, e3, e4, e5, e6⟩ := hSw; go_simp; try with_reducible rfl)
  simp only [Act.put, pa, pz, ps]
  refine wpAnyH_ready (rs := [6]) (by kernel_rfl) (by simp) ?_
  refine AllReadyH.cons rfl (fun K hK => ?_) AllReadyH.nil
  go_simp
  first
    | (go_at_call 92; ((with_reducible refine (HE.out _ ?_).mono ?_); (first | exact below_step HB1.out hS0.1 | skip); rintro e W8 ⟨rfl, B8⟩); refine hK.out _ _ (HKEEP.out _ (below_step hS0.1 B8)) (fun hS7 => ?_))
  clear hK K
  try simp only [Act.put, pa, pz, ps]
  refine tk (v := ?_) 7 8 rfl ?_ ?_
  rotate_left
  · (intro W hSw; obtain ⟨-, m0, m1, m2, m3, m4, m5, m6, m7, m8, m9, m10, m11, m12, e0, e1, e2, e3, e4, e5, e6⟩ := hSw; go_simp; try with_reducible rfl)
  simp only [Act.put, pa, pz, ps]
  refine tk (v := ?_) 8 16 rfl ?_ ?_
  rotate_left
  · (intro W hSw; obtain ⟨-, m0, m1, m2, m3, m4, m5, m6, m7, m8, m9, m10, m11, m12, e0, e1, e2, e3, e4, e5, e6⟩ := hSw; go_simp; try with_reducible rfl)
  simp only [Act.put, pa, pz, ps]
  refine tk (v := ?_) 9 17 rfl ?_ ?_
  rotate_left
  · (intro W hSw; obtain ⟨-, m0, m1, m2, m3, m4, m5, m6, m7, m8, m9, m10, m11, m12, e0, e1, e2, e3, e4, e5, e6⟩ := hSw; go_simp; try with_reducible rfl)
  simp only [Act.put, pa, pz, ps]
  refine tk (v := ?_) 10 18 rfl ?_ ?_
  rotate_left
  · (intro W hSw; obtain ⟨-, m0, m1, m2, m3, m4, m5, m6, m7, m8, m9, m10, m11, m12, e0, e1, e2, e3, e4, e5, e6⟩ := hSw; go_simp; try with_reducible rfl)
  simp only [Act.put, pa, pz, ps]
  refine tk (v := ?_) 11 5 rfl ?_ ?_
  rotate_left
  · (intro W hSw; obtain ⟨-, m0, m1, m2, m3, m4, m5, m6, m7, m8, m9, m10, m11, m12, e0, e1, e2, e3, e4, e5, e6⟩ := hSw; go_simp; try with_reducible rfl)
  simp only [Act.put, pa, pz, ps]
  refine tk (v := ?_) 12 6 rfl ?_ ?_
  rotate_left
  · (intro W hSw; obtain ⟨-, m0, m1, m2, m3, m4, m5, m6, m7, m8, m9, m10, m11, m12, e0, e1, e2, e3, e4, e5, e6⟩ := hSw; go_simp; try with_reducible rfl)
  simp only [Act.put, pa, pz, ps]
  refine tk (v := ?_) 13 7 rfl ?_ ?_
  rotate_left
  · (intro W hSw; obtain ⟨-, m0, m1, m2, m3, m4, m5, m6, m7, m8, m9, m10, m11, m12, e0, e1, e2, e3, e4, e5, e6⟩ := hSw; go_simp; try with_reducible rfl)
  simp only [Act.put, pa, pz, ps]
  refine wpAnyH_done (by kernel_rfl) ?_ _
  have BF := below_step HB1.out hS7.1
  obtain ⟨-, m0, m1, m2, m3, m4, m5, m6, m7, m8, m9, m10, m11, m12, e0, e1, e2, e3, e4, e5, e6⟩ := hS7
  go_wp2_with fail
  go_ret
  exact ⟨rfl, BF⟩


set_option maxHeartbeats 4000000 in
theorem checkPush_row (g b N M s t u : Nat) (K : CsrS) (Q : PreS) (fst hd rv : Nat → Nat) (X E H : List Int) (e : EvS) (w : World) (hG : Grid N M fst hd rv) (hI : GridIn w w.heap.size N M K fst hd rv) (hM : Mch w g b N M s t K M N N Q) (hQ : StIn w w.heap.size M N N Q X E H) (he : e.u = u) (hu : u < N) (a : Nat) (hea : e.arc = a) (ha : a < M) (hv : hd (rv a) = u) (r : Int) (hr : (if pushFits X E H e then (0 : Int) else 30) = r) :
    Calls Try.prog 70 #[.pointer (some ⟨g, 0, none⟩), evW e] w fun e' w' => e' = .returned (.int .i64 r) ∧ Below w.heap.size w w' := by
  have hends := fun W (hb : Below w.heap.size w W) => rends_yes N M s t a K fst hd rv W hG (hI.on hb) ha
  have HE := Lib.hid hends
  have hmost := fun W (hb : Below w.heap.size w W) => most_is g b N M s t u a K Q X E H e W (hM.below hb) (hQ.on hb) he hea hu ha
  have HMO := Lib.hid hmost
  obtain ⟨bH, oH, hH, hbH, ch⟩ := hOf_cel hQ.iH hu
  have hbox := hM.box
  have hf : pushFits X E H e ↔ (1 ≤ e.d ∧ e.d ≤ hOf E u ∧ e.d ≤ hOf X a ∧ e.h = hOf H u ∧ e.low < e.h) := by unfold pushFits; rw [he, hea]; exact Iff.rfl
  have hT : (1 ≤ e.d ∧ e.d ≤ hOf E u ∧ e.d ≤ hOf X a ∧ e.h = hOf H u ∧ e.low < e.h) → (0 : Int) = r := fun h => by rw [← hr, if_pos (hf.2 h)]
  have hF : ¬ (1 ≤ e.d ∧ e.d ≤ hOf E u ∧ e.d ≤ hOf X a ∧ e.h = hOf H u ∧ e.low < e.h) → (30 : Int) = r := fun h => by rw [← hr, if_neg (fun k => h (hf.1 k))]
  clear hf hr hends hmost
  obtain ⟨AF, cF, AH, cH, AR, cR, AC, cC, AA, cA, AB, cB⟩ := K
  obtain ⟨AX, cX, AE, cE, AHH, cHH⟩ := Q
  obtain ⟨who, what, eu, arc, d0, h0, low⟩ := e
  dsimp only [evW, csrW] at hH he hea hbox HE HMO hT hF ⊢
  subst hH; subst he; subst hea
  rw [hv] at HE
  obtain ⟨y, hy⟩ : ∃ y, hOf H u = y := ⟨_, rfl⟩
  rw [hy] at ch hT hF
  obtain ⟨mn, hmn⟩ : ∃ mn, min (hOf E u) (hOf X a) = mn := ⟨_, rfl⟩
  rw [hmn] at HMO
  have hgl := hbox.lt
  obtain ⟨b1, i1⟩ : ∃ b1, decide (d0 < 1) = b1 := ⟨_, rfl⟩
  obtain ⟨b2, i2⟩ : ∃ b2, decide (mn < d0) = b2 := ⟨_, rfl⟩
  obtain ⟨b3, i3⟩ : ∃ b3, (h0 != y) = b3 := ⟨_, rfl⟩
  obtain ⟨b4, i4⟩ : ∃ b4, decide (h0 ≤ low) = b4 := ⟨_, rfl⟩
  have hr : (if (b1 || (b2 || (b3 || b4))) = true then (30 : Int) else 0) = r := by
    by_cases c : 1 ≤ d0 ∧ d0 ≤ hOf E u ∧ d0 ≤ hOf X a ∧ h0 = y ∧ low < h0
    · rw [← hT c]
      have q1 : b1 = false := by rw [← i1]; exact decide_eq_false (by omega)
      have q2 : b2 = false := by rw [← i2]; exact decide_eq_false (by omega)
      have q3 : b3 = false := by rw [← i3]; simpa using c.2.2.2.1
      have q4 : b4 = false := by rw [← i4]; exact decide_eq_false (by omega)
      simp [q1, q2, q3, q4]
    · rw [← hF c]
      refine if_pos ?_
      cases b1 with
      | true => rfl
      | false =>
      cases b2 with
      | true => rfl
      | false =>
      cases b3 with
      | true => rfl
      | false =>
      cases b4 with
      | true => rfl
      | false =>
      exfalso
      have q1 := of_decide_eq_false i1; have q2 := of_decide_eq_false i2; have q4 := of_decide_eq_false i4
      have q3 : h0 = y := by simpa using i3
      exact c ⟨by omega, by omega, by omega, q3, by omega⟩
  have key : b1 = true ∨ (b1 = false ∧ b2 = true) ∨ (b1 = false ∧ b2 = false ∧ b3 = true) ∨ (b1 = false ∧ b2 = false ∧ b3 = false ∧ b4 = true) ∨ (b1 = false ∧ b2 = false ∧ b3 = false ∧ b4 = false) := by
    cases b1 <;> cases b2 <;> cases b3 <;> cases b4 <;> simp
  have hzh : bH < w.heap.size := hbH
  clear hG hI hM hQ hT hF hmn hy hv
  rcases key with rfl | ⟨rfl, rfl⟩ | ⟨rfl, rfl, rfl⟩ | ⟨rfl, rfl, rfl, rfl⟩ | ⟨rfl, rfl, rfl, rfl⟩
  all_goals
    simp only [Bool.true_or, Bool.or_true, Bool.or_false, if_true, Bool.false_eq_true, if_false] at hr
    have HR := Lib.hid hr
    clear hr
    go_enter Try.func70, Try.ntmps70
    go_wp2_with fail
    obtain ⟨w1, hw1⟩ : ∃ w1, w.alloc (.cells #[.int .i64 who, .int .u8 what, .int .i64 (u : Int), .int .i64 (a : Int), .int .i64 d0, .int .i64 h0, .int .i64 low] 39) = w1 := ⟨_, rfl⟩
    have B1 : Below w.heap.size w w1 := by rw [← hw1]; exact below_alloc _
    have C1 : Blk w1 w.heap.size 39 #[.int .i64 who, .int .u8 what, .int .i64 (u : Int), .int .i64 (a : Int), .int .i64 d0, .int .i64 h0, .int .i64 low] := by rw [← hw1]; exact Blk.new rfl
    have M1 := hbox.below B1 hgl
    rw [hw1]
    clear hw1
    have hkeep : ∀ W', Below w1.heap.size w1 W' → Below w1.heap.size w1 W' ∧ W'.cell? ⟨g, 0, none⟩ = some (.int .i64 (N : Int)) ∧ W'.cell? ⟨g, 1, none⟩ = some (.int .i64 (s : Int)) ∧ W'.cell? ⟨g, 2, none⟩ = some (.int .i64 (t : Int)) ∧ W'.cell? ⟨g, 3, none⟩ = some (.slice AF (N + 1) cF) ∧ W'.cell? ⟨g, 4, none⟩ = some (.slice AH M cH) ∧ W'.cell? ⟨g, 5, none⟩ = some (.slice AR M cR) ∧ W'.cell? ⟨g, 6, none⟩ = some (.slice AC M cC) ∧ W'.cell? ⟨g, 7, none⟩ = some (.slice AA M cA) ∧ W'.cell? ⟨g, 8, none⟩ = some (.slice AB M cB) ∧ W'.cell? ⟨g, 9, none⟩ = some (.slice AX M cX) ∧ W'.cell? ⟨g, 10, none⟩ = some (.slice AE N cE) ∧ W'.cell? ⟨g, 11, none⟩ = some (.slice (some ⟨bH, oH, none⟩) N cHH) ∧ W'.cell? ⟨g, 12, none⟩ = some (.map (some b)) ∧ W'.cell? ⟨w.heap.size, 0, none⟩ = some (.int .i64 who) ∧ W'.cell? ⟨w.heap.size, 1, none⟩ = some (.int .u8 what) ∧ W'.cell? ⟨w.heap.size, 2, none⟩ = some (.int .i64 (u : Int)) ∧ W'.cell? ⟨w.heap.size, 3, none⟩ = some (.int .i64 (a : Int)) ∧ W'.cell? ⟨w.heap.size, 4, none⟩ = some (.int .i64 d0) ∧ W'.cell? ⟨w.heap.size, 5, none⟩ = some (.int .i64 h0) ∧ W'.cell? ⟨w.heap.size, 6, none⟩ = some (.int .i64 low) := fun W' hb => by
      obtain ⟨m0, m1, m2, m3, m4, m5, m6, m7, m8, m9, m10, m11, m12⟩ := (M1.below hb M1.lt).at13
      obtain ⟨e0, e1, e2, e3, e4, e5, e6⟩ := (C1.below hb C1.lt).at7
      exact ⟨hb, m0, m1, m2, m3, m4, m5, m6, m7, m8, m9, m10, m11, m12, e0, e1, e2, e3, e4, e5, e6⟩
    have HKEEP := Lib.hid hkeep
    have HB1 := Lib.hid B1
    clear hkeep hbox B1 C1 M1
    refine wp_region_held_drew (S := fun W' => Below w1.heap.size w1 W' ∧ W'.cell? ⟨g, 0, none⟩ = some (.int .i64 (N : Int)) ∧ W'.cell? ⟨g, 1, none⟩ = some (.int .i64 (s : Int)) ∧ W'.cell? ⟨g, 2, none⟩ = some (.int .i64 (t : Int)) ∧ W'.cell? ⟨g, 3, none⟩ = some (.slice AF (N + 1) cF) ∧ W'.cell? ⟨g, 4, none⟩ = some (.slice AH M cH) ∧ W'.cell? ⟨g, 5, none⟩ = some (.slice AR M cR) ∧ W'.cell? ⟨g, 6, none⟩ = some (.slice AC M cC) ∧ W'.cell? ⟨g, 7, none⟩ = some (.slice AA M cA) ∧ W'.cell? ⟨g, 8, none⟩ = some (.slice AB M cB) ∧ W'.cell? ⟨g, 9, none⟩ = some (.slice AX M cX) ∧ W'.cell? ⟨g, 10, none⟩ = some (.slice AE N cE) ∧ W'.cell? ⟨g, 11, none⟩ = some (.slice (some ⟨bH, oH, none⟩) N cHH) ∧ W'.cell? ⟨g, 12, none⟩ = some (.map (some b)) ∧ W'.cell? ⟨w.heap.size, 0, none⟩ = some (.int .i64 who) ∧ W'.cell? ⟨w.heap.size, 1, none⟩ = some (.int .u8 what) ∧ W'.cell? ⟨w.heap.size, 2, none⟩ = some (.int .i64 (u : Int)) ∧ W'.cell? ⟨w.heap.size, 3, none⟩ = some (.int .i64 (a : Int)) ∧ W'.cell? ⟨w.heap.size, 4, none⟩ = some (.int .i64 d0) ∧ W'.cell? ⟨w.heap.size, 5, none⟩ = some (.int .i64 h0) ∧ W'.cell? ⟨w.heap.size, 6, none⟩ = some (.int .i64 low)) (by kernel_rfl) (HKEEP.out _ (Below.refl _ _).drew) (fun hS0 => ?_)
    refine tk (v := ?_) 0 9 rfl ?_ ?_
    rotate_left
    · (intro W hSw; obtain ⟨-, m0, m1, m2, m3, m4, m5, m6, m7, m8, m9, m10, m11, m12, e0, e1, e2, e3, e4, e5, e6⟩ := hSw; go_simp; try with_reducible rfl)
    simp only [Act.put, pa, pz, ps]
    refine tk (v := ?_) 1 10 rfl ?_ ?_
    rotate_left
    · (intro W hSw; obtain ⟨-, m0, m1, m2, m3, m4, m5, m6, m7, m8, m9, m10, m11, m12, e0, e1, e2, e3, e4, e5, e6⟩ := hSw; go_simp; try with_reducible rfl)
    simp only [Act.put, pa, pz, ps]
    refine tk (v := ?_) 2 11 rfl ?_ ?_
    rotate_left
    · (intro W hSw; obtain ⟨-, m0, m1, m2, m3, m4, m5, m6, m7, m8, m9, m10, m11, m12, e0, e1, e2, e3, e4, e5, e6⟩ := hSw; go_simp; try with_reducible rfl)
    simp only [Act.put, pa, pz, ps]
    refine tk (v := ?_) 3 12 rfl ?_ ?_
    rotate_left
    · (intro W hSw; obtain ⟨-, m0, m1, m2, m3, m4, m5, m6, m7, m8, m9, m10, m11, m12, e0, e1, e2, e3, e4, e5, e6⟩ := hSw; go_simp; try with_reducible rfl)
    simp only [Act.put, pa, pz, ps]
    refine tk (v := ?_) 4 13 rfl ?_ ?_
    rotate_left
    · (intro W hSw; obtain ⟨-, m0, m1, m2, m3, m4, m5, m6, m7, m8, m9, m10, m11, m12, e0, e1, e2, e3, e4, e5, e6⟩ := hSw; go_simp; try with_reducible rfl)
    simp only [Act.put, pa, pz, ps]
    refine tk (v := ?_) 5 14 rfl ?_ ?_
    rotate_left
    · (intro W hSw; obtain ⟨-, m0, m1, m2, m3, m4, m5, m6, m7, m8, m9, m10, m11, m12, e0, e1, e2, e3, e4, e5, e6⟩ := hSw; go_simp; try with_reducible rfl)
    simp only [Act.put, pa, pz, ps]
    refine wpAnyH_ready (rs := [6]) (by kernel_rfl) (by simp) ?_
    refine AllReadyH.cons rfl (fun K hK => ?_) AllReadyH.nil
    go_simp
    first
      | (go_at_call 92; ((with_reducible refine (HE.out _ ?_).mono ?_); (first | exact below_step HB1.out hS0.1 | skip); rintro e W8 ⟨rfl, B8⟩); refine hK.out _ _ (HKEEP.out _ (below_step hS0.1 B8)) (fun hS7 => ?_))
    clear hK K
    try simp only [Act.put, pa, pz, ps]
    refine tk (v := ?_) 7 8 rfl ?_ ?_
    rotate_left
    · (intro W hSw; obtain ⟨-, m0, m1, m2, m3, m4, m5, m6, m7, m8, m9, m10, m11, m12, e0, e1, e2, e3, e4, e5, e6⟩ := hSw; go_simp; try with_reducible rfl)
    simp only [Act.put, pa, pz, ps]
    refine tk (v := ?_) 8 16 rfl ?_ ?_
    rotate_left
    · (intro W hSw; obtain ⟨-, m0, m1, m2, m3, m4, m5, m6, m7, m8, m9, m10, m11, m12, e0, e1, e2, e3, e4, e5, e6⟩ := hSw; go_simp; try with_reducible rfl)
    simp only [Act.put, pa, pz, ps]
    refine tk (v := ?_) 9 17 rfl ?_ ?_
    rotate_left
    · (intro W hSw; obtain ⟨-, m0, m1, m2, m3, m4, m5, m6, m7, m8, m9, m10, m11, m12, e0, e1, e2, e3, e4, e5, e6⟩ := hSw; go_simp; try with_reducible rfl)
    simp only [Act.put, pa, pz, ps]
    refine tk (v := ?_) 10 18 rfl ?_ ?_
    rotate_left
    · (intro W hSw; obtain ⟨-, m0, m1, m2, m3, m4, m5, m6, m7, m8, m9, m10, m11, m12, e0, e1, e2, e3, e4, e5, e6⟩ := hSw; go_simp; try with_reducible rfl)
    simp only [Act.put, pa, pz, ps]
    refine tk (v := ?_) 11 5 rfl ?_ ?_
    rotate_left
    · (intro W hSw; obtain ⟨-, m0, m1, m2, m3, m4, m5, m6, m7, m8, m9, m10, m11, m12, e0, e1, e2, e3, e4, e5, e6⟩ := hSw; go_simp; try with_reducible rfl)
    simp only [Act.put, pa, pz, ps]
    refine tk (v := ?_) 12 6 rfl ?_ ?_
    rotate_left
    · (intro W hSw; obtain ⟨-, m0, m1, m2, m3, m4, m5, m6, m7, m8, m9, m10, m11, m12, e0, e1, e2, e3, e4, e5, e6⟩ := hSw; go_simp; try with_reducible rfl)
    simp only [Act.put, pa, pz, ps]
    refine tk (v := ?_) 13 7 rfl ?_ ?_
    rotate_left
    · (intro W hSw; obtain ⟨-, m0, m1, m2, m3, m4, m5, m6, m7, m8, m9, m10, m11, m12, e0, e1, e2, e3, e4, e5, e6⟩ := hSw; go_simp; try with_reducible rfl)
    simp only [Act.put, pa, pz, ps]
    refine wpAnyH_done (by kernel_rfl) ?_ _
    obtain ⟨w2, hw2⟩ : ∃ w2, W8 = w2 := ⟨_, rfl⟩
    have BF := below_step HB1.out hS7.1
    rw [hw2] at hS7 BF ⊢
    have hkeep2 : ∀ W', Below w2.heap.size w2 W' → Below w2.heap.size w2 W' ∧ W'.cell? ⟨g, 0, none⟩ = some (.int .i64 (N : Int)) ∧ W'.cell? ⟨g, 1, none⟩ = some (.int .i64 (s : Int)) ∧ W'.cell? ⟨g, 2, none⟩ = some (.int .i64 (t : Int)) ∧ W'.cell? ⟨g, 3, none⟩ = some (.slice AF (N + 1) cF) ∧ W'.cell? ⟨g, 4, none⟩ = some (.slice AH M cH) ∧ W'.cell? ⟨g, 5, none⟩ = some (.slice AR M cR) ∧ W'.cell? ⟨g, 6, none⟩ = some (.slice AC M cC) ∧ W'.cell? ⟨g, 7, none⟩ = some (.slice AA M cA) ∧ W'.cell? ⟨g, 8, none⟩ = some (.slice AB M cB) ∧ W'.cell? ⟨g, 9, none⟩ = some (.slice AX M cX) ∧ W'.cell? ⟨g, 10, none⟩ = some (.slice AE N cE) ∧ W'.cell? ⟨g, 11, none⟩ = some (.slice (some ⟨bH, oH, none⟩) N cHH) ∧ W'.cell? ⟨g, 12, none⟩ = some (.map (some b)) ∧ W'.cell? ⟨w.heap.size, 0, none⟩ = some (.int .i64 who) ∧ W'.cell? ⟨w.heap.size, 1, none⟩ = some (.int .u8 what) ∧ W'.cell? ⟨w.heap.size, 2, none⟩ = some (.int .i64 (u : Int)) ∧ W'.cell? ⟨w.heap.size, 3, none⟩ = some (.int .i64 (a : Int)) ∧ W'.cell? ⟨w.heap.size, 4, none⟩ = some (.int .i64 d0) ∧ W'.cell? ⟨w.heap.size, 5, none⟩ = some (.int .i64 h0) ∧ W'.cell? ⟨w.heap.size, 6, none⟩ = some (.int .i64 low) ∧ W'.cell? ⟨bH, oH + u, none⟩ = some (.int .i64 y) := fun W' hb => by
      obtain ⟨-, m0, m1, m2, m3, m4, m5, m6, m7, m8, m9, m10, m11, m12, e0, e1, e2, e3, e4, e5, e6⟩ := HKEEP.out _ (below_step hS7.1 hb)
      have ch2 := ((BF.trans (hb.mono BF.size)).cell (p := ⟨bH, oH + u, none⟩) hzh).trans ch
      exact ⟨hb, m0, m1, m2, m3, m4, m5, m6, m7, m8, m9, m10, m11, m12, e0, e1, e2, e3, e4, e5, e6, ch2⟩
    have HKEEP2 := Lib.hid hkeep2
    have HBF := Lib.hid BF
    clear hkeep2 BF hw2 ch
    obtain ⟨-, m0, m1, m2, m3, m4, m5, m6, m7, m8, m9, m10, m11, m12, e0, e1, e2, e3, e4, e5, e6⟩ := hS7
    go_wp2_with fail

    refine wp_region_held_drew (S := fun W' => Below w2.heap.size w2 W' ∧ W'.cell? ⟨g, 0, none⟩ = some (.int .i64 (N : Int)) ∧ W'.cell? ⟨g, 1, none⟩ = some (.int .i64 (s : Int)) ∧ W'.cell? ⟨g, 2, none⟩ = some (.int .i64 (t : Int)) ∧ W'.cell? ⟨g, 3, none⟩ = some (.slice AF (N + 1) cF) ∧ W'.cell? ⟨g, 4, none⟩ = some (.slice AH M cH) ∧ W'.cell? ⟨g, 5, none⟩ = some (.slice AR M cR) ∧ W'.cell? ⟨g, 6, none⟩ = some (.slice AC M cC) ∧ W'.cell? ⟨g, 7, none⟩ = some (.slice AA M cA) ∧ W'.cell? ⟨g, 8, none⟩ = some (.slice AB M cB) ∧ W'.cell? ⟨g, 9, none⟩ = some (.slice AX M cX) ∧ W'.cell? ⟨g, 10, none⟩ = some (.slice AE N cE) ∧ W'.cell? ⟨g, 11, none⟩ = some (.slice (some ⟨bH, oH, none⟩) N cHH) ∧ W'.cell? ⟨g, 12, none⟩ = some (.map (some b)) ∧ W'.cell? ⟨w.heap.size, 0, none⟩ = some (.int .i64 who) ∧ W'.cell? ⟨w.heap.size, 1, none⟩ = some (.int .u8 what) ∧ W'.cell? ⟨w.heap.size, 2, none⟩ = some (.int .i64 (u : Int)) ∧ W'.cell? ⟨w.heap.size, 3, none⟩ = some (.int .i64 (a : Int)) ∧ W'.cell? ⟨w.heap.size, 4, none⟩ = some (.int .i64 d0) ∧ W'.cell? ⟨w.heap.size, 5, none⟩ = some (.int .i64 h0) ∧ W'.cell? ⟨w.heap.size, 6, none⟩ = some (.int .i64 low) ∧ W'.cell? ⟨bH, oH + u, none⟩ = some (.int .i64 y)) (by kernel_rfl) (HKEEP2.out _ (Below.refl _ _).drew) (fun hS0 => ?_)
    refine tk (v := ?_) 0 27 rfl ?_ ?_
    rotate_left
    · (intro W hSw; obtain ⟨-, m0, m1, m2, m3, m4, m5, m6, m7, m8, m9, m10, m11, m12, e0, e1, e2, e3, e4, e5, e6, ch⟩ := hSw; go_simp; try with_reducible rfl)
    simp only [Act.put, pa, pz, ps]
    refine tk (v := ?_) 1 28 rfl ?_ ?_
    rotate_left
    · (intro W hSw; obtain ⟨-, m0, m1, m2, m3, m4, m5, m6, m7, m8, m9, m10, m11, m12, e0, e1, e2, e3, e4, e5, e6, ch⟩ := hSw; go_simp; try with_reducible rfl)
    simp only [Act.put, pa, pz, ps]
    refine tk (v := ?_) 2 29 rfl ?_ ?_
    rotate_left
    · (intro W hSw; obtain ⟨-, m0, m1, m2, m3, m4, m5, m6, m7, m8, m9, m10, m11, m12, e0, e1, e2, e3, e4, e5, e6, ch⟩ := hSw; go_simp; try with_reducible rfl)
    simp only [Act.put, pa, pz, ps]
    refine tk (v := ?_) 3 30 rfl ?_ ?_
    rotate_left
    · (intro W hSw; obtain ⟨-, m0, m1, m2, m3, m4, m5, m6, m7, m8, m9, m10, m11, m12, e0, e1, e2, e3, e4, e5, e6, ch⟩ := hSw; go_simp; try with_reducible rfl)
    simp only [Act.put, pa, pz, ps]
    first
      | (refine tk (v := ?_) 4 31 rfl ?_ ?_
         rotate_left
         · (intro W hSw; obtain ⟨-, m0, m1, m2, m3, m4, m5, m6, m7, m8, m9, m10, m11, m12, e0, e1, e2, e3, e4, e5, e6, ch⟩ := hSw; go_simp; try with_reducible rfl))
      | (refine tu 4 31 rfl ?_)
    simp only [Act.put, pa, pz, ps]
    first
      | (refine tk (v := ?_) 5 32 rfl ?_ ?_
         rotate_left
         · (intro W hSw; obtain ⟨-, m0, m1, m2, m3, m4, m5, m6, m7, m8, m9, m10, m11, m12, e0, e1, e2, e3, e4, e5, e6, ch⟩ := hSw; go_simp; try with_reducible rfl))
      | (refine tu 5 32 rfl ?_)
    simp only [Act.put, pa, pz, ps]
    first
      | (refine tk (v := ?_) 6 33 rfl ?_ ?_
         rotate_left
         · (intro W hSw; obtain ⟨-, m0, m1, m2, m3, m4, m5, m6, m7, m8, m9, m10, m11, m12, e0, e1, e2, e3, e4, e5, e6, ch⟩ := hSw; go_simp; try with_reducible rfl))
      | (refine tu 6 33 rfl ?_)
    simp only [Act.put, pa, pz, ps]
    first
      | (refine tk (v := ?_) 7 34 rfl ?_ ?_
         rotate_left
         · (intro W hSw; obtain ⟨-, m0, m1, m2, m3, m4, m5, m6, m7, m8, m9, m10, m11, m12, e0, e1, e2, e3, e4, e5, e6, ch⟩ := hSw; go_simp; try with_reducible rfl))
      | (refine tu 7 34 rfl ?_)
    simp only [Act.put, pa, pz, ps]
    refine wpAnyH_ready (rs := [8]) (by kernel_rfl) (by simp) ?_
    refine AllReadyH.cons rfl (fun K hK => ?_) AllReadyH.nil
    go_simp
    first
      | (go_at_call 74; ((with_reducible refine (HMO.out _ ?_).mono ?_); (first | exact below_step HBF.out hS0.1 | skip); rintro e W9 ⟨rfl, B9⟩); refine hK.out _ _ (HKEEP2.out _ (below_step hS0.1 B9)) (fun hS9 => ?_))
      | (refine hK.out _ _ (by assumption) (fun hS9 => ?_))
    clear hK K
    try simp only [Act.put, pa, pz, ps]
    first
      | (refine tk (v := ?_) 9 36 rfl ?_ ?_
         rotate_left
         · (intro W hSw; obtain ⟨-, m0, m1, m2, m3, m4, m5, m6, m7, m8, m9, m10, m11, m12, e0, e1, e2, e3, e4, e5, e6, ch⟩ := hSw; go_simp; try with_reducible rfl))
      | (refine tu 9 36 rfl ?_)
    simp only [Act.put, pa, pz, ps]
    refine tk (v := ?_) 10 37 rfl ?_ ?_
    rotate_left
    · (intro W hSw; obtain ⟨-, m0, m1, m2, m3, m4, m5, m6, m7, m8, m9, m10, m11, m12, e0, e1, e2, e3, e4, e5, e6, ch⟩ := hSw; go_simp; try with_reducible rfl)
    simp only [Act.put, pa, pz, ps]
    refine tk (v := ?_) 11 38 rfl ?_ ?_
    rotate_left
    · (intro W hSw; obtain ⟨-, m0, m1, m2, m3, m4, m5, m6, m7, m8, m9, m10, m11, m12, e0, e1, e2, e3, e4, e5, e6, ch⟩ := hSw; go_simp; try with_reducible rfl)
    simp only [Act.put, pa, pz, ps]
    first
      | (refine tk (v := ?_) 12 39 rfl ?_ ?_
         rotate_left
         · (intro W hSw; obtain ⟨-, m0, m1, m2, m3, m4, m5, m6, m7, m8, m9, m10, m11, m12, e0, e1, e2, e3, e4, e5, e6, ch⟩ := hSw; go_simp; try with_reducible rfl))
      | (refine tu 12 39 rfl ?_)
    simp only [Act.put, pa, pz, ps]
    first
      | (refine tk (v := ?_) 13 40 rfl ?_ ?_
         rotate_left
         · (intro W hSw; obtain ⟨-, m0, m1, m2, m3, m4, m5, m6, m7, m8, m9, m10, m11, m12, e0, e1, e2, e3, e4, e5, e6, ch⟩ := hSw; go_simp; try with_reducible rfl))
      | (refine tu 13 40 rfl ?_)
    simp only [Act.put, pa, pz, ps]
    first
      | (refine tk (v := ?_) 14 41 rfl ?_ ?_
         rotate_left
         · (intro W hSw; obtain ⟨-, m0, m1, m2, m3, m4, m5, m6, m7, m8, m9, m10, m11, m12, e0, e1, e2, e3, e4, e5, e6, ch⟩ := hSw; go_simp; try with_reducible rfl))
      | (refine tu 14 41 rfl ?_)
    simp only [Act.put, pa, pz, ps]
    first
      | (refine tk (v := ?_) 15 42 rfl ?_ ?_
         rotate_left
         · (intro W hSw; obtain ⟨-, m0, m1, m2, m3, m4, m5, m6, m7, m8, m9, m10, m11, m12, e0, e1, e2, e3, e4, e5, e6, ch⟩ := hSw; go_simp; try with_reducible rfl))
      | (refine tu 15 42 rfl ?_)
    simp only [Act.put, pa, pz, ps]
    first
      | (refine tk (v := ?_) 16 43 rfl ?_ ?_
         rotate_left
         · (intro W hSw; obtain ⟨-, m0, m1, m2, m3, m4, m5, m6, m7, m8, m9, m10, m11, m12, e0, e1, e2, e3, e4, e5, e6, ch⟩ := hSw; go_simp; try with_reducible rfl))
      | (refine tu 16 43 rfl ?_)
    simp only [Act.put, pa, pz, ps]
    first
      | (refine tk (v := ?_) 17 44 rfl ?_ ?_
         rotate_left
         · (intro W hSw; obtain ⟨-, m0, m1, m2, m3, m4, m5, m6, m7, m8, m9, m10, m11, m12, e0, e1, e2, e3, e4, e5, e6, ch⟩ := hSw; go_simp; try with_reducible rfl))
      | (refine tu 17 44 rfl ?_)
    simp only [Act.put, pa, pz, ps]
    first
      | (refine tk (v := ?_) 18 45 rfl ?_ ?_
         rotate_left
         · (intro W hSw; obtain ⟨-, m0, m1, m2, m3, m4, m5, m6, m7, m8, m9, m10, m11, m12, e0, e1, e2, e3, e4, e5, e6, ch⟩ := hSw; go_simp; try with_reducible rfl))
      | (refine tu 18 45 rfl ?_)
    simp only [Act.put, pa, pz, ps]
    first
      | (refine tk (v := ?_) 19 46 rfl ?_ ?_
         rotate_left
         · (intro W hSw; obtain ⟨-, m0, m1, m2, m3, m4, m5, m6, m7, m8, m9, m10, m11, m12, e0, e1, e2, e3, e4, e5, e6, ch⟩ := hSw; go_simp; try with_reducible rfl))
      | (refine tu 19 46 rfl ?_)
    simp only [Act.put, pa, pz, ps]
    first
      | (refine tk (v := ?_) 20 47 rfl ?_ ?_
         rotate_left
         · (intro W hSw; obtain ⟨-, m0, m1, m2, m3, m4, m5, m6, m7, m8, m9, m10, m11, m12, e0, e1, e2, e3, e4, e5, e6, ch⟩ := hSw; go_simp; try with_reducible rfl))
      | (refine tu 20 47 rfl ?_)
    simp only [Act.put, pa, pz, ps]
    first
      | (refine tk (v := ?_) 21 48 rfl ?_ ?_
         rotate_left
         · (intro W hSw; obtain ⟨-, m0, m1, m2, m3, m4, m5, m6, m7, m8, m9, m10, m11, m12, e0, e1, e2, e3, e4, e5, e6, ch⟩ := hSw; go_simp; try with_reducible rfl))
      | (refine tu 21 48 rfl ?_)
    simp only [Act.put, pa, pz, ps]
    first
      | (refine tk (v := ?_) 22 49 rfl ?_ ?_
         rotate_left
         · (intro W hSw; obtain ⟨-, m0, m1, m2, m3, m4, m5, m6, m7, m8, m9, m10, m11, m12, e0, e1, e2, e3, e4, e5, e6, ch⟩ := hSw; go_simp; try with_reducible rfl))
      | (refine tu 22 49 rfl ?_)
    simp only [Act.put, pa, pz, ps]
    refine tk (v := ?_) 23 50 rfl ?_ ?_
    rotate_left
    · (intro W hSw; obtain ⟨-, m0, m1, m2, m3, m4, m5, m6, m7, m8, m9, m10, m11, m12, e0, e1, e2, e3, e4, e5, e6, ch⟩ := hSw; go_simp; try with_reducible rfl)
    simp only [Act.put, pa, pz, ps]
    refine tk (v := ?_) 24 51 rfl ?_ ?_
    rotate_left
    · (intro W hSw; obtain ⟨-, m0, m1, m2, m3, m4, m5, m6, m7, m8, m9, m10, m11, m12, e0, e1, e2, e3, e4, e5, e6, ch⟩ := hSw; go_simp; try with_reducible rfl)
    simp only [Act.put, pa, pz, ps]
    first
      | (refine tk (v := ?_) 25 52 rfl ?_ ?_
         rotate_left
         · (intro W hSw; obtain ⟨-, m0, m1, m2, m3, m4, m5, m6, m7, m8, m9, m10, m11, m12, e0, e1, e2, e3, e4, e5, e6, ch⟩ := hSw; go_simp; try with_reducible rfl))
      | (refine tu 25 52 rfl ?_)
    simp only [Act.put, pa, pz, ps]
    first
      | (refine tk (v := ?_) 26 53 rfl ?_ ?_
         rotate_left
         · (intro W hSw; obtain ⟨-, m0, m1, m2, m3, m4, m5, m6, m7, m8, m9, m10, m11, m12, e0, e1, e2, e3, e4, e5, e6, ch⟩ := hSw; go_simp; try with_reducible rfl))
      | (refine tu 26 53 rfl ?_)
    simp only [Act.put, pa, pz, ps]
    first
      | (refine tk (v := ?_) 27 54 rfl ?_ ?_
         rotate_left
         · (intro W hSw; obtain ⟨-, m0, m1, m2, m3, m4, m5, m6, m7, m8, m9, m10, m11, m12, e0, e1, e2, e3, e4, e5, e6, ch⟩ := hSw; go_simp; try with_reducible rfl))
      | (refine tu 27 54 rfl ?_)
    simp only [Act.put, pa, pz, ps]
    first
      | (refine tk (v := ?_) 28 55 rfl ?_ ?_
         rotate_left
         · (intro W hSw; obtain ⟨-, m0, m1, m2, m3, m4, m5, m6, m7, m8, m9, m10, m11, m12, e0, e1, e2, e3, e4, e5, e6, ch⟩ := hSw; go_simp; try with_reducible rfl))
      | (refine tu 28 55 rfl ?_)
    simp only [Act.put, pa, pz, ps]
    first
      | (refine tk (v := ?_) 29 56 rfl ?_ ?_
         rotate_left
         · (intro W hSw; obtain ⟨-, m0, m1, m2, m3, m4, m5, m6, m7, m8, m9, m10, m11, m12, e0, e1, e2, e3, e4, e5, e6, ch⟩ := hSw; go_simp; try with_reducible rfl))
      | (refine tu 29 56 rfl ?_)
    simp only [Act.put, pa, pz, ps]
    refine tk (v := ?_) 30 57 rfl ?_ ?_
    rotate_left
    · (intro W hSw; obtain ⟨-, m0, m1, m2, m3, m4, m5, m6, m7, m8, m9, m10, m11, m12, e0, e1, e2, e3, e4, e5, e6, ch⟩ := hSw; go_simp; try with_reducible rfl)
    simp only [Act.put, pa, pz, ps]
    refine wpAnyH_done (by kernel_rfl) ?_ _
    have BG := below_step HBF.out hS9.1
    obtain ⟨-, m0, m1, m2, m3, m4, m5, m6, m7, m8, m9, m10, m11, m12, e0, e1, e2, e3, e4, e5, e6, ch⟩ := hS9
    go_wp2_with fail
    go_ret
    exact ⟨by rw [← HR.out]; rfl, BG⟩

end Go.Proofs.Ytanifbofjecpmaa
