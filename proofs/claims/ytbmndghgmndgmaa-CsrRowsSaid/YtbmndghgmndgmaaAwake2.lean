/- Layer 2: the chapter's examples ('awake'). -/
import Derived.Test.YtbmndghgmndgmaaCsrf
import Derived.Test.YtbmndghgmndgmaaFourc
import Derived.Test.YtbmndghgmndgmaaLongc
namespace Go.Proofs.Ytbmndghgmndgmaa
open Go.RowKit

theorem ints_of_cells {w : World} {B g n : Nat} {L : List Int} (hg : g < B) (hl : L.length = n) (h : ∀ j x, L[j]? = some x → w.cell? ⟨g, j, none⟩ = some (.int .i64 x)) : Ints w B (some ⟨g, 0, none⟩) n L := by
  refine ⟨hl, fun _ => ⟨g, 0, rfl, hg, fun k a ha j u hu => ?_⟩⟩
  cases j with
  | zero =>
    simp only [intCells, List.getElem?_cons_zero, Option.some.injEq] at hu
    subst hu
    simpa using h k a ha
  | succ j => simp [intCells] at hu

theorem four_inc : Inc fourArcs 0 0 1 false 5 ∧ Inc fourArcs 1 0 2 false 4 ∧ Inc fourArcs 0 1 0 true 0 ∧ Inc fourArcs 2 1 3 false 3 ∧ Inc fourArcs 4 1 2 false 2 :=
  ⟨⟨by decide, _, rfl, .inl ⟨rfl, rfl, rfl, rfl⟩⟩, ⟨by decide, _, rfl, .inl ⟨rfl, rfl, rfl, rfl⟩⟩, ⟨by decide, _, rfl, .inr ⟨rfl, rfl, rfl, rfl⟩⟩, ⟨by decide, _, rfl, .inl ⟨rfl, rfl, rfl, rfl⟩⟩, ⟨by decide, _, rfl, .inl ⟨rfl, rfl, rfl, rfl⟩⟩⟩
theorem four_pos : posOf fourArcs 0 0 = 0 ∧ posOf fourArcs 1 0 = 1 ∧ posOf fourArcs 0 1 = 2 ∧ posOf fourArcs 2 1 = 3 ∧ posOf fourArcs 4 1 = 4 := by decide +kernel
theorem four_first : firstOf fourArcs 0 = 0 ∧ firstOf fourArcs 1 = 2 ∧ firstOf fourArcs 2 = 5 ∧ firstOf fourArcs 3 = 8 ∧ firstOf fourArcs 4 = 10 := by decide +kernel

/-- The first five cells of a row. -/
theorem five_at {w : World} {g : Nat} {x0 x1 x2 x3 x4 : Int} (h0 : w.cell? ⟨g, 0, none⟩ = some (.int .i64 x0)) (h1 : w.cell? ⟨g, 1, none⟩ = some (.int .i64 x1)) (h2 : w.cell? ⟨g, 2, none⟩ = some (.int .i64 x2)) (h3 : w.cell? ⟨g, 3, none⟩ = some (.int .i64 x3)) (h4 : w.cell? ⟨g, 4, none⟩ = some (.int .i64 x4)) :
    ∀ j x, ([x0, x1, x2, x3, x4] : List Int)[j]? = some x → w.cell? ⟨g, j, none⟩ = some (.int .i64 x) := by
  intro j x hx
  match j, hx with
  | 0, hx => simp at hx; subst hx; exact h0
  | 1, hx => simp at hx; subst hx; exact h1
  | 2, hx => simp at hx; subst hx; exact h2
  | 3, hx => simp at hx; subst hx; exact h3
  | 4, hx => simp at hx; subst hx; exact h4
  | j + 5, hx => simp at hx
theorem four_rows {w : World} {gF gH gR gC gA gB : Nat} (h : CsrAt w w.heap.size 4 fourArcs gF gH gR gC gA gB) :
    Ints w w.heap.size (some ⟨gF, 0, none⟩) 5 [0, 2, 5, 8, 10] ∧ Ints w w.heap.size (some ⟨gH, 0, none⟩) 5 [1, 2, 0, 3, 2] ∧ Ints w w.heap.size (some ⟨gC, 0, none⟩) 5 [5, 4, 0, 3, 2] ∧ w.cell? ⟨gR, 0, none⟩ = some (.int .i64 2) := by
  obtain ⟨i0, i1, i2, i3, i4⟩ := four_inc
  obtain ⟨p0, p1, p2, p3, p4⟩ := four_pos
  obtain ⟨f0, f1, f2, f3, f4⟩ := four_first
  have e0 := h.ent _ _ _ _ _ i0; have e1 := h.ent _ _ _ _ _ i1; have e2 := h.ent _ _ _ _ _ i2; have e3 := h.ent _ _ _ _ _ i3; have e4 := h.ent _ _ _ _ _ i4
  rw [p0] at e0; rw [p1] at e1; rw [p2] at e2; rw [p3] at e3; rw [p4] at e4
  rw [p2] at e0
  have g0 := h.first 0 (by omega); have g1 := h.first 1 (by omega); have g2 := h.first 2 (by omega); have g3 := h.first 3 (by omega); have g4 := h.first 4 (by omega)
  rw [f0] at g0; rw [f1] at g1; rw [f2] at g2; rw [f3] at g3; rw [f4] at g4
  obtain ⟨l1, l2, l3, l4, l5, l6⟩ := h.lt
  exact ⟨ints_of_cells l1 rfl (five_at g0 g1 g2 g3 g4), ints_of_cells l2 rfl (five_at e0.1 e1.1 e2.1 e3.1 e4.1), ints_of_cells l4 rfl (five_at e0.2.2.1 e1.2.2.1 e2.2.2.1 e3.2.2.1 e4.2.2.1), e0.2.1⟩
theorem four_res {w : World} {g : Nat} {t : TypeId} {X : List Int} (h : ResOf fourArcs [3, 0, 3, 0, 0] 10 X) (hb : Blk w g t (ivs X)) : Ints w w.heap.size (some ⟨g, 0, none⟩) 5 [2, 4, 3, 0, 2] := by
  obtain ⟨i0, i1, i2, i3, i4⟩ := four_inc
  obtain ⟨p0, p1, p2, p3, p4⟩ := four_pos
  have e0 := h.ent _ _ _ _ _ 3 i0 rfl; have e1 := h.ent _ _ _ _ _ 0 i1 rfl; have e2 := h.ent _ _ _ _ _ 3 i2 rfl; have e3 := h.ent _ _ _ _ _ 3 i3 rfl; have e4 := h.ent _ _ _ _ _ 0 i4 rfl
  rw [p0] at e0; rw [p1] at e1; rw [p2] at e2; rw [p3] at e3; rw [p4] at e4
  exact ints_of_cells hb.lt rfl (five_at (hb.iat e0) (hb.iat e1) (hb.iat e2) (hb.iat e3) (hb.iat e4))
theorem four_check : checkF (4 : Nat) 0 3 fourArcs = 0 := by decide +kernel

set_option maxHeartbeats 2000000 in
theorem awake2_any (w : World) : Calls Try.prog 11 #[] w fun e w' => e = .returned (.bool true) ∧ Below w.heap.size w w' := by
  have hE := (ends_of_check four_check).2.2
  have hfo : firstOf fourArcs 4 = 10 := four_first.2.2.2.2
  go_enter Try.func11, Try.ntmps11
  go_wp2_with fail
  refine (four_any _).mono ?_
  rintro e w1 ⟨A1, n1, c1, rfl, o1, l1, B1⟩
  obtain rfl : n1 = 5 := l1.symm
  have a1 := arcs_own o1 l1
  go_wp2_with fail
  refine (make_good 4 0 3 A1 5 c1 fourArcs _ a1 four_check).mono ?_
  rintro e w2 ⟨gF, gH, gR, gC, gA, gB, rfl, hg, C2, B2⟩
  rw [hfo]
  have Bw2 := below_step B1 B2
  clear o1 l1 a1 B1 B2
  go_wp2_with fail
  have K2 : Blk (w2.alloc (.cells #[.int .i64 4, .int .i64 0, .int .i64 3, .slice (some ⟨gF, 0, none⟩) 5 5, .slice (some ⟨gH, 0, none⟩) 10 10, .slice (some ⟨gR, 0, none⟩) 10 10, .slice (some ⟨gC, 0, none⟩) 10 10, .slice (some ⟨gA, 0, none⟩) 10 10, .slice (some ⟨gB, 0, none⟩) 10 10] 30)) w2.heap.size 30 _ := Blk.new rfl
  have C2' := C2.onAlloc (.cells #[.int .i64 4, .int .i64 0, .int .i64 3, .slice (some ⟨gF, 0, none⟩) 5 5, .slice (some ⟨gH, 0, none⟩) 10 10, .slice (some ⟨gR, 0, none⟩) 10 10, .slice (some ⟨gC, 0, none⟩) 10 10, .slice (some ⟨gA, 0, none⟩) 10 10, .slice (some ⟨gB, 0, none⟩) 10 10] 30)
  refine (len_any 4 10 0 3 gF gH gR gC gA gB _).mono ?_
  rintro e w3 ⟨rfl, B3⟩
  have K3 := K2.below B3 K2.lt
  have C3 := C2'.on B3
  have Bw3 := below_step (Bw2.alloc Bw2.size _) B3
  clear K2 C2 C2' Bw2 B3
  obtain ⟨a0, a1, a2, a3, a4, a5, a6, a7, a8⟩ := K3.at9
  have hz := K3.lt
  go_wp2_with fail
  have N3 : Blk (w3.alloc (.cells #[.int .i64 0, .int .i64 2, .int .i64 5, .int .i64 8, .int .i64 10] 3)) w3.heap.size 3 (ivs [0, 2, 5, 8, 10]) := Blk.new rfl
  have C3' := C3.onAlloc (.cells #[.int .i64 0, .int .i64 2, .int .i64 5, .int .i64 8, .int .i64 10] 3)
  refine (ints_is (m := 5) _ _ (four_rows C3').1 (N3.ints rfl) (by omega) (by omega) (v := true) (by decide)).mono ?_
  rintro e w4 ⟨rfl, B4⟩
  have K4 := (K3.alloc _).below B4 (K3.alloc _).lt
  have C4 := C3'.on B4
  have Bw4 := below_step (Bw3.alloc Bw3.size _) B4
  clear a0 a1 a2 a3 a4 a5 a6 a7 a8 K3 C3 C3' Bw3 B4 N3
  obtain ⟨a0, a1, a2, a3, a4, a5, a6, a7, a8⟩ := K4.at9
  have hz4 := K4.lt
  go_wp2_with fail
  have N4 : Blk (w4.alloc (.cells #[.int .i64 1, .int .i64 2, .int .i64 0, .int .i64 3, .int .i64 2] 3)) w4.heap.size 3 (ivs [1, 2, 0, 3, 2]) := Blk.new rfl
  have C4' := C4.onAlloc (.cells #[.int .i64 1, .int .i64 2, .int .i64 0, .int .i64 3, .int .i64 2] 3)
  refine (ints_is (m := 5) _ _ (four_rows C4').2.1 (N4.ints rfl) (by omega) (by omega) (v := true) (by decide)).mono ?_
  rintro e w5 ⟨rfl, B5⟩
  have K5 := (K4.alloc _).below B5 (K4.alloc _).lt
  have C5 := C4'.on B5
  have Bw5 := below_step (Bw4.alloc Bw4.size _) B5
  clear a0 a1 a2 a3 a4 a5 a6 a7 a8 K4 C4 C4' Bw4 B5 N4
  obtain ⟨a0, a1, a2, a3, a4, a5, a6, a7, a8⟩ := K5.at9
  have hz5 := K5.lt
  go_wp2_with fail
  have N5 : Blk (w5.alloc (.cells #[.int .i64 5, .int .i64 4, .int .i64 0, .int .i64 3, .int .i64 2] 2)) w5.heap.size 2 (ivs [5, 4, 0, 3, 2]) := Blk.new rfl
  have C5' := C5.onAlloc (.cells #[.int .i64 5, .int .i64 4, .int .i64 0, .int .i64 3, .int .i64 2] 2)
  refine (longs_is (m := 5) _ _ (four_rows C5').2.2.1 (N5.ints rfl) (by omega) (by omega) (v := true) (by decide)).mono ?_
  rintro e w6 ⟨rfl, B6⟩
  have K6 := (K5.alloc _).below B6 (K5.alloc _).lt
  have C6 := C5'.on B6
  have Bw6 := below_step (Bw5.alloc Bw5.size _) B6
  clear a0 a1 a2 a3 a4 a5 a6 a7 a8 K5 C5 C5' Bw5 B6 N5
  obtain ⟨a0, a1, a2, a3, a4, a5, a6, a7, a8⟩ := K6.at9
  have hz6 := K6.lt
  have hr := (four_rows C6).2.2.2
  go_wp2_with fail
  have N6 : Blk (w6.alloc (.cells #[.int .i64 3, .int .i64 0, .int .i64 3, .int .i64 0, .int .i64 0] 2)) w6.heap.size 2 (ivs [3, 0, 3, 0, 0]) := Blk.new rfl
  have C6' := C6.onAlloc (.cells #[.int .i64 3, .int .i64 0, .int .i64 3, .int .i64 0, .int .i64 0] 2)
  refine (res_good 4 10 0 3 gF gH gR gC gA gB fourArcs _ 5 _ [3, 0, 3, 0, 0] _ C6' hE hfo (by omega) (N6.ints rfl) rfl (by decide +kernel) (by decide +kernel)).mono ?_
  rintro e w7 ⟨gX, X, rfl, hgX, X7, hX, R7, B7⟩
  have Bw7 := below_step (Bw6.alloc Bw6.size _) B7
  clear a0 a1 a2 a3 a4 a5 a6 a7 a8 K6 C6 C6' Bw6 B7 N6
  have hz7 := X7.lt
  go_wp2_with fail
  have N7 : Blk (w7.alloc (.cells #[.int .i64 2, .int .i64 4, .int .i64 3, .int .i64 0, .int .i64 2] 2)) w7.heap.size 2 (ivs [2, 4, 3, 0, 2]) := Blk.new rfl
  refine (longs_is (m := 5) _ _ ((four_res R7 X7).onAlloc _) (N7.ints rfl) (by omega) (by omega) (v := true) (by decide)).mono ?_
  rintro e w8 ⟨rfl, B8⟩
  go_wp2_with fail
  go_ret
  exact ⟨rfl, below_step (Bw7.alloc Bw7.size _) B8⟩

end Go.Proofs.Ytbmndghgmndgmaa
