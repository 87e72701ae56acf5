/- Layer 7: closures that store what they are given. -/
import Derived.Test.YtgjokddcaadjdaaPlay
namespace Go.Proofs.Ytgjokddcaadjdaa
open Go.RowKit
set_option maxRecDepth 100000

theorem Blk.put9 {w : World} {g : Nat} {t : TypeId} {a0 a1 a2 a3 a4 a5 a6 a7 a8 u0 u1 u2 u3 u4 u5 u6 u7 u8 : Value} (h : Blk w g t #[a0, a1, a2, a3, a4, a5, a6, a7, a8]) : Blk (((((((((w.setCell ⟨g, 0, none⟩ u0).setCell ⟨g, 1, none⟩ u1).setCell ⟨g, 2, none⟩ u2).setCell ⟨g, 3, none⟩ u3).setCell ⟨g, 4, none⟩ u4).setCell ⟨g, 5, none⟩ u5).setCell ⟨g, 6, none⟩ u6).setCell ⟨g, 7, none⟩ u7).setCell ⟨g, 8, none⟩ u8) g t #[u0, u1, u2, u3, u4, u5, u6, u7, u8] := by
  have := (((((((((h.set 0 u0).set 1 u1).set 2 u2).set 3 u3).set 4 u4).set 5 u5).set 6 u6).set 7 u7).set 8 u8)
  simp only [List.setIfInBounds_toArray, List.set_cons_zero, List.set_cons_succ] at this
  exact this
theorem Kpz.set {sp : Nat → Prop} {b0 g i : Nat} {w W : World} {u : Value} (h : Kpz sp b0 w W) (hs : sp g) (hb : b0 ≤ g) : Kpz sp b0 w (W.setCell ⟨g, i, none⟩ u) :=
  ⟨h.kps.trans (Kps.setCell fun _ _ hp => hp hs), h.bel.setCell hb u⟩

set_option maxHeartbeats 8000000 in
theorem pw1_is (N M s t : Nat) (K : CsrS) (Q0 Q : PreS) (g9 g10 b0 : Nat) (w : World) (hne : g9 ≠ g10) (h9 : ∃ v0 v1 v2 v3 v4 v5 v6 v7 v8, Blk w g9 32 #[v0, v1, v2, v3, v4, v5, v6, v7, v8]) (h10 : ∃ x y z, Blk w g10 29 #[x, y, z]) (hb : b0 ≤ g9 ∧ b0 ≤ g10) :
    Calls Try.prog 40 (#[csrW N M s t K, preW M N N Q0, preW M N N Q] ++ #[.pointer (some ⟨g9, 0, none⟩), .pointer (some ⟨g10, 0, none⟩)]) w fun e w' => e = .returned (.bool true) ∧ Blk w' g9 32 #[.int .i64 (N : Int), .int .i64 (s : Int), .int .i64 (t : Int), .slice K.AF (N + 1) K.cF, .slice K.AH M K.cH, .slice K.AR M K.cR, .slice K.AC M K.cC, .slice K.AA M K.cA, .slice K.AB M K.cB] ∧
      Blk w' g10 29 #[.slice Q.AX M Q.cX, .slice Q.AE N Q.cE, .slice Q.AH N Q.cH] ∧ Kpz (fun k => k = g9 ∨ k = g10) b0 w w' := by
  obtain ⟨v0, v1, v2, v3, v4, v5, v6, v7, v8, h9⟩ := h9
  obtain ⟨x, y, z, h10⟩ := h10
  obtain ⟨AF, cF, AH, cH, AR, cR, AC, cC, AA, cA, AB, cB⟩ := K
  obtain ⟨AX, cX, AE, cE, AHH, cHH⟩ := Q
  obtain ⟨AX0, cX0, AE0, cE0, AH0, cH0⟩ := Q0
  dsimp only [csrW, preW]
  simp only [List.append_toArray, List.cons_append, List.nil_append]
  obtain ⟨w0, hw0⟩ : ∃ w0, (((w.alloc (.cells #[.int .i64 (N : Int), .int .i64 (s : Int), .int .i64 (t : Int), .slice AF (N + 1) cF, .slice AH M cH, .slice AR M cR, .slice AC M cC, .slice AA M cA, .slice AB M cB] 32)).alloc (.cells #[.slice AX0 M cX0, .slice AE0 N cE0, .slice AH0 N cH0] 29)).alloc (.cells #[.slice AX M cX, .slice AE N cE, .slice AHH N cHH] 29)) = w0 := ⟨_, rfl⟩
  have B0 : Below w.heap.size w w0 := by rw [← hw0]; exact (((Below.refl _ w).alloc (Nat.le_refl _) _).alloc (by simp) _).alloc (by simp; omega) _
  have C0 : Blk w0 w.heap.size 32 #[.int .i64 (N : Int), .int .i64 (s : Int), .int .i64 (t : Int), .slice AF (N + 1) cF, .slice AH M cH, .slice AR M cR, .slice AC M cC, .slice AA M cA, .slice AB M cB] := by rw [← hw0]; exact ((Blk.new rfl).alloc _).alloc _
  have P0 : Blk w0 (w.heap.size + 1 + 1) 29 #[.slice AX M cX, .slice AE N cE, .slice AHH N cHH] := by rw [← hw0]; exact Blk.new (by simp)
  have HW0 := Lib.hid hw0
  have h9' := h9.below B0 h9.lt
  have h10' := h10.below B0 h10.lt
  have hl9 := h9.lt; have hl10 := h10.lt
  obtain ⟨w1, hw1⟩ : ∃ w1, w0.drew = w1 := ⟨_, rfl⟩
  have b01 : Below w0.heap.size w0 w1 := by rw [← hw1]; exact (Below.refl _ w0).drew
  have HG9 := Lib.hid (h9'.below b01 h9'.lt); have HG10 := Lib.hid (h10'.below b01 h10'.lt)
  have HC1 := Lib.hid (C0.below b01 C0.lt); have HP1 := Lib.hid (P0.below b01 P0.lt)
  have HNE := Lib.hid hne; have HLO := Lib.hid (And.intro hl9 (And.intro hl10 hb))
  have HZ := Lib.hid (Kpz.all (sp := fun k => k = g9 ∨ k = g10) (b0 := b0) (below_step B0 b01) (by omega))
  have hS1 : (fun W' : World => (W'.cell? ⟨w.heap.size, 0, none⟩ = some (.int .i64 (N : Int)) ∧ W'.cell? ⟨w.heap.size, 1, none⟩ = some (.int .i64 (s : Int)) ∧ W'.cell? ⟨w.heap.size, 2, none⟩ = some (.int .i64 (t : Int)) ∧ W'.cell? ⟨w.heap.size, 3, none⟩ = some (.slice AF (N + 1) cF) ∧ W'.cell? ⟨w.heap.size, 4, none⟩ = some (.slice AH M cH) ∧ W'.cell? ⟨w.heap.size, 5, none⟩ = some (.slice AR M cR) ∧ W'.cell? ⟨w.heap.size, 6, none⟩ = some (.slice AC M cC) ∧ W'.cell? ⟨w.heap.size, 7, none⟩ = some (.slice AA M cA) ∧ W'.cell? ⟨w.heap.size, 8, none⟩ = some (.slice AB M cB)) ∧ (W'.cell? ⟨w.heap.size + 1 + 1, 0, none⟩ = some (.slice AX M cX) ∧ W'.cell? ⟨w.heap.size + 1 + 1, 1, none⟩ = some (.slice AE N cE) ∧ W'.cell? ⟨w.heap.size + 1 + 1, 2, none⟩ = some (.slice AHH N cHH))) w1 := ⟨HC1.out.at9, HP1.out.full3.1⟩
  have HS1 := Lib.hid hS1
  clear hw0 h9 h10 h9' h10' hl9 hl10 b01 C0 P0 B0 hne hb hS1
  go_enter Try.func40, Try.ntmps40
  go_wp2_with fail
  rw [HW0.out]
  refine wp_region_held_drew (S := fun W' => (W'.cell? ⟨w.heap.size, 0, none⟩ = some (.int .i64 (N : Int)) ∧ W'.cell? ⟨w.heap.size, 1, none⟩ = some (.int .i64 (s : Int)) ∧ W'.cell? ⟨w.heap.size, 2, none⟩ = some (.int .i64 (t : Int)) ∧ W'.cell? ⟨w.heap.size, 3, none⟩ = some (.slice AF (N + 1) cF) ∧ W'.cell? ⟨w.heap.size, 4, none⟩ = some (.slice AH M cH) ∧ W'.cell? ⟨w.heap.size, 5, none⟩ = some (.slice AR M cR) ∧ W'.cell? ⟨w.heap.size, 6, none⟩ = some (.slice AC M cC) ∧ W'.cell? ⟨w.heap.size, 7, none⟩ = some (.slice AA M cA) ∧ W'.cell? ⟨w.heap.size, 8, none⟩ = some (.slice AB M cB)) ∧ (W'.cell? ⟨w.heap.size + 1 + 1, 0, none⟩ = some (.slice AX M cX) ∧ W'.cell? ⟨w.heap.size + 1 + 1, 1, none⟩ = some (.slice AE N cE) ∧ W'.cell? ⟨w.heap.size + 1 + 1, 2, none⟩ = some (.slice AHH N cHH))) (by kernel_rfl) (by rw [hw1]; exact HS1.out) (fun hS0 => ?_)
  rw [hw1] at hS0 ⊢
  clear hw1
  refine takeD (i := 0) (v := ?_) (some 9) rfl rfl (by kernel_rfl) (by kernel_rfl) (by kernel_rfl) (fun _ _ _ h => h) (Or.inl ⟨by rfl, ?_⟩) (by assumption) ?_
  rotate_left
  · (intro W hSw; obtain ⟨⟨a0, a1, a2, a3, a4, a5, a6, a7, a8⟩, ⟨p0, p1, p2⟩⟩ := hSw; go_simp; try with_reducible rfl)
  simp only [Act.put, List.setIfInBounds_toArray, List.set_cons_zero, List.set_cons_succ]
  refine takeD (i := 1) (v := ?_) (some 10) rfl rfl (by kernel_rfl) (by kernel_rfl) (by kernel_rfl) (fun _ _ _ h => h) (Or.inl ⟨by rfl, ?_⟩) (by assumption) ?_
  rotate_left
  · (intro W hSw; obtain ⟨⟨a0, a1, a2, a3, a4, a5, a6, a7, a8⟩, ⟨p0, p1, p2⟩⟩ := hSw; go_simp; try with_reducible rfl)
  simp only [Act.put, List.setIfInBounds_toArray, List.set_cons_zero, List.set_cons_succ]
  have hG9 := HG9.out; have hG10 := HG10.out; have hC := HC1.out; have hP := HP1.out; have hZ := HZ.out
  refine wpAnyH_ready (rs := [2]) (by kernel_rfl) (by simp) ?_
  refine AllReadyH.cons rfl (fun K hK => ?_) AllReadyH.nil
  · obtain ⟨q0, q1, q2, q3, q4, q5, q6, q7, q8⟩ := hG9.at9
    have f0 := hG9.frozen 0; have f1 := hG9.frozen 1; have f2 := hG9.frozen 2; have f3 := hG9.frozen 3; have f4 := hG9.frozen 4; have f5 := hG9.frozen 5; have f6 := hG9.frozen 6; have f7 := hG9.frozen 7; have f8 := hG9.frozen 8
    have hl := hG9.lt
    go_simp
    have x9s0 := hG9.put9 (u0 := .int .i64 (N : Int)) (u1 := .int .i64 (s : Int)) (u2 := .int .i64 (t : Int)) (u3 := .slice AF (N + 1) cF) (u4 := .slice AH M cH) (u5 := .slice AR M cR) (u6 := .slice AC M cC) (u7 := .slice AA M cA) (u8 := .slice AB M cB)
    have x10s0 := (((((((((hG10.far (p := ⟨g9, 0, none⟩) (show g10 ≠ g9 from fun e => HNE.out e.symm) (.int .i64 (N : Int))).far (p := ⟨g9, 1, none⟩) (show g10 ≠ g9 from fun e => HNE.out e.symm) (.int .i64 (s : Int))).far (p := ⟨g9, 2, none⟩) (show g10 ≠ g9 from fun e => HNE.out e.symm) (.int .i64 (t : Int))).far (p := ⟨g9, 3, none⟩) (show g10 ≠ g9 from fun e => HNE.out e.symm) (.slice AF (N + 1) cF)).far (p := ⟨g9, 4, none⟩) (show g10 ≠ g9 from fun e => HNE.out e.symm) (.slice AH M cH)).far (p := ⟨g9, 5, none⟩) (show g10 ≠ g9 from fun e => HNE.out e.symm) (.slice AR M cR)).far (p := ⟨g9, 6, none⟩) (show g10 ≠ g9 from fun e => HNE.out e.symm) (.slice AC M cC)).far (p := ⟨g9, 7, none⟩) (show g10 ≠ g9 from fun e => HNE.out e.symm) (.slice AA M cA)).far (p := ⟨g9, 8, none⟩) (show g10 ≠ g9 from fun e => HNE.out e.symm) (.slice AB M cB))
    have xcs0 := (((((((((hC.far (p := ⟨g9, 0, none⟩) (show w.heap.size ≠ g9 by have := HLO.out; omega) (.int .i64 (N : Int))).far (p := ⟨g9, 1, none⟩) (show w.heap.size ≠ g9 by have := HLO.out; omega) (.int .i64 (s : Int))).far (p := ⟨g9, 2, none⟩) (show w.heap.size ≠ g9 by have := HLO.out; omega) (.int .i64 (t : Int))).far (p := ⟨g9, 3, none⟩) (show w.heap.size ≠ g9 by have := HLO.out; omega) (.slice AF (N + 1) cF)).far (p := ⟨g9, 4, none⟩) (show w.heap.size ≠ g9 by have := HLO.out; omega) (.slice AH M cH)).far (p := ⟨g9, 5, none⟩) (show w.heap.size ≠ g9 by have := HLO.out; omega) (.slice AR M cR)).far (p := ⟨g9, 6, none⟩) (show w.heap.size ≠ g9 by have := HLO.out; omega) (.slice AC M cC)).far (p := ⟨g9, 7, none⟩) (show w.heap.size ≠ g9 by have := HLO.out; omega) (.slice AA M cA)).far (p := ⟨g9, 8, none⟩) (show w.heap.size ≠ g9 by have := HLO.out; omega) (.slice AB M cB))
    have xps0 := (((((((((hP.far (p := ⟨g9, 0, none⟩) (show w.heap.size + 1 + 1 ≠ g9 by have := HLO.out; omega) (.int .i64 (N : Int))).far (p := ⟨g9, 1, none⟩) (show w.heap.size + 1 + 1 ≠ g9 by have := HLO.out; omega) (.int .i64 (s : Int))).far (p := ⟨g9, 2, none⟩) (show w.heap.size + 1 + 1 ≠ g9 by have := HLO.out; omega) (.int .i64 (t : Int))).far (p := ⟨g9, 3, none⟩) (show w.heap.size + 1 + 1 ≠ g9 by have := HLO.out; omega) (.slice AF (N + 1) cF)).far (p := ⟨g9, 4, none⟩) (show w.heap.size + 1 + 1 ≠ g9 by have := HLO.out; omega) (.slice AH M cH)).far (p := ⟨g9, 5, none⟩) (show w.heap.size + 1 + 1 ≠ g9 by have := HLO.out; omega) (.slice AR M cR)).far (p := ⟨g9, 6, none⟩) (show w.heap.size + 1 + 1 ≠ g9 by have := HLO.out; omega) (.slice AC M cC)).far (p := ⟨g9, 7, none⟩) (show w.heap.size + 1 + 1 ≠ g9 by have := HLO.out; omega) (.slice AA M cA)).far (p := ⟨g9, 8, none⟩) (show w.heap.size + 1 + 1 ≠ g9 by have := HLO.out; omega) (.slice AB M cB))
    have xzs0 := (((((((((hZ.set (i := 0) (u := .int .i64 (N : Int)) (Or.inl rfl) (by have := HLO.out; omega)).set (i := 1) (u := .int .i64 (s : Int)) (Or.inl rfl) (by have := HLO.out; omega)).set (i := 2) (u := .int .i64 (t : Int)) (Or.inl rfl) (by have := HLO.out; omega)).set (i := 3) (u := .slice AF (N + 1) cF) (Or.inl rfl) (by have := HLO.out; omega)).set (i := 4) (u := .slice AH M cH) (Or.inl rfl) (by have := HLO.out; omega)).set (i := 5) (u := .slice AR M cR) (Or.inl rfl) (by have := HLO.out; omega)).set (i := 6) (u := .slice AC M cC) (Or.inl rfl) (by have := HLO.out; omega)).set (i := 7) (u := .slice AA M cA) (Or.inl rfl) (by have := HLO.out; omega)).set (i := 8) (u := .slice AB M cB) (Or.inl rfl) (by have := HLO.out; omega))
    refine hK.out _ _ ⟨xcs0.at9, xps0.full3.1⟩ (fun hS0 => ?_)
    clear hK K hl q0 q1 q2 q3 q4 q5 q6 q7 q8 f0 f1 f2 f3 f4 f5 f6 f7 f8
    try simp only [Act.put, List.setIfInBounds_toArray, List.set_cons_zero, List.set_cons_succ]
    obtain ⟨W0, hW0⟩ : ∃ W, (((((((((w1.setCell ⟨g9, 0, none⟩ (.int .i64 (N : Int))).setCell ⟨g9, 1, none⟩ (.int .i64 (s : Int))).setCell ⟨g9, 2, none⟩ (.int .i64 (t : Int))).setCell ⟨g9, 3, none⟩ (.slice AF (N + 1) cF)).setCell ⟨g9, 4, none⟩ (.slice AH M cH)).setCell ⟨g9, 5, none⟩ (.slice AR M cR)).setCell ⟨g9, 6, none⟩ (.slice AC M cC)).setCell ⟨g9, 7, none⟩ (.slice AA M cA)).setCell ⟨g9, 8, none⟩ (.slice AB M cB)) = W := ⟨_, rfl⟩
    rw [hW0] at x9s0 x10s0 xcs0 xps0 xzs0 hS0 ⊢
    clear hW0
    refine wpAnyH_ready (rs := [3]) (by kernel_rfl) (by simp) ?_
    refine AllReadyH.cons rfl (fun K hK => ?_) AllReadyH.nil
    obtain ⟨⟨q0, q1, q2⟩, ⟨f0, f1, f2⟩, hl⟩ := x10s0.full3
    go_simp
    have x9s1 := (((x9s0.far (p := ⟨g10, 0, none⟩) (show g9 ≠ g10 from HNE.out) (.slice AX M cX)).far (p := ⟨g10, 1, none⟩) (show g9 ≠ g10 from HNE.out) (.slice AE N cE)).far (p := ⟨g10, 2, none⟩) (show g9 ≠ g10 from HNE.out) (.slice AHH N cHH))
    have x10s1 := x10s0.put3 (x := .slice AX M cX) (y := .slice AE N cE) (z := .slice AHH N cHH)
    dsimp only [put3] at x10s1
    have xcs1 := (((xcs0.far (p := ⟨g10, 0, none⟩) (show w.heap.size ≠ g10 by have := HLO.out; omega) (.slice AX M cX)).far (p := ⟨g10, 1, none⟩) (show w.heap.size ≠ g10 by have := HLO.out; omega) (.slice AE N cE)).far (p := ⟨g10, 2, none⟩) (show w.heap.size ≠ g10 by have := HLO.out; omega) (.slice AHH N cHH))
    have xps1 := (((xps0.far (p := ⟨g10, 0, none⟩) (show w.heap.size + 1 + 1 ≠ g10 by have := HLO.out; omega) (.slice AX M cX)).far (p := ⟨g10, 1, none⟩) (show w.heap.size + 1 + 1 ≠ g10 by have := HLO.out; omega) (.slice AE N cE)).far (p := ⟨g10, 2, none⟩) (show w.heap.size + 1 + 1 ≠ g10 by have := HLO.out; omega) (.slice AHH N cHH))
    have xzs1 := (((xzs0.set (i := 0) (u := .slice AX M cX) (Or.inr rfl) (by have := HLO.out; omega)).set (i := 1) (u := .slice AE N cE) (Or.inr rfl) (by have := HLO.out; omega)).set (i := 2) (u := .slice AHH N cHH) (Or.inr rfl) (by have := HLO.out; omega))
    refine hK.out _ _ ⟨xcs1.at9, xps1.full3.1⟩ (fun hS1 => ?_)
    clear hK K hl q0 q1 q2 f0 f1 f2
    try simp only [Act.put, List.setIfInBounds_toArray, List.set_cons_zero, List.set_cons_succ]
    obtain ⟨W1, hW1⟩ : ∃ W, (((W0.setCell ⟨g10, 0, none⟩ (.slice AX M cX)).setCell ⟨g10, 1, none⟩ (.slice AE N cE)).setCell ⟨g10, 2, none⟩ (.slice AHH N cHH)) = W := ⟨_, rfl⟩
    rw [hW1] at x9s1 x10s1 xcs1 xps1 xzs1 hS1 ⊢
    clear hW1
    refine wpAnyH_done (by kernel_rfl) ?_ _
    have HE := Lib.hid (And.intro x9s1 (And.intro x10s1 xzs1))
    clear hS0 hS1 hG9 hG10 hC hP hZ x9s0 x10s0 xcs0 xps0 xzs0 x9s1 x10s1 xcs1 xps1 xzs1 HG9 HG10 HC1 HP1 HZ HLO HS1 HW0 HNE
    go_wp2_with fail
    go_ret
    exact ⟨rfl, HE.out⟩

set_option maxHeartbeats 8000000 in
theorem pe1_is (N M s t : Nat) (K : CsrS) (Q0 Q : PreS) (g9 g10 b0 : Nat) (w : World) (hne : g9 ≠ g10) (h9 : ∃ v0 v1 v2 v3 v4 v5 v6 v7 v8, Blk w g9 32 #[v0, v1, v2, v3, v4, v5, v6, v7, v8]) (h10 : ∃ x y z, Blk w g10 29 #[x, y, z]) (hb : b0 ≤ g9 ∧ b0 ≤ g10) :
    Calls Try.prog 34 (#[csrW N M s t K, preW M N N Q0, preW M N N Q] ++ #[.pointer (some ⟨g9, 0, none⟩), .pointer (some ⟨g10, 0, none⟩)]) w fun e w' => e = .returned (.bool true) ∧ Blk w' g9 32 #[.int .i64 (N : Int), .int .i64 (s : Int), .int .i64 (t : Int), .slice K.AF (N + 1) K.cF, .slice K.AH M K.cH, .slice K.AR M K.cR, .slice K.AC M K.cC, .slice K.AA M K.cA, .slice K.AB M K.cB] ∧
      Blk w' g10 29 #[.slice Q.AX M Q.cX, .slice Q.AE N Q.cE, .slice Q.AH N Q.cH] ∧ Kpz (fun k => k = g9 ∨ k = g10) b0 w w' := by
  obtain ⟨v0, v1, v2, v3, v4, v5, v6, v7, v8, h9⟩ := h9
  obtain ⟨x, y, z, h10⟩ := h10
  obtain ⟨AF, cF, AH, cH, AR, cR, AC, cC, AA, cA, AB, cB⟩ := K
  obtain ⟨AX, cX, AE, cE, AHH, cHH⟩ := Q
  obtain ⟨AX0, cX0, AE0, cE0, AH0, cH0⟩ := Q0
  dsimp only [csrW, preW]
  simp only [List.append_toArray, List.cons_append, List.nil_append]
  obtain ⟨w0, hw0⟩ : ∃ w0, (((w.alloc (.cells #[.int .i64 (N : Int), .int .i64 (s : Int), .int .i64 (t : Int), .slice AF (N + 1) cF, .slice AH M cH, .slice AR M cR, .slice AC M cC, .slice AA M cA, .slice AB M cB] 32)).alloc (.cells #[.slice AX0 M cX0, .slice AE0 N cE0, .slice AH0 N cH0] 29)).alloc (.cells #[.slice AX M cX, .slice AE N cE, .slice AHH N cHH] 29)) = w0 := ⟨_, rfl⟩
  have B0 : Below w.heap.size w w0 := by rw [← hw0]; exact (((Below.refl _ w).alloc (Nat.le_refl _) _).alloc (by simp) _).alloc (by simp; omega) _
  have C0 : Blk w0 w.heap.size 32 #[.int .i64 (N : Int), .int .i64 (s : Int), .int .i64 (t : Int), .slice AF (N + 1) cF, .slice AH M cH, .slice AR M cR, .slice AC M cC, .slice AA M cA, .slice AB M cB] := by rw [← hw0]; exact ((Blk.new rfl).alloc _).alloc _
  have P0 : Blk w0 (w.heap.size + 1 + 1) 29 #[.slice AX M cX, .slice AE N cE, .slice AHH N cHH] := by rw [← hw0]; exact Blk.new (by simp)
  have HW0 := Lib.hid hw0
  have h9' := h9.below B0 h9.lt
  have h10' := h10.below B0 h10.lt
  have hl9 := h9.lt; have hl10 := h10.lt
  obtain ⟨w1, hw1⟩ : ∃ w1, w0.drew = w1 := ⟨_, rfl⟩
  have b01 : Below w0.heap.size w0 w1 := by rw [← hw1]; exact (Below.refl _ w0).drew
  have HG9 := Lib.hid (h9'.below b01 h9'.lt); have HG10 := Lib.hid (h10'.below b01 h10'.lt)
  have HC1 := Lib.hid (C0.below b01 C0.lt); have HP1 := Lib.hid (P0.below b01 P0.lt)
  have HNE := Lib.hid hne; have HLO := Lib.hid (And.intro hl9 (And.intro hl10 hb))
  have HZ := Lib.hid (Kpz.all (sp := fun k => k = g9 ∨ k = g10) (b0 := b0) (below_step B0 b01) (by omega))
  have hS1 : (fun W' : World => (W'.cell? ⟨w.heap.size, 0, none⟩ = some (.int .i64 (N : Int)) ∧ W'.cell? ⟨w.heap.size, 1, none⟩ = some (.int .i64 (s : Int)) ∧ W'.cell? ⟨w.heap.size, 2, none⟩ = some (.int .i64 (t : Int)) ∧ W'.cell? ⟨w.heap.size, 3, none⟩ = some (.slice AF (N + 1) cF) ∧ W'.cell? ⟨w.heap.size, 4, none⟩ = some (.slice AH M cH) ∧ W'.cell? ⟨w.heap.size, 5, none⟩ = some (.slice AR M cR) ∧ W'.cell? ⟨w.heap.size, 6, none⟩ = some (.slice AC M cC) ∧ W'.cell? ⟨w.heap.size, 7, none⟩ = some (.slice AA M cA) ∧ W'.cell? ⟨w.heap.size, 8, none⟩ = some (.slice AB M cB)) ∧ (W'.cell? ⟨w.heap.size + 1 + 1, 0, none⟩ = some (.slice AX M cX) ∧ W'.cell? ⟨w.heap.size + 1 + 1, 1, none⟩ = some (.slice AE N cE) ∧ W'.cell? ⟨w.heap.size + 1 + 1, 2, none⟩ = some (.slice AHH N cHH))) w1 := ⟨HC1.out.at9, HP1.out.full3.1⟩
  have HS1 := Lib.hid hS1
  clear hw0 h9 h10 h9' h10' hl9 hl10 b01 C0 P0 B0 hne hb hS1
  go_enter Try.func34, Try.ntmps34
  go_wp2_with fail
  rw [HW0.out]
  refine wp_region_held_drew (S := fun W' => (W'.cell? ⟨w.heap.size, 0, none⟩ = some (.int .i64 (N : Int)) ∧ W'.cell? ⟨w.heap.size, 1, none⟩ = some (.int .i64 (s : Int)) ∧ W'.cell? ⟨w.heap.size, 2, none⟩ = some (.int .i64 (t : Int)) ∧ W'.cell? ⟨w.heap.size, 3, none⟩ = some (.slice AF (N + 1) cF) ∧ W'.cell? ⟨w.heap.size, 4, none⟩ = some (.slice AH M cH) ∧ W'.cell? ⟨w.heap.size, 5, none⟩ = some (.slice AR M cR) ∧ W'.cell? ⟨w.heap.size, 6, none⟩ = some (.slice AC M cC) ∧ W'.cell? ⟨w.heap.size, 7, none⟩ = some (.slice AA M cA) ∧ W'.cell? ⟨w.heap.size, 8, none⟩ = some (.slice AB M cB)) ∧ (W'.cell? ⟨w.heap.size + 1 + 1, 0, none⟩ = some (.slice AX M cX) ∧ W'.cell? ⟨w.heap.size + 1 + 1, 1, none⟩ = some (.slice AE N cE) ∧ W'.cell? ⟨w.heap.size + 1 + 1, 2, none⟩ = some (.slice AHH N cHH))) (by kernel_rfl) (by rw [hw1]; exact HS1.out) (fun hS0 => ?_)
  rw [hw1] at hS0 ⊢
  clear hw1
  refine takeD (i := 0) (v := ?_) (some 9) rfl rfl (by kernel_rfl) (by kernel_rfl) (by kernel_rfl) (fun _ _ _ h => h) (Or.inl ⟨by rfl, ?_⟩) (by assumption) ?_
  rotate_left
  · (intro W hSw; obtain ⟨⟨a0, a1, a2, a3, a4, a5, a6, a7, a8⟩, ⟨p0, p1, p2⟩⟩ := hSw; go_simp; try with_reducible rfl)
  simp only [Act.put, List.setIfInBounds_toArray, List.set_cons_zero, List.set_cons_succ]
  refine takeD (i := 1) (v := ?_) (some 10) rfl rfl (by kernel_rfl) (by kernel_rfl) (by kernel_rfl) (fun _ _ _ h => h) (Or.inl ⟨by rfl, ?_⟩) (by assumption) ?_
  rotate_left
  · (intro W hSw; obtain ⟨⟨a0, a1, a2, a3, a4, a5, a6, a7, a8⟩, ⟨p0, p1, p2⟩⟩ := hSw; go_simp; try with_reducible rfl)
  simp only [Act.put, List.setIfInBounds_toArray, List.set_cons_zero, List.set_cons_succ]
  have hG9 := HG9.out; have hG10 := HG10.out; have hC := HC1.out; have hP := HP1.out; have hZ := HZ.out
  refine wpAnyH_ready (rs := [2]) (by kernel_rfl) (by simp) ?_
  refine AllReadyH.cons rfl (fun K hK => ?_) AllReadyH.nil
  · obtain ⟨q0, q1, q2, q3, q4, q5, q6, q7, q8⟩ := hG9.at9
    have f0 := hG9.frozen 0; have f1 := hG9.frozen 1; have f2 := hG9.frozen 2; have f3 := hG9.frozen 3; have f4 := hG9.frozen 4; have f5 := hG9.frozen 5; have f6 := hG9.frozen 6; have f7 := hG9.frozen 7; have f8 := hG9.frozen 8
    have hl := hG9.lt
    go_simp
    have x9s0 := hG9.put9 (u0 := .int .i64 (N : Int)) (u1 := .int .i64 (s : Int)) (u2 := .int .i64 (t : Int)) (u3 := .slice AF (N + 1) cF) (u4 := .slice AH M cH) (u5 := .slice AR M cR) (u6 := .slice AC M cC) (u7 := .slice AA M cA) (u8 := .slice AB M cB)
    have x10s0 := (((((((((hG10.far (p := ⟨g9, 0, none⟩) (show g10 ≠ g9 from fun e => HNE.out e.symm) (.int .i64 (N : Int))).far (p := ⟨g9, 1, none⟩) (show g10 ≠ g9 from fun e => HNE.out e.symm) (.int .i64 (s : Int))).far (p := ⟨g9, 2, none⟩) (show g10 ≠ g9 from fun e => HNE.out e.symm) (.int .i64 (t : Int))).far (p := ⟨g9, 3, none⟩) (show g10 ≠ g9 from fun e => HNE.out e.symm) (.slice AF (N + 1) cF)).far (p := ⟨g9, 4, none⟩) (show g10 ≠ g9 from fun e => HNE.out e.symm) (.slice AH M cH)).far (p := ⟨g9, 5, none⟩) (show g10 ≠ g9 from fun e => HNE.out e.symm) (.slice AR M cR)).far (p := ⟨g9, 6, none⟩) (show g10 ≠ g9 from fun e => HNE.out e.symm) (.slice AC M cC)).far (p := ⟨g9, 7, none⟩) (show g10 ≠ g9 from fun e => HNE.out e.symm) (.slice AA M cA)).far (p := ⟨g9, 8, none⟩) (show g10 ≠ g9 from fun e => HNE.out e.symm) (.slice AB M cB))
    have xcs0 := (((((((((hC.far (p := ⟨g9, 0, none⟩) (show w.heap.size ≠ g9 by have := HLO.out; omega) (.int .i64 (N : Int))).far (p := ⟨g9, 1, none⟩) (show w.heap.size ≠ g9 by have := HLO.out; omega) (.int .i64 (s : Int))).far (p := ⟨g9, 2, none⟩) (show w.heap.size ≠ g9 by have := HLO.out; omega) (.int .i64 (t : Int))).far (p := ⟨g9, 3, none⟩) (show w.heap.size ≠ g9 by have := HLO.out; omega) (.slice AF (N + 1) cF)).far (p := ⟨g9, 4, none⟩) (show w.heap.size ≠ g9 by have := HLO.out; omega) (.slice AH M cH)).far (p := ⟨g9, 5, none⟩) (show w.heap.size ≠ g9 by have := HLO.out; omega) (.slice AR M cR)).far (p := ⟨g9, 6, none⟩) (show w.heap.size ≠ g9 by have := HLO.out; omega) (.slice AC M cC)).far (p := ⟨g9, 7, none⟩) (show w.heap.size ≠ g9 by have := HLO.out; omega) (.slice AA M cA)).far (p := ⟨g9, 8, none⟩) (show w.heap.size ≠ g9 by have := HLO.out; omega) (.slice AB M cB))
    have xps0 := (((((((((hP.far (p := ⟨g9, 0, none⟩) (show w.heap.size + 1 + 1 ≠ g9 by have := HLO.out; omega) (.int .i64 (N : Int))).far (p := ⟨g9, 1, none⟩) (show w.heap.size + 1 + 1 ≠ g9 by have := HLO.out; omega) (.int .i64 (s : Int))).far (p := ⟨g9, 2, none⟩) (show w.heap.size + 1 + 1 ≠ g9 by have := HLO.out; omega) (.int .i64 (t : Int))).far (p := ⟨g9, 3, none⟩) (show w.heap.size + 1 + 1 ≠ g9 by have := HLO.out; omega) (.slice AF (N + 1) cF)).far (p := ⟨g9, 4, none⟩) (show w.heap.size + 1 + 1 ≠ g9 by have := HLO.out; omega) (.slice AH M cH)).far (p := ⟨g9, 5, none⟩) (show w.heap.size + 1 + 1 ≠ g9 by have := HLO.out; omega) (.slice AR M cR)).far (p := ⟨g9, 6, none⟩) (show w.heap.size + 1 + 1 ≠ g9 by have := HLO.out; omega) (.slice AC M cC)).far (p := ⟨g9, 7, none⟩) (show w.heap.size + 1 + 1 ≠ g9 by have := HLO.out; omega) (.slice AA M cA)).far (p := ⟨g9, 8, none⟩) (show w.heap.size + 1 + 1 ≠ g9 by have := HLO.out; omega) (.slice AB M cB))
    have xzs0 := (((((((((hZ.set (i := 0) (u := .int .i64 (N : Int)) (Or.inl rfl) (by have := HLO.out; omega)).set (i := 1) (u := .int .i64 (s : Int)) (Or.inl rfl) (by have := HLO.out; omega)).set (i := 2) (u := .int .i64 (t : Int)) (Or.inl rfl) (by have := HLO.out; omega)).set (i := 3) (u := .slice AF (N + 1) cF) (Or.inl rfl) (by have := HLO.out; omega)).set (i := 4) (u := .slice AH M cH) (Or.inl rfl) (by have := HLO.out; omega)).set (i := 5) (u := .slice AR M cR) (Or.inl rfl) (by have := HLO.out; omega)).set (i := 6) (u := .slice AC M cC) (Or.inl rfl) (by have := HLO.out; omega)).set (i := 7) (u := .slice AA M cA) (Or.inl rfl) (by have := HLO.out; omega)).set (i := 8) (u := .slice AB M cB) (Or.inl rfl) (by have := HLO.out; omega))
    refine hK.out _ _ ⟨xcs0.at9, xps0.full3.1⟩ (fun hS0 => ?_)
    clear hK K hl q0 q1 q2 q3 q4 q5 q6 q7 q8 f0 f1 f2 f3 f4 f5 f6 f7 f8
    try simp only [Act.put, List.setIfInBounds_toArray, List.set_cons_zero, List.set_cons_succ]
    obtain ⟨W0, hW0⟩ : ∃ W, (((((((((w1.setCell ⟨g9, 0, none⟩ (.int .i64 (N : Int))).setCell ⟨g9, 1, none⟩ (.int .i64 (s : Int))).setCell ⟨g9, 2, none⟩ (.int .i64 (t : Int))).setCell ⟨g9, 3, none⟩ (.slice AF (N + 1) cF)).setCell ⟨g9, 4, none⟩ (.slice AH M cH)).setCell ⟨g9, 5, none⟩ (.slice AR M cR)).setCell ⟨g9, 6, none⟩ (.slice AC M cC)).setCell ⟨g9, 7, none⟩ (.slice AA M cA)).setCell ⟨g9, 8, none⟩ (.slice AB M cB)) = W := ⟨_, rfl⟩
    rw [hW0] at x9s0 x10s0 xcs0 xps0 xzs0 hS0 ⊢
    clear hW0
    refine wpAnyH_ready (rs := [3]) (by kernel_rfl) (by simp) ?_
    refine AllReadyH.cons rfl (fun K hK => ?_) AllReadyH.nil
    obtain ⟨⟨q0, q1, q2⟩, ⟨f0, f1, f2⟩, hl⟩ := x10s0.full3
    go_simp
    have x9s1 := (((x9s0.far (p := ⟨g10, 0, none⟩) (show g9 ≠ g10 from HNE.out) (.slice AX M cX)).far (p := ⟨g10, 1, none⟩) (show g9 ≠ g10 from HNE.out) (.slice AE N cE)).far (p := ⟨g10, 2, none⟩) (show g9 ≠ g10 from HNE.out) (.slice AHH N cHH))
    have x10s1 := x10s0.put3 (x := .slice AX M cX) (y := .slice AE N cE) (z := .slice AHH N cHH)
    dsimp only [put3] at x10s1
    have xcs1 := (((xcs0.far (p := ⟨g10, 0, none⟩) (show w.heap.size ≠ g10 by have := HLO.out; omega) (.slice AX M cX)).far (p := ⟨g10, 1, none⟩) (show w.heap.size ≠ g10 by have := HLO.out; omega) (.slice AE N cE)).far (p := ⟨g10, 2, none⟩) (show w.heap.size ≠ g10 by have := HLO.out; omega) (.slice AHH N cHH))
    have xps1 := (((xps0.far (p := ⟨g10, 0, none⟩) (show w.heap.size + 1 + 1 ≠ g10 by have := HLO.out; omega) (.slice AX M cX)).far (p := ⟨g10, 1, none⟩) (show w.heap.size + 1 + 1 ≠ g10 by have := HLO.out; omega) (.slice AE N cE)).far (p := ⟨g10, 2, none⟩) (show w.heap.size + 1 + 1 ≠ g10 by have := HLO.out; omega) (.slice AHH N cHH))
    have xzs1 := (((xzs0.set (i := 0) (u := .slice AX M cX) (Or.inr rfl) (by have := HLO.out; omega)).set (i := 1) (u := .slice AE N cE) (Or.inr rfl) (by have := HLO.out; omega)).set (i := 2) (u := .slice AHH N cHH) (Or.inr rfl) (by have := HLO.out; omega))
    refine hK.out _ _ ⟨xcs1.at9, xps1.full3.1⟩ (fun hS1 => ?_)
    clear hK K hl q0 q1 q2 f0 f1 f2
    try simp only [Act.put, List.setIfInBounds_toArray, List.set_cons_zero, List.set_cons_succ]
    obtain ⟨W1, hW1⟩ : ∃ W, (((W0.setCell ⟨g10, 0, none⟩ (.slice AX M cX)).setCell ⟨g10, 1, none⟩ (.slice AE N cE)).setCell ⟨g10, 2, none⟩ (.slice AHH N cHH)) = W := ⟨_, rfl⟩
    rw [hW1] at x9s1 x10s1 xcs1 xps1 xzs1 hS1 ⊢
    clear hW1
    refine wpAnyH_done (by kernel_rfl) ?_ _
    have HE := Lib.hid (And.intro x9s1 (And.intro x10s1 xzs1))
    clear hS0 hS1 hG9 hG10 hC hP hZ x9s0 x10s0 xcs0 xps0 xzs0 x9s1 x10s1 xcs1 xps1 xzs1 HG9 HG10 HC1 HP1 HZ HLO HS1 HW0 HNE
    go_wp2_with fail
    go_ret
    exact ⟨rfl, HE.out⟩

end Go.Proofs.Ytgjokddcaadjdaa
