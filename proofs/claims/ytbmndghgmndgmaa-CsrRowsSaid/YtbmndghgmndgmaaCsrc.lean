/- Layer 2: a residual network with nothing in it yet. -/
import Derived.Test.YtbmndghgmndgmaaClone
import Derived.Test.YtbmndghgmndgmaaMakes
import Derived.Deep.RegionHeld3
namespace Go.Proofs.Ytbmndghgmndgmaa
open Go.RowKit

/-- A residual network's value. -/
abbrev csrV (N M : Nat) (S T : Int) (gF gH gR gC gA gB : Nat) : Value :=
  .agg #[.int .i64 N, .int .i64 S, .int .i64 T, .slice (some ⟨gF, 0, none⟩) (N + 1) (N + 1), .slice (some ⟨gH, 0, none⟩) M M, .slice (some ⟨gR, 0, none⟩) M M, .slice (some ⟨gC, 0, none⟩) M M, .slice (some ⟨gA, 0, none⟩) M M, .slice (some ⟨gB, 0, none⟩) M M]

/-- Its blocks, known whole. -/
structure CsrBlk (w : World) (F H R C A : List Int) (B : List Bool) (gF gH gR gC gA gB : Nat) : Prop where
  kF : Blk w gF 3 (ivs F)
  kH : Blk w gH 3 (ivs H)
  kR : Blk w gR 3 (ivs R)
  kC : Blk w gC 2 (ivs C)
  kA : Blk w gA 3 (ivs A)
  kB : Blk w gB 4 (bvs B)
  ne : gF ≠ gH ∧ gF ≠ gR ∧ gF ≠ gA ∧ gH ≠ gR ∧ gH ≠ gA ∧ gR ≠ gA

section
variable {w w' : World} {F H R C A : List Int} {B : List Bool} {gF gH gR gC gA gB : Nat}
theorem CsrBlk.diff (h : CsrBlk w F H R C A B gF gH gR gC gA gB) : gF ≠ gC ∧ gF ≠ gB ∧ gH ≠ gC ∧ gH ≠ gB ∧ gR ≠ gC ∧ gR ≠ gB ∧ gC ≠ gA ∧ gC ≠ gB ∧ gA ≠ gB :=
  ⟨h.kF.ne h.kC (by decide), h.kF.ne h.kB (by decide), h.kH.ne h.kC (by decide), h.kH.ne h.kB (by decide), h.kR.ne h.kC (by decide), h.kR.ne h.kB (by decide), h.kC.ne h.kA (by decide), h.kC.ne h.kB (by decide), h.kA.ne h.kB (by decide)⟩
theorem CsrBlk.lts (h : CsrBlk w F H R C A B gF gH gR gC gA gB) : gF < w.heap.size ∧ gH < w.heap.size ∧ gR < w.heap.size ∧ gC < w.heap.size ∧ gA < w.heap.size ∧ gB < w.heap.size :=
  ⟨h.kF.lt, h.kH.lt, h.kR.lt, h.kC.lt, h.kA.lt, h.kB.lt⟩
theorem CsrBlk.below {n : Nat} (h : CsrBlk w F H R C A B gF gH gR gC gA gB) (hb : Below n w w') (hl : gF < n ∧ gH < n ∧ gR < n ∧ gC < n ∧ gA < n ∧ gB < n) : CsrBlk w' F H R C A B gF gH gR gC gA gB :=
  ⟨h.kF.below hb hl.1, h.kH.below hb hl.2.1, h.kR.below hb hl.2.2.1, h.kC.below hb hl.2.2.2.1, h.kA.below hb hl.2.2.2.2.1, h.kB.below hb hl.2.2.2.2.2, h.ne⟩
theorem CsrBlk.on (h : CsrBlk w F H R C A B gF gH gR gC gA gB) (hb : Below w.heap.size w w') : CsrBlk w' F H R C A B gF gH gR gC gA gB := h.below hb h.lts
theorem CsrBlk.alloc (h : CsrBlk w F H R C A B gF gH gR gC gA gB) (o : Obj) : CsrBlk (w.alloc o) F H R C A B gF gH gR gC gA gB := h.on (below_alloc o)
theorem CsrBlk.drew (h : CsrBlk w F H R C A B gF gH gR gC gA gB) : CsrBlk w.drew F H R C A B gF gH gR gC gA gB := ⟨h.kF.drew, h.kH.drew, h.kR.drew, h.kC.drew, h.kA.drew, h.kB.drew, h.ne⟩
theorem CsrBlk.far (h : CsrBlk w F H R C A B gF gH gR gC gA gB) {p : Addr} (hp : gF ≠ p.block ∧ gH ≠ p.block ∧ gR ≠ p.block ∧ gC ≠ p.block ∧ gA ≠ p.block ∧ gB ≠ p.block) (u : Value) : CsrBlk (w.setCell p u) F H R C A B gF gH gR gC gA gB :=
  ⟨h.kF.far hp.1 u, h.kH.far hp.2.1 u, h.kR.far hp.2.2.1 u, h.kC.far hp.2.2.2.1 u, h.kA.far hp.2.2.2.2.1 u, h.kB.far hp.2.2.2.2.2 u, h.ne⟩
theorem CsrBlk.setH (h : CsrBlk w F H R C A B gF gH gR gC gA gB) (i : Nat) (x : Int) : CsrBlk (w.setCell ⟨gH, i, none⟩ (.int .i64 x)) F (H.set i x) R C A B gF gH gR gC gA gB := by
  obtain ⟨n1, n2, n3, n4, n5, n6⟩ := h.ne
  obtain ⟨d1, d2, d3, d4, d5, d6, d7, d8, d9⟩ := h.diff
  exact ⟨h.kF.far n1 _, h.kH.iset i x, h.kR.far n4.symm _, h.kC.far d3.symm _, h.kA.far n5.symm _, h.kB.far d4.symm _, h.ne⟩
theorem CsrBlk.setR (h : CsrBlk w F H R C A B gF gH gR gC gA gB) (i : Nat) (x : Int) : CsrBlk (w.setCell ⟨gR, i, none⟩ (.int .i64 x)) F H (R.set i x) C A B gF gH gR gC gA gB := by
  obtain ⟨n1, n2, n3, n4, n5, n6⟩ := h.ne
  obtain ⟨d1, d2, d3, d4, d5, d6, d7, d8, d9⟩ := h.diff
  exact ⟨h.kF.far n2 _, h.kH.far n4 _, h.kR.iset i x, h.kC.far d5.symm _, h.kA.far n6.symm _, h.kB.far d6.symm _, h.ne⟩
theorem CsrBlk.setC (h : CsrBlk w F H R C A B gF gH gR gC gA gB) (i : Nat) (x : Int) : CsrBlk (w.setCell ⟨gC, i, none⟩ (.int .i64 x)) F H R (C.set i x) A B gF gH gR gC gA gB := by
  obtain ⟨d1, d2, d3, d4, d5, d6, d7, d8, d9⟩ := h.diff
  exact ⟨h.kF.far d1 _, h.kH.far d3 _, h.kR.far d5 _, h.kC.iset i x, h.kA.far d7.symm _, h.kB.far d8.symm _, h.ne⟩
theorem CsrBlk.setA (h : CsrBlk w F H R C A B gF gH gR gC gA gB) (i : Nat) (x : Int) : CsrBlk (w.setCell ⟨gA, i, none⟩ (.int .i64 x)) F H R C (A.set i x) B gF gH gR gC gA gB := by
  obtain ⟨n1, n2, n3, n4, n5, n6⟩ := h.ne
  obtain ⟨d1, d2, d3, d4, d5, d6, d7, d8, d9⟩ := h.diff
  exact ⟨h.kF.far n3 _, h.kH.far n5 _, h.kR.far n6 _, h.kC.far d7 _, h.kA.iset i x, h.kB.far d9.symm _, h.ne⟩
theorem CsrBlk.setB (h : CsrBlk w F H R C A B gF gH gR gC gA gB) (i : Nat) (x : Bool) : CsrBlk (w.setCell ⟨gB, i, none⟩ (.bool x)) F H R C A (B.set i x) gF gH gR gC gA gB := by
  obtain ⟨d1, d2, d3, d4, d5, d6, d7, d8, d9⟩ := h.diff
  exact ⟨h.kF.far d2 _, h.kH.far d4 _, h.kR.far d6 _, h.kC.far d8 _, h.kA.far d9 _, h.kB.bset i x, h.ne⟩
end

set_option maxHeartbeats 4000000 in
theorem empty_any (N : Nat) (S T : Int) (A : Option Addr) (n c : Nat) (l : List ArcN) (w : World) (hA : Arcs w w.heap.size A n l) (hn : n ≤ 1000000000) (hN : N ≤ 4096) (hE : EndsIn N l) :
    Calls Try.prog 20 #[.agg #[.int .i64 N, .int .i64 S, .int .i64 T, .slice A n c]] w fun e w' =>
      ∃ gF gH gR gC gA gB, e = .returned (csrV N (firstOf l N) S T gF gH gR gC gA gB) ∧ (w.heap.size ≤ gF ∧ w.heap.size ≤ gH ∧ w.heap.size ≤ gR ∧ w.heap.size ≤ gC ∧ w.heap.size ≤ gA ∧ w.heap.size ≤ gB) ∧
        CsrBlk w' (tab (N + 1) fun v => (firstOf l v : Int)) (List.replicate (firstOf l N) 0) (List.replicate (firstOf l N) 0) (List.replicate (firstOf l N) 0) (List.replicate (firstOf l N) 0) (List.replicate (firstOf l N) false) gF gH gR gC gA gB ∧
        Below w.heap.size w w' := by
  have hM : firstOf l N ≤ 5000000000000 := by
    have h1 := firstOf_le l N; have h3 := hA.len
    have h4 := Nat.mul_le_mul (show N ≤ 4096 by omega) (show l.length ≤ 1000000000 by omega)
    omega
  generalize hMe : firstOf l N = M at hM ⊢
  obtain ⟨i0, hi, hz0, hz1, hz2⟩ := info_parts int_info
  have hmi := fun W => run_make_lit (P := Try.prog) 26 3 i0 _ Try.underlying26 hi hz0 M (by rw [hz2]; omega) (by omega) W
  rw [hz1, ivs_made] at hmi
  clear hi hz0 hz1 hz2
  obtain ⟨i1, hi, hz0, hz1, hz2⟩ := info_parts long_info
  have hml := fun W => run_make_lit (P := Try.prog) 27 2 i1 _ Try.underlying27 hi hz0 M (by rw [hz2]; omega) (by omega) W
  rw [hz1, ivs_made] at hml
  clear hi hz0 hz1 hz2
  obtain ⟨i2, hi, hz0, hz1, hz2⟩ := info_parts bool_info
  have hmb := fun W => run_make_lit (P := Try.prog) 28 4 i2 _ Try.underlying28 hi hz0 M (by rw [hz2]; omega) (by omega) W
  rw [hz1, bvs_made] at hmb
  clear hi hz0 hz1 hz2
  go_enter Try.func20, Try.ntmps20
  go_wp2_with fail
  refine (firsts_any _ _ _ _ _ _ l _ ((hA.onAlloc _).onAlloc _) hn hN hE).mono ?_
  rintro e w1 ⟨g, rfl, hg, G, B1⟩
  have K1 : Blk w1 w.heap.size 24 #[.int .i64 N, .int .i64 S, .int .i64 T, .slice A n c] := ((Blk.new rfl).alloc _).below B1 (by simp; omega)
  have K2 : Blk w1 (w.heap.size + 1) 30 #[.int .i64 0, .int .i64 0, .int .i64 0, .slice none 0 0, .slice none 0 0, .slice none 0 0, .slice none 0 0, .slice none 0 0, .slice none 0 0] := (Blk.new (by simp)).below B1 (by simp)
  have hz1 := K1.lt
  have hz2 := K2.lt
  obtain ⟨a0, a1, a2, a3, a4, a5, a6, a7, a8⟩ := K2.at9
  obtain ⟨f0, f1, f2, f3, f4, f5, f6, f7, f8⟩ := K2.free9
  obtain ⟨r0, r1, r2, r3⟩ := K1.at4
  have hgl := G.lt
  have m0 : w1.cell? ⟨g, N, none⟩ = some (.int .i64 (M : Int)) := by rw [← hMe]; exact G.iat (tab_at (by omega))
  simp at hg
  go_wp2_with fail
  refine wp_region_held (S := fun W => Below (w.heap.size + 1) w1 W ∧ W.cell? ⟨w.heap.size, 0, none⟩ = some (.int .i64 N) ∧ W.cell? ⟨w.heap.size, 1, none⟩ = some (.int .i64 S) ∧ W.cell? ⟨w.heap.size, 2, none⟩ = some (.int .i64 T)) (by kernel_rfl) ?_
  have hkeep : ∀ W, Below (w.heap.size + 1) w1 W → (Below (w.heap.size + 1) w1 W ∧ W.cell? ⟨w.heap.size, 0, none⟩ = some (.int .i64 N) ∧ W.cell? ⟨w.heap.size, 1, none⟩ = some (.int .i64 S) ∧ W.cell? ⟨w.heap.size, 2, none⟩ = some (.int .i64 T)) := fun W hb => ⟨hb, by rw [hb.cell (by simp)]; exact r0, by rw [hb.cell (by simp)]; exact r1, by rw [hb.cell (by simp)]; exact r2⟩
  have hS0 := hkeep w1.drew (Below.refl _ _).drew
  refine takeD (i := 0) (v := ?v0) (some 12) rfl rfl (by kernel_rfl) (by kernel_rfl) (by kernel_rfl) (fun _ _ _ h => h) (Or.inl ⟨by rfl, ?y0⟩) (by assumption) ?_
  case y0 =>
    intro W hSw
    go_split_ands
    go_simp
    try with_reducible rfl
  simp only [Act.put, List.setIfInBounds_toArray, List.set_cons_zero, List.set_cons_succ]
  refine takeD (i := 1) (v := ?v1) (some 13) rfl rfl (by kernel_rfl) (by kernel_rfl) (by kernel_rfl) (fun _ _ _ h => h) (Or.inl ⟨by rfl, ?y1⟩) (by assumption) ?_
  case y1 =>
    intro W hSw
    go_split_ands
    go_simp
    try with_reducible rfl
  simp only [Act.put, List.setIfInBounds_toArray, List.set_cons_zero, List.set_cons_succ]
  refine takeD (i := 2) (v := ?v2) (some 14) rfl rfl (by kernel_rfl) (by kernel_rfl) (by kernel_rfl) (fun _ _ _ h => h) (Or.inl ⟨by rfl, ?y2⟩) (by assumption) ?_
  case y2 =>
    intro W hSw
    go_split_ands
    go_simp
    try with_reducible rfl
  simp only [Act.put, List.setIfInBounds_toArray, List.set_cons_zero, List.set_cons_succ]
  refine takeD (i := 3) (v := ?v3) (some 15) rfl rfl (by kernel_rfl) (by kernel_rfl) (by kernel_rfl) (fun _ _ _ h => h) (Or.inl ⟨by rfl, ?y3⟩) (by assumption) ?_
  case y3 =>
    intro W hSw
    go_split_ands
    go_simp
    try with_reducible rfl
  simp only [Act.put, List.setIfInBounds_toArray, List.set_cons_zero, List.set_cons_succ]
  refine takeD (i := 4) (v := ?v4) (some 16) rfl rfl (by kernel_rfl) (by kernel_rfl) (by kernel_rfl) (fun _ _ _ h => h) (Or.inl ⟨by rfl, ?y4⟩) (by assumption) ?_
  case y4 =>
    intro W hSw
    go_split_ands
    go_simp
    try with_reducible rfl
  simp only [Act.put, List.setIfInBounds_toArray, List.set_cons_zero, List.set_cons_succ]
  refine takeD (i := 5) (v := ?v5) (some 17) rfl rfl (by kernel_rfl) (by kernel_rfl) (by kernel_rfl) (fun _ _ _ h => h) (Or.inl ⟨by rfl, ?y5⟩) (by assumption) ?_
  case y5 =>
    intro W hSw
    go_split_ands
    go_simp
    try with_reducible rfl
  simp only [Act.put, List.setIfInBounds_toArray, List.set_cons_zero, List.set_cons_succ]
  refine takeD (i := 6) (v := ?v6) (some 18) rfl rfl (by kernel_rfl) (by kernel_rfl) (by kernel_rfl) (fun _ _ _ h => h) (Or.inl ⟨by rfl, ?y6⟩) (by assumption) ?_
  case y6 =>
    intro W hSw
    go_split_ands
    go_simp
    try with_reducible rfl
  simp only [Act.put, List.setIfInBounds_toArray, List.set_cons_zero, List.set_cons_succ]
  refine takeD (i := 7) (v := ?v7) (some 19) rfl rfl (by kernel_rfl) (by kernel_rfl) (by kernel_rfl) (fun _ _ _ h => h) (Or.inl ⟨by rfl, ?y7⟩) (by assumption) ?_
  case y7 =>
    intro W hSw
    go_split_ands
    go_simp
    try with_reducible rfl
  simp only [Act.put, List.setIfInBounds_toArray, List.set_cons_zero, List.set_cons_succ]
  refine takeD (i := 9) (v := ?v9) (some 21) rfl rfl (by kernel_rfl) (by kernel_rfl) (by kernel_rfl) (fun _ _ _ h => h) (Or.inl ⟨by rfl, ?y9⟩) (by assumption) ?_
  case y9 =>
    intro W hSw
    go_split_ands
    go_simp
    try with_reducible rfl
  simp only [Act.put, List.setIfInBounds_toArray, List.set_cons_zero, List.set_cons_succ]
  refine takeD (i := 11) (v := ?v11) (some 23) rfl rfl (by kernel_rfl) (by kernel_rfl) (by kernel_rfl) (fun _ _ _ h => h) (Or.inl ⟨by rfl, ?y11⟩) (by assumption) ?_
  case y11 =>
    intro W hSw
    go_split_ands
    go_simp
    try with_reducible rfl
  simp only [Act.put, List.setIfInBounds_toArray, List.set_cons_zero, List.set_cons_succ]
  refine takeD (i := 13) (v := ?v13) (some 25) rfl rfl (by kernel_rfl) (by kernel_rfl) (by kernel_rfl) (fun _ _ _ h => h) (Or.inl ⟨by rfl, ?y13⟩) (by assumption) ?_
  case y13 =>
    intro W hSw
    go_split_ands
    go_simp
    try with_reducible rfl
  simp only [Act.put, List.setIfInBounds_toArray, List.set_cons_zero, List.set_cons_succ]
  refine takeD (i := 15) (v := ?v15) (some 27) rfl rfl (by kernel_rfl) (by kernel_rfl) (by kernel_rfl) (fun _ _ _ h => h) (Or.inl ⟨by rfl, ?y15⟩) (by assumption) ?_
  case y15 =>
    intro W hSw
    go_split_ands
    go_simp
    try with_reducible rfl
  simp only [Act.put, List.setIfInBounds_toArray, List.set_cons_zero, List.set_cons_succ]
  refine wpAnyH_makes5 (fuel := 2) 8 10 12 14 16 (fun k => [8, 10, 12, 14, 16].getD k 0) (fun k => .tmp ([19, 21, 23, 25, 27].getD k 0)) (fun k => [20, 22, 24, 26, 28].getD k 0) (fun _ => M)
    (fun b0 b1 b2 b3 b4 => #[true, true, true, true, true, true, true, true, b0, true, b1, true, b2, true, b3, true, b4, false, false])
    (T := fun k => [26, 26, 27, 26, 28].getD k 0) (E := fun k => [3, 3, 2, 3, 4].getD k 0)
    (C := fun k => [ivs (List.replicate M 0), ivs (List.replicate M 0), ivs (List.replicate M 0), ivs (List.replicate M 0), bvs (List.replicate M false)].getD k #[])
    ⟨rfl, rfl, rfl, rfl, rfl⟩ (by kernel_rfl) ?_ ?_ ?_ ?_ ?_ ?_ (by decide +kernel) ?_ ?_
  · intro k hk
    match k, hk with
    | 0, _ => exact ⟨_, rfl, rfl, rfl, rfl⟩
    | 1, _ => exact ⟨_, rfl, rfl, rfl, rfl⟩
    | 2, _ => exact ⟨_, rfl, rfl, rfl, rfl⟩
    | 3, _ => exact ⟨_, rfl, rfl, rfl, rfl⟩
    | 4, _ => exact ⟨_, rfl, rfl, rfl, rfl⟩
  · intro k hk
    match k, hk with
    | 0, _ => rfl
    | 1, _ => rfl
    | 2, _ => rfl
    | 3, _ => rfl
    | 4, _ => rfl
  · intro k j hk hj h
    injection h with h
    revert h
    have : ∀ k, k < 5 → ∀ j, j < 5 → ([19, 21, 23, 25, 27] : List Nat).getD k 0 ≠ ([20, 22, 24, 26, 28] : List Nat).getD j 0 := by decide
    exact this k hk j hj
  · have : ∀ i, i < 5 → ∀ j, j < 5 → ([20, 22, 24, 26, 28] : List Nat).getD i 0 = ([20, 22, 24, 26, 28] : List Nat).getD j 0 → i = j := by decide
    exact fun i j hi hj h => this i hi j hj h
  · intro k hk W
    match k, hk with
    | 0, _ => exact hmi W
    | 1, _ => exact hmi W
    | 2, _ => exact hml W
    | 3, _ => exact hmi W
    | 4, _ => exact hmb W
  · intro b0 b1 b2 b3 b4
    exact ⟨rfl, rfl, rfl, rfl, rfl⟩
  · intro W hb
    exact hkeep W ((Below.refl _ _).drew.trans (hb.mono (by show w.heap.size + 1 ≤ w1.heap.size; omega)))
  · intro gH gR gC gA gB W hb h1 h2 h3 h4 h5 KH KR KC KA KB n1 n2 n3 n4 n5 n6 n7 n8 n9 n10
    have hb' : Below (w.heap.size + 1) w1 W := (Below.refl _ _).drew.trans (hb.mono (by show w.heap.size + 1 ≤ w1.heap.size; omega))
    have KZ : Blk W (w.heap.size + 1) 30 #[.int .i64 0, .int .i64 0, .int .i64 0, .slice none 0 0, .slice none 0 0, .slice none 0 0, .slice none 0 0, .slice none 0 0, .slice none 0 0] := (show Blk w1.drew _ _ _ from K2).below hb hz2
    have KF : Blk W g 3 (ivs (tab (N + 1) fun v => (firstOf l v : Int))) := (show Blk w1.drew _ _ _ from G).below hb hgl
    have hS1 := hkeep W hb'
    clear a0 a1 a2 a3 a4 a5 a6 a7 a8 f0 f1 f2 f3 f4 f5 f6 f7 f8 r0 r1 r2 r3 m0 hS0
    obtain ⟨a0, a1, a2, a3, a4, a5, a6, a7, a8⟩ := KZ.at9
    obtain ⟨f0, f1, f2, f3, f4, f5, f6, f7, f8⟩ := KZ.free9
    simp only [Act.put, List.getD_cons_zero, List.getD_cons_succ, List.setIfInBounds_toArray, List.set_cons_zero, List.set_cons_succ]
    refine takeD (i := 17) (v := ?v17) (some 29) rfl rfl (by kernel_rfl) (by kernel_rfl) (by kernel_rfl) (fun _ _ _ h => h) (Or.inl ⟨by rfl, ?y17⟩) (by assumption) ?_
    case y17 =>
      intro W hSw
      go_split_ands
      go_simp
      try with_reducible rfl
    simp only [Act.put, List.setIfInBounds_toArray, List.set_cons_zero, List.set_cons_succ]
    refine wpAnyH_ready (rs := [18]) (by kernel_rfl) (by simp) ?_
    refine AllReadyH.cons rfl (fun K hK => ?_) AllReadyH.nil
    go_simp
    refine hK.out _ _ ?_ (fun hHeld => ?_)
    · exact hkeep _ (((((((((hb'.setCell (by simp) _).setCell (by simp) _).setCell (by simp) _).setCell (by simp) _).setCell (by simp) _).setCell (by simp) _).setCell (by simp) _).setCell (by simp) _).setCell (by simp) _)
    refine wpAnyH_done (by kernel_rfl) ?_ _
    have KQ := KZ.set9 (.int .i64 N) (.int .i64 S) (.int .i64 T) (.slice (some ⟨g, 0, none⟩) (N + 1) (N + 1)) (.slice (some ⟨gH, 0, none⟩) M M) (.slice (some ⟨gR, 0, none⟩) M M) (.slice (some ⟨gC, 0, none⟩) M M) (.slice (some ⟨gA, 0, none⟩) M M) (.slice (some ⟨gB, 0, none⟩) M M)
    obtain ⟨q0, q1, q2, q3, q4, q5, q6, q7, q8⟩ := KQ.at9
    have hzz : w1.heap.size ≤ gH ∧ w1.heap.size ≤ gR ∧ w1.heap.size ≤ gC ∧ w1.heap.size ≤ gA ∧ w1.heap.size ≤ gB := ⟨h1, h2, h3, h4, h5⟩
    clear hkeep hS1 hHeld
    have CB : CsrBlk W (tab (N + 1) fun v => (firstOf l v : Int)) (List.replicate M 0) (List.replicate M 0) (List.replicate M 0) (List.replicate M 0) (List.replicate M false) g gH gR gC gA gB := ⟨KF, KH, KR, KC, KA, KB, by omega, by omega, by omega, n1, n3, n6⟩
    have hf : g ≠ w.heap.size + 1 ∧ gH ≠ w.heap.size + 1 ∧ gR ≠ w.heap.size + 1 ∧ gC ≠ w.heap.size + 1 ∧ gA ≠ w.heap.size + 1 ∧ gB ≠ w.heap.size + 1 := by omega
    show Exit.then _ _ _ _ _
    go_wp2_with fail
    refine bodyPost_ret (v := csrV N M S T g gH gR gC gA gB) (by simp [results, Try.results20, go_sem, q0, q1, q2, q3, q4, q5, q6, q7, q8]) rfl ⟨g, gH, gR, gC, gA, gB, rfl, by omega, ?_, ?_⟩
    · exact ((((((((CB.far hf _).far hf _).far hf _).far hf _).far hf _).far hf _).far hf _).far hf _).far hf _
    · have hbw : Below w.heap.size w w1 := ((below_alloc _).alloc (by simp) _).trans (B1.mono (by simp; omega))
      have hbW : Below w.heap.size w W := hbw.trans (hb'.mono (by omega))
      exact ((((((((hbW.setCell (by simp) _).setCell (by simp) _).setCell (by simp) _).setCell (by simp) _).setCell (by simp) _).setCell (by simp) _).setCell (by simp) _).setCell (by simp) _).setCell (by simp) _

end Go.Proofs.Ytbmndghgmndgmaa
