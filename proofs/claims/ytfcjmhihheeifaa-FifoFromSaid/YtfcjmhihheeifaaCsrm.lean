/- Layer 2: Make. -/
import Derived.Test.YtfcjmhihheeifaaCells
import Derived.Test.YtfcjmhihheeifaaGround
import Derived.Test.YtfcjmhihheeifaaFacts
import Derived.RegionTactic
import Derived.Deep.RegionHeld3
import Derived.Laws.ResultCell
/-! Layer 2: small functions. -/
namespace Go.Proofs.Ytfcjmhihheeifaa
open Go.RowKit

set_option maxHeartbeats 400000 in
theorem isLoop_any (a : ArcN) (w : World) :
    Calls Try.prog 81 #[.agg #[.int .i64 a.frm, .int .i64 a.to, .int .i64 a.cap]] w fun e w' => e = .returned (.bool (decide (a.frm = a.to))) ∧ Below w.heap.size w w' := by
  go_enter Try.func81, Try.ntmps81
  go_wp2
  all_goals go_ret
  all_goals refine ⟨ret_bool ?_, below_alloc _⟩
  all_goals (rw [Bool.eq_iff_iff]; simp)

set_option maxHeartbeats 400000 in
theorem isIndex_any (i n : Int) (w : World) :
    Calls Try.prog 89 #[.int .i64 i, .int .i64 n] w fun e w' => e = .returned (.bool (decide (0 ≤ i ∧ i < n))) ∧ w' = w := by
  go_enter Try.func89, Try.ntmps89
  go_wp2
  all_goals go_ret
  all_goals refine ⟨ret_bool ?_, rfl⟩
  all_goals (simp; try omega)

end Go.Proofs.Ytfcjmhihheeifaa

/-! Layer 2: where rows begin. -/
namespace Go.Proofs.Ytfcjmhihheeifaa
open Go.RowKit

/-- The counts, while the arcs are gone through. -/
def cntTo (l : List ArcN) (k : Nat) : Nat → Int
  | 0 => 0
  | v + 1 => (deg (l.take k) (v : Int) : Int)
/-- The sums, while the vertices are gone through. -/
def fstTo (l : List ArcN) (k v : Nat) : Int := if v ≤ k then (firstOf l v : Int) else cntTo l l.length v

theorem cnt_zero (l : List ArcN) (n : Nat) : List.replicate n (0 : Int) = tab n (cntTo l 0) := by
  refine tab_ext (by simp) fun i hi => ?_
  cases i with
  | zero => simp [cntTo, hi]
  | succ i => simp [cntTo, deg, hi]
theorem cnt_loop {l : List ArcN} {k : Nat} {a : ArcN} (n : Nat) (h : l[k]? = some a) (he : a.frm = a.to) : tab n (cntTo l k) = tab n (cntTo l (k + 1)) := by
  refine tab_congr fun i _ => ?_
  cases i with
  | zero => rfl
  | succ i => simp [cntTo, deg_take_succ h, touch, he]
theorem cnt_step {l : List ArcN} {k f t : Nat} {c : Int} (n : Nat) (h : l[k]? = some ⟨(f : Int), (t : Int), c⟩) (he : f ≠ t) :
    ((tab n (cntTo l k)).set (f + 1) ((deg (l.take k) f : Int) + 1)).set (t + 1) ((deg (l.take k) t : Int) + 1) = tab n (cntTo l (k + 1)) := by
  rw [tab_set, tab_set]
  refine tab_congr fun i _ => ?_
  have he' : (f : Int) ≠ (t : Int) := by omega
  cases i with
  | zero => simp [cntTo]
  | succ i =>
    simp only [cntTo, deg_take_succ h, touch, Nat.add_right_cancel_iff]
    by_cases h1 : i = t
    · subst h1; simp [he']
    · by_cases h2 : i = f
      · subst h2; simp [he', he]
      · have h3 : (f : Int) ≠ (i : Int) := by omega
        have h4 : (t : Int) ≠ (i : Int) := by omega
        simp [h1, h2, h3, h4]
theorem fst_zero {l : List ArcN} {n m : Nat} (hl : l.length = n) (hk : ¬ m < n) : cntTo l m = fstTo l 0 := by
  funext v
  unfold fstTo
  cases v with
  | zero => simp [cntTo, firstOf]
  | succ v => simp [cntTo, List.take_of_length_le (show l.length ≤ m by omega)]
theorem fst_step (l : List ArcN) (n k : Nat) : (tab n (fstTo l k)).set (k + 1) ((deg l k : Int) + (firstOf l k : Int)) = tab n (fstTo l (k + 1)) := by
  rw [tab_set]
  refine tab_congr fun i _ => ?_
  by_cases h : i = k + 1
  · subst h; simp [fstTo, firstOf]; omega
  · rw [if_neg h]
    unfold fstTo
    by_cases h1 : i ≤ k
    · rw [if_pos h1, if_pos (by omega)]
    · rw [if_neg h1, if_neg (by omega)]
theorem fst_end {l : List ArcN} {N k : Nat} (hk : ¬ k < N) : tab (N + 1) (fstTo l k) = tab (N + 1) (fun v => (firstOf l v : Int)) :=
  tab_congr fun i hi => by unfold fstTo; rw [if_pos (by omega)]

set_option maxHeartbeats 1000000 in
theorem firsts_any (N : Nat) (S T : Int) (A : Option Addr) (n c : Nat) (l : List ArcN) (w : World) (hA : Arcs w w.heap.size A n l) (hn : n ≤ 1000000000) (hN : N ≤ 4096) (hE : EndsIn N l) :
    Calls Try.prog 78 #[.agg #[.int .i64 N, .int .i64 S, .int .i64 T, .slice A n c]] w fun e w' => ∃ g, e = .returned (.slice (some ⟨g, 0, none⟩) (N + 1) (N + 1)) ∧ w.heap.size ≤ g ∧
      Blk w' g 3 (ivs (tab (N + 1) (fun v => (firstOf l v : Int)))) ∧ Below w.heap.size w w' := by
  obtain ⟨i0, hi, hz0, hz1, hz2⟩ := info_parts int_info
  have hmk := fun W => run_make_lit (P := Try.prog) 43 3 i0 _ Try.underlying43 hi hz0 (N + 1) (by rw [hz2]; omega) (by omega) W
  rw [hz1, ivs_made, cnt_zero l] at hmk
  simp only [Int.natCast_add, Int.natCast_one] at hmk
  clear hi hz0 hz1 hz2
  go_enter Try.func78, Try.ntmps78
  go_wp2_with fail
  go_loopw [4, 5, 14] (fun _ _ i wr => ∃ k : Nat, k ≤ n ∧ i = .int .i64 k ∧ Below w.heap.size w wr ∧ Blk wr w.heap.size 24 #[.int .i64 N, .int .i64 S, .int .i64 T, .slice A n c] ∧
    Blk wr (w.heap.size + 1) 3 (ivs (tab (N + 1) (cntTo l k)))) (fun _ _ i _ => n - (intOf i).toNat)
  case atStart =>
    exact ⟨0, Nat.zero_le _, rfl, (below_alloc _).alloc (by simp) _, (Blk.new rfl).alloc _, Blk.new (by simp)⟩
  case round =>
    obtain ⟨k, hk, rfl, hb, K1, K2⟩ := hrel
    have hz1 := K1.lt
    have hz2 := K2.lt
    obtain ⟨r0, r1, r2, r3⟩ := K1.at4
    clear hmk
    by_cases hlt : k < n
    · obtain ⟨b, off, ⟨x, y, z⟩, rfl, hbl, hla, d0, d1, d2⟩ := arcs_at (hA.below hb) hlt
      have hx := hE _ (mem_at hla)
      simp only at d0 d1 d2 hx
      obtain ⟨f, rfl⟩ := Int.eq_ofNat_of_zero_le hx.1
      obtain ⟨t, rfl⟩ := Int.eq_ofNat_of_zero_le hx.2.2.1
      have hf : f < N := by omega
      have ht : t < N := by omega
      have HL := Lib.hid hla; clear hla hx
      by_cases hft : f = t
      · have hloop := fun W => isLoop_any ⟨(f : Int), (t : Int), z⟩ W
        simp only [hft, decide_true] at hloop
        subst hft
        go_wp2_with fail
        refine (hloop _).mono ?_
        rintro e w1 ⟨rfl, B1⟩
        go_wp2_with fail
        go_roundw
        case rel =>
          refine ⟨k + 1, by omega, by go_num, below_step (hb.alloc hb.size _) B1, (K1.alloc _).below B1 (K1.alloc _).lt, ?_⟩
          rw [← cnt_loop _ HL.out rfl]
          exact (K2.alloc _).below B1 (K2.alloc _).lt
        case measure => simp [intOf]; omega
      · have hloop := fun W => isLoop_any ⟨(f : Int), (t : Int), z⟩ W
        simp only [show ¬ (f : Int) = (t : Int) by omega, decide_false] at hloop
        go_wp2_with fail
        refine (hloop _).mono ?_
        rintro e w1 ⟨rfl, B1⟩
        have E : Blk w1 wr.heap.size 64 #[.int .i64 f, .int .i64 t, .int .i64 z] := (Blk.new rfl).below B1 (by simp)
        have e0 := E.cell 0; have e1 := E.cell 1; have e2 := E.cell 2
        simp only [List.getElem?_toArray, List.getElem?_cons_zero, List.getElem?_cons_succ] at e0 e1 e2
        have M1 := (K1.alloc (.cells #[.int .i64 f, .int .i64 t, .int .i64 z] 64)).below B1 (K1.alloc _).lt
        have M2 := (K2.alloc (.cells #[.int .i64 f, .int .i64 t, .int .i64 z] 64)).below B1 (K2.alloc _).lt
        have m0 : w1.cell? ⟨w.heap.size + 1, f + 1, none⟩ = some (.int .i64 (deg (l.take k) f : Int)) := M2.iat (tab_at (g := cntTo l k) (i := f + 1) (by omega))
        have m1 : w1.cell? ⟨w.heap.size + 1, t + 1, none⟩ = some (.int .i64 (deg (l.take k) t : Int)) := M2.iat (tab_at (g := cntTo l k) (i := t + 1) (by omega))
        have n0 := M2.frozen (f + 1); have n1 := M2.frozen (t + 1)
        have g0 : deg (l.take k) f ≤ 1000000000 := by have h1 := deg_take_le l k f; have h2 := deg_le l f; have h3 := hA.len; omega
        have g1 : deg (l.take k) t ≤ 1000000000 := by have h1 := deg_take_le l k t; have h2 := deg_le l t; have h3 := hA.len; omega
        have zz : w.heap.size + 1 < w1.heap.size := M2.lt
        have zy : wr.heap.size < w1.heap.size := E.lt
        have hne : wr.heap.size ≠ w.heap.size + 1 := by omega
        go_wp2_with fail
        go_roundw
        case rel =>
          refine ⟨k + 1, by omega, by go_num, ?_, ?_, ?_⟩
          · exact ((below_step (hb.alloc hb.size _) B1).setCell (by simp) _).setCell (by simp) _
          · exact (M1.far (by simp) _).far (by simp) _
          · rw [← cnt_step _ HL.out hft]
            exact (M2.iset _ _).iset _ _
        case measure => simp [intOf]; omega
    · have K3 := K2
      rw [fst_zero hA.len hlt] at K3
      clear K2
      go_wp2_with fail
      go_loopw [6, 44] (fun _ i wr => ∃ k : Nat, k ≤ N ∧ i = .int .i64 k ∧ Below w.heap.size w wr ∧ Blk wr (w.heap.size + 1) 3 (ivs (tab (N + 1) (fstTo l k)))) (fun _ i _ => N - (intOf i).toNat)
      case atStart => exact ⟨0, Nat.zero_le _, rfl, hb, K3⟩
      case round =>
        obtain ⟨j, hj, rfl, hb2, K4⟩ := hrel
        by_cases hlt2 : j < N
        · have m0 : wr.cell? ⟨w.heap.size + 1, j, none⟩ = some (.int .i64 (firstOf l j : Int)) := by
            have := K4.iat (tab_at (g := fstTo l j) (i := j) (by omega))
            simpa [fstTo] using this
          have m1 : wr.cell? ⟨w.heap.size + 1, j + 1, none⟩ = some (.int .i64 (deg l j : Int)) := by
            have := K4.iat (tab_at (g := fstTo l j) (i := j + 1) (by omega))
            simpa [fstTo, cntTo, show ¬ j + 1 ≤ j by omega] using this
          have n1 := K4.frozen (j + 1)
          have g0 : firstOf l j ≤ 5000000000000 := by
            have h1 := firstOf_le l j; have h3 := hA.len
            have h4 := Nat.mul_le_mul (show j ≤ 4096 by omega) (show l.length ≤ 1000000000 by omega)
            omega
          have g1 : deg l j ≤ 1000000000 := by have h2 := deg_le l j; have h3 := hA.len; omega
          go_wp2_with fail
          go_region
          go_wp2_with fail
          go_roundw
          case rel =>
            refine ⟨j + 1, by omega, by go_num, (hb2.setCell (by simp) _).drew, ?_⟩
            rw [← fst_step]
            exact (K4.iset _ _).drew
          case measure => simp [intOf]; omega
        · go_wp2_with fail
          go_ret
          exact ⟨_, rfl, by omega, by rw [← fst_end hlt2]; exact K4, hb2⟩

end Go.Proofs.Ytfcjmhihheeifaa

/-! Layer 2: slices.Clone. -/
namespace Go.Proofs.Ytfcjmhihheeifaa
open Go.RowKit

set_option maxHeartbeats 1000000 in
theorem clone_any (g n c : Nat) (L : List Int) (w : World) (hA : Ints w w.heap.size (some ⟨g, 0, none⟩) n L) (hn : n ≤ 1000000000) :
    Calls Try.prog 79 #[.slice (some ⟨g, 0, none⟩) n c] w fun e w' => ∃ A c', e = .returned (.slice A n c') ∧ w'.ownsRow w.heap.size 3 1 (.slice A n c') n (L.flatMap intCells) ∧ Below w.heap.size w w' := by
  obtain ⟨i0, hi, hz0, hz1, hz2⟩ := info_parts int_info
  have HI := Lib.hid hi; have HZ0 := Lib.hid hz0; have HZ1 := Lib.hid hz1; have HZ2 := Lib.hid hz2
  clear hi hz0 hz1 hz2
  have q22 : ∀ (w : World) (a : Option Addr) (n c n' c' : Nat), (binOp .eql 43 (.slice a n c) (.slice none n' c')).run Try.prog w = .ok (.bool a.isNone) w := fun w a n c n' c' => Lib.run_eql_slice_nil w _ _ a n c n' c' Try.underlying43
  go_enter Try.func79, Try.ntmps79
  go_wp2_with (at_builtin; refine wpList_append_row _ rfl (.tmp 5) (.tmp 6) _ rfl w.heap.size 3 i0 _ 1 8 Try.underlying43 HI.out HZ0.out HZ1.out HZ2.out rfl (by omega) (some ⟨w.heap.size, 0, none⟩) 0 0 [] rfl (World.ownsRow_made w #[] 0 (Nat.le_refl _) (Nat.zero_le _) rfl) (some ⟨g, 0, none⟩) n c (L.flatMap intCells) rfl ?_ ?_ int_one ?_ ?_ ?_ ?_)
  · rw [flat_len (int_len L), hA.len]
  · exact RdBy.src (int_len L) (hA.below (below_alloc _))
  · unfold maxLen; omega
  · omega
  · simp
  · intro A2 c2 w2 HO2 hg HX
    go_wp2
    go_ret
    refine ⟨A2, c2, by simp, by simpa using HO2.out, (below_alloc _).grown hg (by simp) (by intro k hk; simp [Value.ownBlock] at hk; omega)⟩

end Go.Proofs.Ytfcjmhihheeifaa

/-! Layer 2: a residual network with nothing in it yet. -/
namespace Go.Proofs.Ytfcjmhihheeifaa
open Go.RowKit

/-- A residual network's value. -/
abbrev csrV (N M : Nat) (S T : Int) (gF gH gR gC gA gB : Nat) : Value :=
  .agg #[.int .i64 N, .int .i64 S, .int .i64 T, .slice (some ⟨gF, 0, none⟩) (N + 1) (N + 1), .slice (some ⟨gH, 0, none⟩) M M, .slice (some ⟨gR, 0, none⟩) M M, .slice (some ⟨gC, 0, none⟩) M M, .slice (some ⟨gA, 0, none⟩) M M, .slice (some ⟨gB, 0, none⟩) M M]

/-- Its blocks, known whole. -/
structure CsrBlk (w : World) (F H R C A : List Int) (B : List Bool) (gF gH gR gC gA gB : Nat) : Prop where
  kF : Blk w gF 3 (ivs F)
  kH : Blk w gH 3 (ivs H)
  kR : Blk w gR 3 (ivs R)
  kC : Blk w gC 2 (ivs C)
  kA : Blk w gA 3 (ivs A)
  kB : Blk w gB 4 (bvs B)
  ne : gF ≠ gH ∧ gF ≠ gR ∧ gF ≠ gA ∧ gH ≠ gR ∧ gH ≠ gA ∧ gR ≠ gA

section
variable {w w' : World} {F H R C A : List Int} {B : List Bool} {gF gH gR gC gA gB : Nat}
theorem CsrBlk.diff (h : CsrBlk w F H R C A B gF gH gR gC gA gB) : gF ≠ gC ∧ gF ≠ gB ∧ gH ≠ gC ∧ gH ≠ gB ∧ gR ≠ gC ∧ gR ≠ gB ∧ gC ≠ gA ∧ gC ≠ gB ∧ gA ≠ gB :=
  ⟨h.kF.ne h.kC (by decide), h.kF.ne h.kB (by decide), h.kH.ne h.kC (by decide), h.kH.ne h.kB (by decide), h.kR.ne h.kC (by decide), h.kR.ne h.kB (by decide), h.kC.ne h.kA (by decide), h.kC.ne h.kB (by decide), h.kA.ne h.kB (by decide)⟩
theorem CsrBlk.lts (h : CsrBlk w F H R C A B gF gH gR gC gA gB) : gF < w.heap.size ∧ gH < w.heap.size ∧ gR < w.heap.size ∧ gC < w.heap.size ∧ gA < w.heap.size ∧ gB < w.heap.size :=
  ⟨h.kF.lt, h.kH.lt, h.kR.lt, h.kC.lt, h.kA.lt, h.kB.lt⟩
theorem CsrBlk.below {n : Nat} (h : CsrBlk w F H R C A B gF gH gR gC gA gB) (hb : Below n w w') (hl : gF < n ∧ gH < n ∧ gR < n ∧ gC < n ∧ gA < n ∧ gB < n) : CsrBlk w' F H R C A B gF gH gR gC gA gB :=
  ⟨h.kF.below hb hl.1, h.kH.below hb hl.2.1, h.kR.below hb hl.2.2.1, h.kC.below hb hl.2.2.2.1, h.kA.below hb hl.2.2.2.2.1, h.kB.below hb hl.2.2.2.2.2, h.ne⟩
theorem CsrBlk.on (h : CsrBlk w F H R C A B gF gH gR gC gA gB) (hb : Below w.heap.size w w') : CsrBlk w' F H R C A B gF gH gR gC gA gB := h.below hb h.lts
theorem CsrBlk.alloc (h : CsrBlk w F H R C A B gF gH gR gC gA gB) (o : Obj) : CsrBlk (w.alloc o) F H R C A B gF gH gR gC gA gB := h.on (below_alloc o)
theorem CsrBlk.drew (h : CsrBlk w F H R C A B gF gH gR gC gA gB) : CsrBlk w.drew F H R C A B gF gH gR gC gA gB := ⟨h.kF.drew, h.kH.drew, h.kR.drew, h.kC.drew, h.kA.drew, h.kB.drew, h.ne⟩
theorem CsrBlk.far (h : CsrBlk w F H R C A B gF gH gR gC gA gB) {p : Addr} (hp : gF ≠ p.block ∧ gH ≠ p.block ∧ gR ≠ p.block ∧ gC ≠ p.block ∧ gA ≠ p.block ∧ gB ≠ p.block) (u : Value) : CsrBlk (w.setCell p u) F H R C A B gF gH gR gC gA gB :=
  ⟨h.kF.far hp.1 u, h.kH.far hp.2.1 u, h.kR.far hp.2.2.1 u, h.kC.far hp.2.2.2.1 u, h.kA.far hp.2.2.2.2.1 u, h.kB.far hp.2.2.2.2.2 u, h.ne⟩
theorem CsrBlk.setH (h : CsrBlk w F H R C A B gF gH gR gC gA gB) (i : Nat) (x : Int) : CsrBlk (w.setCell ⟨gH, i, none⟩ (.int .i64 x)) F (H.set i x) R C A B gF gH gR gC gA gB := by
  obtain ⟨n1, n2, n3, n4, n5, n6⟩ := h.ne
  obtain ⟨d1, d2, d3, d4, d5, d6, d7, d8, d9⟩ := h.diff
  exact ⟨h.kF.far n1 _, h.kH.iset i x, h.kR.far n4.symm _, h.kC.far d3.symm _, h.kA.far n5.symm _, h.kB.far d4.symm _, h.ne⟩
theorem CsrBlk.setR (h : CsrBlk w F H R C A B gF gH gR gC gA gB) (i : Nat) (x : Int) : CsrBlk (w.setCell ⟨gR, i, none⟩ (.int .i64 x)) F H (R.set i x) C A B gF gH gR gC gA gB := by
  obtain ⟨n1, n2, n3, n4, n5, n6⟩ := h.ne
  obtain ⟨d1, d2, d3, d4, d5, d6, d7, d8, d9⟩ := h.diff
  exact ⟨h.kF.far n2 _, h.kH.far n4 _, h.kR.iset i x, h.kC.far d5.symm _, h.kA.far n6.symm _, h.kB.far d6.symm _, h.ne⟩
theorem CsrBlk.setC (h : CsrBlk w F H R C A B gF gH gR gC gA gB) (i : Nat) (x : Int) : CsrBlk (w.setCell ⟨gC, i, none⟩ (.int .i64 x)) F H R (C.set i x) A B gF gH gR gC gA gB := by
  obtain ⟨d1, d2, d3, d4, d5, d6, d7, d8, d9⟩ := h.diff
  exact ⟨h.kF.far d1 _, h.kH.far d3 _, h.kR.far d5 _, h.kC.iset i x, h.kA.far d7.symm _, h.kB.far d8.symm _, h.ne⟩
theorem CsrBlk.setA (h : CsrBlk w F H R C A B gF gH gR gC gA gB) (i : Nat) (x : Int) : CsrBlk (w.setCell ⟨gA, i, none⟩ (.int .i64 x)) F H R C (A.set i x) B gF gH gR gC gA gB := by
  obtain ⟨n1, n2, n3, n4, n5, n6⟩ := h.ne
  obtain ⟨d1, d2, d3, d4, d5, d6, d7, d8, d9⟩ := h.diff
  exact ⟨h.kF.far n3 _, h.kH.far n5 _, h.kR.far n6 _, h.kC.far d7 _, h.kA.iset i x, h.kB.far d9.symm _, h.ne⟩
theorem CsrBlk.setB (h : CsrBlk w F H R C A B gF gH gR gC gA gB) (i : Nat) (x : Bool) : CsrBlk (w.setCell ⟨gB, i, none⟩ (.bool x)) F H R C A (B.set i x) gF gH gR gC gA gB := by
  obtain ⟨d1, d2, d3, d4, d5, d6, d7, d8, d9⟩ := h.diff
  exact ⟨h.kF.far d2 _, h.kH.far d4 _, h.kR.far d6 _, h.kC.far d8 _, h.kA.far d9 _, h.kB.bset i x, h.ne⟩
end

set_option maxHeartbeats 4000000 in
theorem empty_any (N : Nat) (S T : Int) (A : Option Addr) (n c : Nat) (l : List ArcN) (w : World) (hA : Arcs w w.heap.size A n l) (hn : n ≤ 1000000000) (hN : N ≤ 4096) (hE : EndsIn N l) :
    Calls Try.prog 41 #[.agg #[.int .i64 N, .int .i64 S, .int .i64 T, .slice A n c]] w fun e w' =>
      ∃ gF gH gR gC gA gB, e = .returned (csrV N (firstOf l N) S T gF gH gR gC gA gB) ∧ (w.heap.size ≤ gF ∧ w.heap.size ≤ gH ∧ w.heap.size ≤ gR ∧ w.heap.size ≤ gC ∧ w.heap.size ≤ gA ∧ w.heap.size ≤ gB) ∧
        CsrBlk w' (tab (N + 1) fun v => (firstOf l v : Int)) (List.replicate (firstOf l N) 0) (List.replicate (firstOf l N) 0) (List.replicate (firstOf l N) 0) (List.replicate (firstOf l N) 0) (List.replicate (firstOf l N) false) gF gH gR gC gA gB ∧
        Below w.heap.size w w' := by
  have hM : firstOf l N ≤ 5000000000000 := by
    have h1 := firstOf_le l N; have h3 := hA.len
    have h4 := Nat.mul_le_mul (show N ≤ 4096 by omega) (show l.length ≤ 1000000000 by omega)
    omega
  generalize hMe : firstOf l N = M at hM ⊢
  obtain ⟨i0, hi, hz0, hz1, hz2⟩ := info_parts int_info
  have hmi := fun W => run_make_lit (P := Try.prog) 43 3 i0 _ Try.underlying43 hi hz0 M (by rw [hz2]; omega) (by omega) W
  rw [hz1, ivs_made] at hmi
  clear hi hz0 hz1 hz2
  obtain ⟨i1, hi, hz0, hz1, hz2⟩ := info_parts long_info
  have hml := fun W => run_make_lit (P := Try.prog) 25 2 i1 _ Try.underlying25 hi hz0 M (by rw [hz2]; omega) (by omega) W
  rw [hz1, ivs_made] at hml
  clear hi hz0 hz1 hz2
  obtain ⟨i2, hi, hz0, hz1, hz2⟩ := info_parts bool_info
  have hmb := fun W => run_make_lit (P := Try.prog) 26 4 i2 _ Try.underlying26 hi hz0 M (by rw [hz2]; omega) (by omega) W
  rw [hz1, bvs_made] at hmb
  clear hi hz0 hz1 hz2
  go_enter Try.func41, Try.ntmps41
  go_wp2_with fail
  refine (firsts_any _ _ _ _ _ _ l _ ((hA.onAlloc _).onAlloc _) hn hN hE).mono ?_
  rintro e w1 ⟨g, rfl, hg, G, B1⟩
  have K1 : Blk w1 w.heap.size 24 #[.int .i64 N, .int .i64 S, .int .i64 T, .slice A n c] := ((Blk.new rfl).alloc _).below B1 (by simp; omega)
  have K2 : Blk w1 (w.heap.size + 1) 45 #[.int .i64 0, .int .i64 0, .int .i64 0, .slice none 0 0, .slice none 0 0, .slice none 0 0, .slice none 0 0, .slice none 0 0, .slice none 0 0] := (Blk.new (by simp)).below B1 (by simp)
  have hz1 := K1.lt
  have hz2 := K2.lt
  obtain ⟨a0, a1, a2, a3, a4, a5, a6, a7, a8⟩ := K2.at9
  obtain ⟨f0, f1, f2, f3, f4, f5, f6, f7, f8⟩ := K2.free9
  obtain ⟨r0, r1, r2, r3⟩ := K1.at4
  have hgl := G.lt
  have m0 : w1.cell? ⟨g, N, none⟩ = some (.int .i64 (M : Int)) := by rw [← hMe]; exact G.iat (tab_at (by omega))
  simp at hg
  go_wp2_with fail
  refine wp_region_held (S := fun W => Below (w.heap.size + 1) w1 W ∧ W.cell? ⟨w.heap.size, 0, none⟩ = some (.int .i64 N) ∧ W.cell? ⟨w.heap.size, 1, none⟩ = some (.int .i64 S) ∧ W.cell? ⟨w.heap.size, 2, none⟩ = some (.int .i64 T)) (by kernel_rfl) ?_
  have hkeep : ∀ W, Below (w.heap.size + 1) w1 W → (Below (w.heap.size + 1) w1 W ∧ W.cell? ⟨w.heap.size, 0, none⟩ = some (.int .i64 N) ∧ W.cell? ⟨w.heap.size, 1, none⟩ = some (.int .i64 S) ∧ W.cell? ⟨w.heap.size, 2, none⟩ = some (.int .i64 T)) := fun W hb => ⟨hb, by rw [hb.cell (by simp)]; exact r0, by rw [hb.cell (by simp)]; exact r1, by rw [hb.cell (by simp)]; exact r2⟩
  have hS0 := hkeep w1.drew (Below.refl _ _).drew
  refine takeD (i := 0) (v := ?v0) (some 12) rfl rfl (by kernel_rfl) (by kernel_rfl) (by kernel_rfl) (fun _ _ _ h => h) (Or.inl ⟨by rfl, ?y0⟩) (by assumption) ?_
  case y0 =>
    intro W hSw
    go_split_ands
    go_simp
    try with_reducible rfl
  simp only [Act.put, pa, pz, ps]
  refine takeD (i := 1) (v := ?v1) (some 13) rfl rfl (by kernel_rfl) (by kernel_rfl) (by kernel_rfl) (fun _ _ _ h => h) (Or.inl ⟨by rfl, ?y1⟩) (by assumption) ?_
  case y1 =>
    intro W hSw
    go_split_ands
    go_simp
    try with_reducible rfl
  simp only [Act.put, pa, pz, ps]
  refine takeD (i := 2) (v := ?v2) (some 14) rfl rfl (by kernel_rfl) (by kernel_rfl) (by kernel_rfl) (fun _ _ _ h => h) (Or.inl ⟨by rfl, ?y2⟩) (by assumption) ?_
  case y2 =>
    intro W hSw
    go_split_ands
    go_simp
    try with_reducible rfl
  simp only [Act.put, pa, pz, ps]
  refine takeD (i := 3) (v := ?v3) (some 15) rfl rfl (by kernel_rfl) (by kernel_rfl) (by kernel_rfl) (fun _ _ _ h => h) (Or.inl ⟨by rfl, ?y3⟩) (by assumption) ?_
  case y3 =>
    intro W hSw
    go_split_ands
    go_simp
    try with_reducible rfl
  simp only [Act.put, pa, pz, ps]
  refine takeD (i := 4) (v := ?v4) (some 16) rfl rfl (by kernel_rfl) (by kernel_rfl) (by kernel_rfl) (fun _ _ _ h => h) (Or.inl ⟨by rfl, ?y4⟩) (by assumption) ?_
  case y4 =>
    intro W hSw
    go_split_ands
    go_simp
    try with_reducible rfl
  simp only [Act.put, pa, pz, ps]
  refine takeD (i := 5) (v := ?v5) (some 17) rfl rfl (by kernel_rfl) (by kernel_rfl) (by kernel_rfl) (fun _ _ _ h => h) (Or.inl ⟨by rfl, ?y5⟩) (by assumption) ?_
  case y5 =>
    intro W hSw
    go_split_ands
    go_simp
    try with_reducible rfl
  simp only [Act.put, pa, pz, ps]
  refine takeD (i := 6) (v := ?v6) (some 18) rfl rfl (by kernel_rfl) (by kernel_rfl) (by kernel_rfl) (fun _ _ _ h => h) (Or.inl ⟨by rfl, ?y6⟩) (by assumption) ?_
  case y6 =>
    intro W hSw
    go_split_ands
    go_simp
    try with_reducible rfl
  simp only [Act.put, pa, pz, ps]
  refine takeD (i := 7) (v := ?v7) (some 19) rfl rfl (by kernel_rfl) (by kernel_rfl) (by kernel_rfl) (fun _ _ _ h => h) (Or.inl ⟨by rfl, ?y7⟩) (by assumption) ?_
  case y7 =>
    intro W hSw
    go_split_ands
    go_simp
    try with_reducible rfl
  simp only [Act.put, pa, pz, ps]
  refine takeD (i := 9) (v := ?v9) (some 21) rfl rfl (by kernel_rfl) (by kernel_rfl) (by kernel_rfl) (fun _ _ _ h => h) (Or.inl ⟨by rfl, ?y9⟩) (by assumption) ?_
  case y9 =>
    intro W hSw
    go_split_ands
    go_simp
    try with_reducible rfl
  simp only [Act.put, pa, pz, ps]
  refine takeD (i := 11) (v := ?v11) (some 23) rfl rfl (by kernel_rfl) (by kernel_rfl) (by kernel_rfl) (fun _ _ _ h => h) (Or.inl ⟨by rfl, ?y11⟩) (by assumption) ?_
  case y11 =>
    intro W hSw
    go_split_ands
    go_simp
    try with_reducible rfl
  simp only [Act.put, pa, pz, ps]
  refine takeD (i := 13) (v := ?v13) (some 25) rfl rfl (by kernel_rfl) (by kernel_rfl) (by kernel_rfl) (fun _ _ _ h => h) (Or.inl ⟨by rfl, ?y13⟩) (by assumption) ?_
  case y13 =>
    intro W hSw
    go_split_ands
    go_simp
    try with_reducible rfl
  simp only [Act.put, pa, pz, ps]
  refine takeD (i := 15) (v := ?v15) (some 27) rfl rfl (by kernel_rfl) (by kernel_rfl) (by kernel_rfl) (fun _ _ _ h => h) (Or.inl ⟨by rfl, ?y15⟩) (by assumption) ?_
  case y15 =>
    intro W hSw
    go_split_ands
    go_simp
    try with_reducible rfl
  simp only [Act.put, pa, pz, ps]
  refine wpAnyH_makes5 (fuel := 2) 8 10 12 14 16 (fun k => [8, 10, 12, 14, 16].getD k 0) (fun k => .tmp ([19, 21, 23, 25, 27].getD k 0)) (fun k => [20, 22, 24, 26, 28].getD k 0) (fun _ => M)
    (fun b0 b1 b2 b3 b4 => #[true, true, true, true, true, true, true, true, b0, true, b1, true, b2, true, b3, true, b4, false, false])
    (T := fun k => [43, 43, 25, 43, 26].getD k 0) (E := fun k => [3, 3, 2, 3, 4].getD k 0)
    (C := fun k => [ivs (List.replicate M 0), ivs (List.replicate M 0), ivs (List.replicate M 0), ivs (List.replicate M 0), bvs (List.replicate M false)].getD k #[])
    ⟨rfl, rfl, rfl, rfl, rfl⟩ (by kernel_rfl) ?_ ?_ ?_ ?_ ?_ ?_ (by decide +kernel) ?_ ?_
  · intro k hk
    match k, hk with
    | 0, _ => exact ⟨_, rfl, rfl, rfl, rfl⟩
    | 1, _ => exact ⟨_, rfl, rfl, rfl, rfl⟩
    | 2, _ => exact ⟨_, rfl, rfl, rfl, rfl⟩
    | 3, _ => exact ⟨_, rfl, rfl, rfl, rfl⟩
    | 4, _ => exact ⟨_, rfl, rfl, rfl, rfl⟩
  · intro k hk
    match k, hk with
    | 0, _ => rfl
    | 1, _ => rfl
    | 2, _ => rfl
    | 3, _ => rfl
    | 4, _ => rfl
  · intro k j hk hj h
    injection h with h
    revert h
    have : ∀ k, k < 5 → ∀ j, j < 5 → ([19, 21, 23, 25, 27] : List Nat).getD k 0 ≠ ([20, 22, 24, 26, 28] : List Nat).getD j 0 := by decide
    exact this k hk j hj
  · have : ∀ i, i < 5 → ∀ j, j < 5 → ([20, 22, 24, 26, 28] : List Nat).getD i 0 = ([20, 22, 24, 26, 28] : List Nat).getD j 0 → i = j := by decide
    exact fun i j hi hj h => this i hi j hj h
  · intro k hk W
    match k, hk with
    | 0, _ => exact hmi W
    | 1, _ => exact hmi W
    | 2, _ => exact hml W
    | 3, _ => exact hmi W
    | 4, _ => exact hmb W
  · intro b0 b1 b2 b3 b4
    exact ⟨rfl, rfl, rfl, rfl, rfl⟩
  · intro W hb
    exact hkeep W ((Below.refl _ _).drew.trans (hb.mono (by show w.heap.size + 1 ≤ w1.heap.size; omega)))
  · intro gH gR gC gA gB W hb h1 h2 h3 h4 h5 KH KR KC KA KB n1 n2 n3 n4 n5 n6 n7 n8 n9 n10
    have hb' : Below (w.heap.size + 1) w1 W := (Below.refl _ _).drew.trans (hb.mono (by show w.heap.size + 1 ≤ w1.heap.size; omega))
    have KZ : Blk W (w.heap.size + 1) 45 #[.int .i64 0, .int .i64 0, .int .i64 0, .slice none 0 0, .slice none 0 0, .slice none 0 0, .slice none 0 0, .slice none 0 0, .slice none 0 0] := (show Blk w1.drew _ _ _ from K2).below hb hz2
    have KF : Blk W g 3 (ivs (tab (N + 1) fun v => (firstOf l v : Int))) := (show Blk w1.drew _ _ _ from G).below hb hgl
    have hS1 := hkeep W hb'
    clear a0 a1 a2 a3 a4 a5 a6 a7 a8 f0 f1 f2 f3 f4 f5 f6 f7 f8 r0 r1 r2 r3 m0 hS0
    obtain ⟨a0, a1, a2, a3, a4, a5, a6, a7, a8⟩ := KZ.at9
    obtain ⟨f0, f1, f2, f3, f4, f5, f6, f7, f8⟩ := KZ.free9
    simp only [Act.put, List.getD_cons_zero, List.getD_cons_succ, List.setIfInBounds_toArray, List.set_cons_zero, List.set_cons_succ]
    refine takeD (i := 17) (v := ?v17) (some 29) rfl rfl (by kernel_rfl) (by kernel_rfl) (by kernel_rfl) (fun _ _ _ h => h) (Or.inl ⟨by rfl, ?y17⟩) (by assumption) ?_
    case y17 =>
      intro W hSw
      go_split_ands
      go_simp
      try with_reducible rfl
    simp only [Act.put, pa, pz, ps]
    refine wpAnyH_ready (rs := [18]) (by kernel_rfl) (by simp) ?_
    refine AllReadyH.cons rfl (fun K hK => ?_) AllReadyH.nil
    go_simp
    refine hK.out _ _ ?_ (fun hHeld => ?_)
    · exact hkeep _ (((((((((hb'.setCell (by simp) _).setCell (by simp) _).setCell (by simp) _).setCell (by simp) _).setCell (by simp) _).setCell (by simp) _).setCell (by simp) _).setCell (by simp) _).setCell (by simp) _)
    refine wpAnyH_done (by kernel_rfl) ?_ _
    have KQ := KZ.set9 (.int .i64 N) (.int .i64 S) (.int .i64 T) (.slice (some ⟨g, 0, none⟩) (N + 1) (N + 1)) (.slice (some ⟨gH, 0, none⟩) M M) (.slice (some ⟨gR, 0, none⟩) M M) (.slice (some ⟨gC, 0, none⟩) M M) (.slice (some ⟨gA, 0, none⟩) M M) (.slice (some ⟨gB, 0, none⟩) M M)
    obtain ⟨q0, q1, q2, q3, q4, q5, q6, q7, q8⟩ := KQ.at9
    have hzz : w1.heap.size ≤ gH ∧ w1.heap.size ≤ gR ∧ w1.heap.size ≤ gC ∧ w1.heap.size ≤ gA ∧ w1.heap.size ≤ gB := ⟨h1, h2, h3, h4, h5⟩
    clear hkeep hS1 hHeld
    have CB : CsrBlk W (tab (N + 1) fun v => (firstOf l v : Int)) (List.replicate M 0) (List.replicate M 0) (List.replicate M 0) (List.replicate M 0) (List.replicate M false) g gH gR gC gA gB := ⟨KF, KH, KR, KC, KA, KB, by omega, by omega, by omega, n1, n3, n6⟩
    have hf : g ≠ w.heap.size + 1 ∧ gH ≠ w.heap.size + 1 ∧ gR ≠ w.heap.size + 1 ∧ gC ≠ w.heap.size + 1 ∧ gA ≠ w.heap.size + 1 ∧ gB ≠ w.heap.size + 1 := by omega
    show Exit.then _ _ _ _ _
    go_wp2_with fail
    refine bodyPost_ret (v := csrV N M S T g gH gR gC gA gB) (by simp [results, Try.results41, go_sem, q0, q1, q2, q3, q4, q5, q6, q7, q8]) rfl ⟨g, gH, gR, gC, gA, gB, rfl, by omega, ?_, ?_⟩
    · exact ((((((((CB.far hf _).far hf _).far hf _).far hf _).far hf _).far hf _).far hf _).far hf _).far hf _
    · have hbw : Below w.heap.size w w1 := ((below_alloc _).alloc (by simp) _).trans (B1.mono (by simp; omega))
      have hbW : Below w.heap.size w W := hbw.trans (hb'.mono (by omega))
      exact ((((((((hbW.setCell (by simp) _).setCell (by simp) _).setCell (by simp) _).setCell (by simp) _).setCell (by simp) _).setCell (by simp) _).setCell (by simp) _).setCell (by simp) _).setCell (by simp) _

end Go.Proofs.Ytfcjmhihheeifaa

/-! Layer 2: what the closure that writes a residual arc does. -/
namespace Go.Proofs.Ytfcjmhihheeifaa
open Go.RowKit

set_option maxHeartbeats 1000000 in
theorem put_any (N M : Nat) (S T : Int) (gF gH gR gC gA gB gf gc gr cr : Nat) (cur : Array Value) (F H R C A : List Int) (B : List Bool) (i u cap : Int) (f : Nat) (b : Bool) (pos : Nat) (w : World)
    (hfN : f ≤ N) (hcur : cur[f]? = some (.int .i64 (pos : Int))) (hpos : pos < M) (hM : M ≤ 5000000000000)
    (hH : H.length = M) (hC : C.length = M) (hA : A.length = M) (hB : B.length = M)
    (K1 : Blk w gf 43 #[.slice (some ⟨gr, 0, none⟩) (N + 1) cr])
    (K2 : Blk w gc 45 #[.int .i64 N, .int .i64 S, .int .i64 T, .slice (some ⟨gF, 0, none⟩) (N + 1) (N + 1), .slice (some ⟨gH, 0, none⟩) M M, .slice (some ⟨gR, 0, none⟩) M M, .slice (some ⟨gC, 0, none⟩) M M, .slice (some ⟨gA, 0, none⟩) M M, .slice (some ⟨gB, 0, none⟩) M M])
    (K3 : Blk w gr 3 cur) (hne : gr ≠ gF ∧ gr ≠ gH ∧ gr ≠ gR ∧ gr ≠ gA)
    (CB : CsrBlk w F H R C A B gF gH gR gC gA gB) :
    Calls Try.prog 80 #[.int .i64 i, .agg #[.int .i64 (f : Int), .int .i64 u, .int .i64 cap], .bool b, .pointer (some ⟨gf, 0, none⟩), .pointer (some ⟨gc, 0, none⟩)] w fun e w' =>
      e = .returned (.int .i64 (pos : Int)) ∧ w.heap.size ≤ w'.heap.size ∧ Blk w' gr 3 (cur.setIfInBounds f (.int .i64 ((pos : Int) + 1))) ∧ CsrBlk w' F (H.set pos u) R (C.set pos cap) (A.set pos i) (B.set pos b) gF gH gR gC gA gB ∧
      (∀ n, n ≤ gr → n ≤ gH → n ≤ gC → n ≤ gA → n ≤ gB → n ≤ w.heap.size → Below n w w') ∧
      (∀ g t cs, Blk w g t cs → t ≠ 3 → t ≠ 2 → t ≠ 4 → Blk w' g t cs) := by
  have hz1 := K1.lt
  have hz2 := K2.lt
  have hz3 := K3.lt
  have k0 := K1.cell 0
  have k3 := (K3.cell f).trans hcur
  have q3 := K3.frozen f
  simp only [List.getElem?_toArray, List.getElem?_cons_zero] at k0
  have e1 := K1.ne K3 (by decide)
  have e2 := K2.ne K3 (by decide)
  have e3 := CB.kC.ne K3 (by decide)
  have e4 := CB.kB.ne K3 (by decide)
  go_enter Try.func80, Try.ntmps80
  go_wp2_with fail
  have L2 : Blk ((w.setCell ⟨gr, f, none⟩ (.int .i64 ((pos : Int) + 1))).alloc (.cells #[.int .i64 (f : Int), .int .i64 u, .int .i64 cap] 64)) gc _ _ := (K2.far e2 _).alloc _
  have L3 : Blk ((w.setCell ⟨gr, f, none⟩ (.int .i64 ((pos : Int) + 1))).alloc (.cells #[.int .i64 (f : Int), .int .i64 u, .int .i64 cap] 64)) gr _ _ := (K3.set f (.int .i64 ((pos : Int) + 1))).alloc _
  have L4 : Blk ((w.setCell ⟨gr, f, none⟩ (.int .i64 ((pos : Int) + 1))).alloc (.cells #[.int .i64 (f : Int), .int .i64 u, .int .i64 cap] 64)) w.heap.size 64 #[.int .i64 (f : Int), .int .i64 u, .int .i64 cap] := Blk.new (by simp)
  have L5 : CsrBlk ((w.setCell ⟨gr, f, none⟩ (.int .i64 ((pos : Int) + 1))).alloc (.cells #[.int .i64 (f : Int), .int .i64 u, .int .i64 cap] 64)) F H R C A B gF gH gR gC gA gB := (CB.far ⟨hne.1.symm, hne.2.1.symm, hne.2.2.1.symm, e3, hne.2.2.2.symm, e4⟩ _).alloc _
  have L6 : ∀ n, n ≤ gr → n ≤ w.heap.size → Below n w ((w.setCell ⟨gr, f, none⟩ (.int .i64 ((pos : Int) + 1))).alloc (.cells #[.int .i64 (f : Int), .int .i64 u, .int .i64 cap] 64)) := fun n h1 h2 => ((Below.refl _ _).setCell h1 _).alloc (by simp; exact h2) _
  have L7 : ∀ g t cs, Blk w g t cs → t ≠ 3 → Blk ((w.setCell ⟨gr, f, none⟩ (.int .i64 ((pos : Int) + 1))).alloc (.cells #[.int .i64 (f : Int), .int .i64 u, .int .i64 cap] 64)) g t cs := fun g t cs h ht => (h.far (h.ne K3 ht) _).alloc _
  have L8 : w.heap.size ≤ ((w.setCell ⟨gr, f, none⟩ (.int .i64 ((pos : Int) + 1))).alloc (.cells #[.int .i64 (f : Int), .int .i64 u, .int .i64 cap] 64)).heap.size := by simp
  generalize ((w.setCell ⟨gr, f, none⟩ (.int .i64 ((pos : Int) + 1))).alloc (.cells #[.int .i64 (f : Int), .int .i64 u, .int .i64 cap] 64)) = W at *
  obtain ⟨a0, a1, a2, a3, a4, a5, a6, a7, a8⟩ := L2.at9
  have b0 := L4.cell 0; have b1 := L4.cell 1; have b2 := L4.cell 2
  simp only [List.getElem?_toArray, List.getElem?_cons_zero, List.getElem?_cons_succ] at b0 b1 b2
  have c1 := L5.kH.iat (i := pos) (List.getElem?_eq_getElem (by omega))
  have c2 := L5.kC.iat (i := pos) (List.getElem?_eq_getElem (by omega))
  have c3 := L5.kA.iat (i := pos) (List.getElem?_eq_getElem (by omega))
  have c4 := L5.kB.bat (i := pos) (List.getElem?_eq_getElem (by omega))
  have d1 := L5.kH.frozen pos; have d2 := L5.kC.frozen pos; have d3 := L5.kA.frozen pos; have d4 := L5.kB.frozen pos
  obtain ⟨s1, s2, s3, s4, s5, s6⟩ := L5.ne
  obtain ⟨t1, t2, t3, t4, t5, t6, t7, t8, t9⟩ := L5.diff
  clear k0 k3 q3 K1 K2 K3 CB
  have HL2 := Lib.hid L2; have HL3 := Lib.hid L3; have HL4 := Lib.hid L4; have HL5 := Lib.hid L5; have HL6 := Lib.hid L6; have HL7 := Lib.hid L7; have HL8 := Lib.hid L8
  clear L2 L3 L4 L5 L6 L7 L8
  have y1 := HL5.out.kH.ne HL2.out (by decide); have y2 := HL5.out.kC.ne HL2.out (by decide); have y3 := HL5.out.kA.ne HL2.out (by decide); have y4 := HL5.out.kB.ne HL2.out (by decide)
  have x1 := HL5.out.kH.ne HL4.out (by decide); have x2 := HL5.out.kC.ne HL4.out (by decide); have x3 := HL5.out.kA.ne HL4.out (by decide); have x4 := HL5.out.kB.ne HL4.out (by decide)
  go_region_held3 (fun W' => W'.cell? ⟨gc, 4, none⟩ = some (.slice (some ⟨gH, 0, none⟩) M M) ∧ W'.cell? ⟨gc, 6, none⟩ = some (.slice (some ⟨gC, 0, none⟩) M M) ∧ W'.cell? ⟨gc, 7, none⟩ = some (.slice (some ⟨gA, 0, none⟩) M M) ∧ W'.cell? ⟨gc, 8, none⟩ = some (.slice (some ⟨gB, 0, none⟩) M M) ∧
      W'.cell? ⟨w.heap.size, 1, none⟩ = some (.int .i64 u) ∧ W'.cell? ⟨w.heap.size, 2, none⟩ = some (.int .i64 cap)) (go_keep) (first | fail)
  go_wp2_with fail
  go_ret
  refine ⟨rfl, ?_, ?_, ?_, ?_, ?_⟩
  · simpa using HL8.out
  · exact ((((HL3.out.far hne.2.1 _).far (Ne.symm e3) _).far hne.2.2.2 _).far (Ne.symm e4) _).drew
  · exact ((((HL5.out.setH pos u).setC pos cap).setA pos i).setB pos b).drew
  · intro n h1 h2 h3 h4 h5 h6
    exact (((((HL6.out n h1 h6).setCell h2 _).setCell h3 _).setCell h4 _).setCell h5 _).drew
  · intro g t cs h ht1 ht2 ht3
    have h' := HL7.out g t cs h ht1
    exact ((((h'.far (h'.ne HL5.out.kH ht1) _).far (h'.ne HL5.out.kC ht2) _).far (h'.ne HL5.out.kA ht1) _).far (h'.ne HL5.out.kB ht3) _).drew

end Go.Proofs.Ytfcjmhihheeifaa

/-! Plain facts: residual arcs written one by one. -/
namespace Go.Proofs.Ytfcjmhihheeifaa
open Go.RowKit

/-- What a residual network's rows hold, once the first k arcs are written. -/
structure Part (l : List ArcN) (M k : Nat) (H R C A : List Int) (B : List Bool) : Prop where
  lens : H.length = M ∧ R.length = M ∧ C.length = M ∧ A.length = M ∧ B.length = M
  ent : ∀ i v u b c, i < k → Inc l i v u b c → H[posOf l i v]? = some u ∧ R[posOf l i v]? = some (posOf l i u : Int) ∧ C[posOf l i v]? = some c ∧ A[posOf l i v]? = some (i : Int) ∧ B[posOf l i v]? = some b

/-- What the row of free places holds. -/
def FreeAt (l : List ArcN) (N k : Nat) (cur : Array Value) : Prop := ∀ v, v ≤ N → cur[v]? = some (.int .i64 (posOf l k (v : Int) : Int))

theorem set2_other {α : Type} {L : List α} {p q r : Nat} {x y : α} (h1 : r ≠ p) (h2 : r ≠ q) : ((L.set p x).set q y)[r]? = L[r]? := by
  rw [List.getElem?_set_ne (fun e => h2 e.symm), List.getElem?_set_ne (fun e => h1 e.symm)]
theorem set2_fst {α : Type} {L : List α} {p q : Nat} {x y : α} (h : p ≠ q) (hp : p < L.length) : ((L.set p x).set q y)[p]? = some x := by
  rw [List.getElem?_set_ne (fun e => h e.symm)]; simp [hp]
theorem set2_snd {α : Type} {L : List α} {p q : Nat} {x y : α} (hq : q < L.length) : ((L.set p x).set q y)[q]? = some y := by
  simp [hq]

section
variable {l : List ArcN} {M N k : Nat} {H R C A : List Int} {B : List Bool} {f t : Nat} {z : Int}
theorem Part.zero (l : List ArcN) (M : Nat) : Part l M 0 (List.replicate M 0) (List.replicate M 0) (List.replicate M 0) (List.replicate M 0) (List.replicate M false) :=
  ⟨by simp, fun i v u b c hi => absurd hi (by omega)⟩
theorem Part.loop (h : Part l M k H R C A B) {a : ArcN} (ha : l[k]? = some a) (e : a.frm = a.to) : Part l M (k + 1) H R C A B := by
  refine ⟨h.lens, fun i v u b c hi hI => ?_⟩
  by_cases hik : i = k
  · subst hik
    obtain ⟨hne, a', ha', hh⟩ := hI
    rw [ha] at ha'
    injection ha' with ha'
    subst ha'
    rcases hh with ⟨_, h1, h2, _⟩ | ⟨_, h1, h2, _⟩ <;> omega
  · exact h.ent i v u b c (by omega) hI
theorem Part.step (h : Part l M k H R C A B) (hE : EndsIn N l) (hM : firstOf l N = M) (ha : l[k]? = some ⟨(f : Int), (t : Int), z⟩) (e : f ≠ t) :
    Part l M (k + 1) ((H.set (posOf l k f) t).set (posOf l k t) f) ((R.set (posOf l k f) (posOf l k t)).set (posOf l k t) (posOf l k f)) ((C.set (posOf l k f) z).set (posOf l k t) 0) ((A.set (posOf l k f) k).set (posOf l k t) k) ((B.set (posOf l k f) false).set (posOf l k t) true) := by
  have e' : (f : Int) ≠ (t : Int) := by omega
  have If : Inc l k f t false z := inc_fwd ha e'
  have It : Inc l k t f true 0 := inc_bwd ha e'
  have hf := pos_lt If hE
  have ht := pos_lt It hE
  rw [hM] at hf ht
  obtain ⟨l1, l2, l3, l4, l5⟩ := h.lens
  have hpq : posOf l k f ≠ posOf l k t := fun hp => e' (pos_inj If It (by omega) (by omega) hp).1
  refine ⟨by simp [l1, l2, l3, l4, l5], fun i v u b c hi hI => ?_⟩
  by_cases hik : i = k
  · subst hik
    have h0 := hI.ends hE
    obtain ⟨hne, a', ha', hh⟩ := hI
    rw [ha] at ha'
    injection ha' with ha'
    subst ha'
    rcases hh with ⟨h1, h2, h3, h4⟩ | ⟨h1, h2, h3, h4⟩
    · simp only at h2 h3 h4
      subst h1; subst h2; subst h3; subst h4
      exact ⟨set2_fst hpq (by omega), set2_fst hpq (by omega), set2_fst hpq (by omega), set2_fst hpq (by omega), set2_fst hpq (by omega)⟩
    · simp only at h2 h3 h4
      subst h1; subst h2; subst h3; subst h4
      exact ⟨set2_snd (by omega), set2_snd (by omega), set2_snd (by omega), set2_snd (by omega), set2_snd (by omega)⟩
  · have h0 := hI.ends hE
    have n1 : posOf l i v ≠ posOf l k f := fun hp => hik (pos_inj hI If h0.1 (by omega) hp).2
    have n2 : posOf l i v ≠ posOf l k t := fun hp => hik (pos_inj hI It h0.1 (by omega) hp).2
    rw [set2_other n1 n2, set2_other n1 n2, set2_other n1 n2, set2_other n1 n2, set2_other n1 n2]
    exact h.ent i v u b c (by omega) hI

theorem FreeAt.loop {cur : Array Value} (h : FreeAt l N k cur) {a : ArcN} (ha : l[k]? = some a) (e : a.frm = a.to) : FreeAt l N (k + 1) cur := by
  intro v hv
  rw [h v hv]
  have : posOf l (k + 1) (v : Int) = posOf l k (v : Int) := by
    unfold posOf
    rw [deg_take_succ ha]
    simp [touch, e]
  rw [this]
theorem FreeAt.step {cur : Array Value} (h : FreeAt l N k cur) (ha : l[k]? = some ⟨(f : Int), (t : Int), z⟩) (e : f ≠ t) :
    FreeAt l N (k + 1) ((cur.setIfInBounds f (.int .i64 ((posOf l k f : Int) + 1))).setIfInBounds t (.int .i64 ((posOf l k t : Int) + 1))) := by
  intro v hv
  have e' : (f : Int) ≠ (t : Int) := by omega
  have hlt : ∀ v, v ≤ N → v < cur.size := fun v hv => (Array.getElem?_eq_some_iff.1 (h v hv)).1
  have hstep : posOf l (k + 1) (v : Int) = posOf l k (v : Int) + (if touch v ⟨(f : Int), (t : Int), z⟩ then 1 else 0) := by
    unfold posOf
    rw [deg_take_succ ha]
    omega
  rw [hstep]
  by_cases h1 : v = t
  · subst h1
    rw [Array.getElem?_setIfInBounds, if_pos rfl, if_pos (by simpa using hlt v hv)]
    simp [touch, e']
  · rw [Array.getElem?_setIfInBounds, if_neg (fun x => h1 x.symm)]
    by_cases h2 : v = f
    · subst h2
      rw [Array.getElem?_setIfInBounds, if_pos rfl, if_pos (hlt v hv)]
      simp [touch, e']
    · rw [Array.getElem?_setIfInBounds, if_neg (fun x => h2 x.symm), h v hv]
      have h3 : (f : Int) ≠ (v : Int) := by omega
      have h4 : (t : Int) ≠ (v : Int) := by omega
      simp [touch, h3, h4]
theorem FreeAt.zero {cur : Array Value} (h : ∀ v, v ≤ N → cur[v]? = some (.int .i64 (firstOf l v : Int))) : FreeAt l N 0 cur := by
  intro v hv
  rw [h v hv]
  simp [posOf, deg]
theorem own_blk {w : World} {base n c g : Nat} {e : TypeId} {size : Nat} {xs : List Value} (h : w.ownsRow base e size (.slice (some ⟨g, 0, none⟩) n c) n xs) : ∃ cur, Blk w g e cur := by
  rcases h.2 with ⟨h0, _⟩ | ⟨g', cap, cur, hv, hb, hh, _⟩
  · cases h0
  · injection hv with hA
    injection hA with hA
    injection hA with hA
    subst hA
    exact ⟨cur, hh⟩
end

end Go.Proofs.Ytfcjmhihheeifaa

/-! Layer 2: write. -/
namespace Go.Proofs.Ytfcjmhihheeifaa
open Go.RowKit

set_option maxHeartbeats 4000000 in
theorem write_any (N M n0 : Nat) (S T : Int) (gF gH gR gC gA gB : Nat) (A : Option Addr) (n c : Nat) (l : List ArcN) (w : World) (hA : Arcs w n0 A n l) (hn : n ≤ 1000000000) (hN : N ≤ 4096) (hE : EndsIn N l) (hMe : firstOf l N = M)
    (hn0 : n0 ≤ w.heap.size) (hg : n0 ≤ gF ∧ n0 ≤ gH ∧ n0 ≤ gR ∧ n0 ≤ gC ∧ n0 ≤ gA ∧ n0 ≤ gB)
    (CB : CsrBlk w (tab (N + 1) fun v => (firstOf l v : Int)) (List.replicate M 0) (List.replicate M 0) (List.replicate M 0) (List.replicate M 0) (List.replicate M false) gF gH gR gC gA gB) :
    Calls Try.prog 42 #[csrV N M S T gF gH gR gC gA gB, .slice A n c] w fun e w' =>
      e = .returned (.tuple #[]) ∧ (∃ (H R C Ac : List Int) (B : List Bool), Part l M l.length H R C Ac B ∧ CsrBlk w' (tab (N + 1) fun v => (firstOf l v : Int)) H R C Ac B gF gH gR gC gA gB) ∧ Below n0 w w' ∧
      (∀ g t cs, Blk w g t cs → t ≠ 3 → t ≠ 2 → t ≠ 4 → Blk w' g t cs) := by
  have hM : M ≤ 5000000000000 := by
    have h1 := firstOf_le l N; have h3 := hA.len
    have h4 := Nat.mul_le_mul (show N ≤ 4096 by omega) (show l.length ≤ 1000000000 by omega)
    omega
  go_enter Try.func42, Try.ntmps42
  go_wp2_with fail
  have C0 := CB.alloc (.cells #[.int .i64 N, .int .i64 S, .int .i64 T, .slice (some ⟨gF, 0, none⟩) (N + 1) (N + 1), .slice (some ⟨gH, 0, none⟩) M M, .slice (some ⟨gR, 0, none⟩) M M, .slice (some ⟨gC, 0, none⟩) M M, .slice (some ⟨gA, 0, none⟩) M M, .slice (some ⟨gB, 0, none⟩) M M] 45)
  have K0 : Blk (w.alloc (.cells #[.int .i64 N, .int .i64 S, .int .i64 T, .slice (some ⟨gF, 0, none⟩) (N + 1) (N + 1), .slice (some ⟨gH, 0, none⟩) M M, .slice (some ⟨gR, 0, none⟩) M M, .slice (some ⟨gC, 0, none⟩) M M, .slice (some ⟨gA, 0, none⟩) M M, .slice (some ⟨gB, 0, none⟩) M M] 45)) w.heap.size 45 _ := Blk.new rfl
  refine (clone_any _ _ _ _ _ (C0.kF.ints (tab_len _ _)) (by omega)).mono ?_
  rintro e w1 ⟨Ar, cr, rfl, O, B1⟩
  obtain ⟨gr, rfl, hgr, hgr'⟩ := own_form O (by omega)
  obtain ⟨cur, KR⟩ := own_blk O
  have C1 := C0.on B1
  have K1 := K0.below B1 K0.lt
  have hw1 : w.heap.size < w1.heap.size := K1.lt
  have hgr2 : w.heap.size < gr := by simp at hgr; omega
  have F0 : FreeAt l N 0 cur := FreeAt.zero fun v hv => by
    rw [← KR.cell v, O.cellAt v (by omega), ← ivs_flat]
    simp [tab_at (show v < N + 1 by omega)]
  have Bw : Below n0 w w1 := ((Below.refl _ _).alloc hn0 _).trans (B1.mono (by simp; omega))
  have hl0 := CB.lts
  have KP1 : (∀ g t cs, Blk w g t cs → t ≠ 3 → t ≠ 2 → t ≠ 4 → Blk w1 g t cs) := fun g t cs h _ _ _ => (h.alloc _).below B1 (h.alloc _).lt
  clear C0 K0 B1 CB O hgr
  go_wp2_with fail
  go_loopw [6, 7, 8, 9, 16] (fun _ _ _ _ i wr => ∃ (k : Nat) (cur : Array Value) (H R C Ac : List Int) (B : List Bool), k ≤ n ∧ i = .int .i64 k ∧ FreeAt l N k cur ∧ Part l M k H R C Ac B ∧ Blk wr gr 3 cur ∧
      CsrBlk wr (tab (N + 1) fun v => (firstOf l v : Int)) H R C Ac B gF gH gR gC gA gB ∧
      Blk wr w.heap.size 45 #[.int .i64 N, .int .i64 S, .int .i64 T, .slice (some ⟨gF, 0, none⟩) (N + 1) (N + 1), .slice (some ⟨gH, 0, none⟩) M M, .slice (some ⟨gR, 0, none⟩) M M, .slice (some ⟨gC, 0, none⟩) M M, .slice (some ⟨gA, 0, none⟩) M M, .slice (some ⟨gB, 0, none⟩) M M] ∧
      Blk wr w1.heap.size 43 #[.slice (some ⟨gr, 0, none⟩) (N + 1) cr] ∧ Below n0 w wr ∧ (∀ g t cs, Blk w g t cs → t ≠ 3 → t ≠ 2 → t ≠ 4 → Blk wr g t cs)) (fun _ _ _ _ i _ => n - (intOf i).toNat)
  case atStart => exact ⟨0, cur, _, _, _, _, _, Nat.zero_le _, rfl, F0, Part.zero l M, KR.alloc _, C1.alloc _, K1.alloc _, Blk.new rfl, Bw.alloc (by omega) _, fun g t cs h h1 h2 h3 => (KP1 g t cs h h1 h2 h3).alloc _⟩
  case round =>
    clear F0 KR C1 K1 Bw KP1
    obtain ⟨k, cur, H, R, C, Ac, B, hk, rfl, F0, P0, KR, C1, K1, K2, Bw, KP⟩ := hrel
    have hz1 := K1.lt
    have hz2 := K2.lt
    have hl := C1.lts
    have HKP := Lib.hid KP; clear KP
    by_cases hlt : k < n
    · obtain ⟨b, off, ⟨x, y, z⟩, rfl, hbl, hla, d0, d1, d2⟩ := arcs_at (hA.below Bw) hlt
      have hx := hE _ (mem_at hla)
      simp only at d0 d1 d2 hx
      obtain ⟨f, rfl⟩ := Int.eq_ofNat_of_zero_le hx.1
      obtain ⟨t, rfl⟩ := Int.eq_ofNat_of_zero_le hx.2.2.1
      have hf : f < N := by omega
      have ht : t < N := by omega
      have HL := Lib.hid hla; clear hla hx
      have hbw : b < wr.heap.size := by have := Bw.size; omega
      by_cases hft : f = t
      · have hloop := fun W => isLoop_any ⟨(f : Int), (t : Int), z⟩ W
        simp only [hft, decide_true] at hloop
        subst hft
        go_wp2_with fail
        refine (hloop _).mono ?_
        rintro e w2 ⟨rfl, B2⟩
        go_wp2_with fail
        go_roundw
        case rel =>
          refine ⟨k + 1, cur, H, R, C, Ac, B, by omega, by go_num, F0.loop HL.out rfl, P0.loop HL.out rfl, (KR.alloc _).below B2 (KR.alloc _).lt, (C1.alloc _).on B2, (K1.alloc _).below B2 (K1.alloc _).lt, (K2.alloc _).below B2 (K2.alloc _).lt, ?_, fun g t cs h h1 h2 h3 => ((HKP.out g t cs h h1 h2 h3).alloc _).below B2 ((HKP.out g t cs h h1 h2 h3).alloc _).lt⟩
          exact (Bw.alloc (by omega) _).trans (B2.mono (by simp; omega))
        case measure => simp [intOf]; omega
      · have hloop := fun W => isLoop_any ⟨(f : Int), (t : Int), z⟩ W
        simp only [show ¬ (f : Int) = (t : Int) by omega, decide_false] at hloop
        go_wp2_with fail
        refine (hloop _).mono ?_
        rintro e w2 ⟨rfl, B2⟩
        have E2 : Blk w2 wr.heap.size 64 #[.int .i64 f, .int .i64 t, .int .i64 z] := (Blk.new rfl).below B2 (by simp)
        have KR2 := (KR.alloc (.cells #[.int .i64 f, .int .i64 t, .int .i64 z] 64)).below B2 (KR.alloc _).lt
        have C2 := (C1.alloc (.cells #[.int .i64 f, .int .i64 t, .int .i64 z] 64)).on B2
        have K12 := (K1.alloc (.cells #[.int .i64 f, .int .i64 t, .int .i64 z] 64)).below B2 (K1.alloc _).lt
        have K22 := (K2.alloc (.cells #[.int .i64 f, .int .i64 t, .int .i64 z] 64)).below B2 (K2.alloc _).lt
        have HKP2 : Hid (∀ g t cs, Blk w g t cs → t ≠ 3 → t ≠ 2 → t ≠ 4 → Blk w2 g t cs) := Lib.hid fun g t cs h h1 h2 h3 => ((HKP.out g t cs h h1 h2 h3).alloc _).below B2 ((HKP.out g t cs h h1 h2 h3).alloc _).lt
        have Bw2 : Below n0 w w2 := (Bw.alloc (by omega) _).trans (B2.mono (by simp; omega))
        have e0 := E2.cell 0; have e1 := E2.cell 1; have e2 := E2.cell 2
        simp only [List.getElem?_toArray, List.getElem?_cons_zero, List.getElem?_cons_succ] at e0 e1 e2
        go_wp2_with fail
        have If : Inc l k f t false z := inc_fwd HL.out (by simp; omega)
        have It : Inc l k t f true 0 := inc_bwd HL.out (by simp; omega)
        have pf := pos_lt If hE
        have pt := pos_lt It hE
        rw [hMe] at pf pt
        have hpq : posOf l k f ≠ posOf l k t := fun hp => hft (by have := (pos_inj If It (by omega) (by omega) hp).1; omega)
        obtain ⟨l1, l2, l3, l4, l5⟩ := P0.lens
        refine (put_any N M S T gF gH gR gC gA gB _ _ gr cr cur _ H R C Ac B k t z f false (posOf l k f) _ (by omega) (F0 f (by omega)) pf hM l1 l3 l4 l5 K22 K12 KR2 (by omega) C2).mono ?_
        rintro e w3 ⟨rfl, hs3, KR3, C3, Bw3, kp3⟩
        have E3 := kp3 _ _ _ E2 (by decide) (by decide) (by decide)
        have K13 := kp3 _ _ _ K12 (by decide) (by decide) (by decide)
        have K23 := kp3 _ _ _ K22 (by decide) (by decide) (by decide)
        have Bw3 : Below n0 w w3 := Bw2.trans (Bw3 n0 (by omega) (by omega) (by omega) (by omega) (by omega) (by have := Bw2.size; omega))
        have HKP3 : Hid (∀ g t cs, Blk w g t cs → t ≠ 3 → t ≠ 2 → t ≠ 4 → Blk w3 g t cs) := Lib.hid fun g t cs h h1 h2 h3 => kp3 g t cs (HKP2.out g t cs h h1 h2 h3) h1 h2 h3
        clear e0 e1 e2 kp3 KR2 C2 K12 K22 E2 Bw2
        have e0 := E3.cell 0; have e1 := E3.cell 1; have e2 := E3.cell 2
        simp only [List.getElem?_toArray, List.getElem?_cons_zero, List.getElem?_cons_succ] at e0 e1 e2
        go_wp2_with fail
        refine (put_any N M S T gF gH gR gC gA gB _ _ gr cr _ _ _ _ _ _ _ k f 0 t true (posOf l k t) _ (by omega) ?_ pt hM (by simp [l1]) (by simp [l3]) (by simp [l4]) (by simp [l5]) K23 K13 KR3 (by omega) C3).mono ?_
        · rw [Array.getElem?_setIfInBounds, if_neg hft]
          exact F0 t (by omega)
        rintro e w4 ⟨rfl, hs4, KR4, C4, Bw4, kp4⟩
        have K14 := kp4 _ _ _ K13 (by decide) (by decide) (by decide)
        have K24 := kp4 _ _ _ K23 (by decide) (by decide) (by decide)
        have Bw4 : Below n0 w w4 := Bw3.trans (Bw4 n0 (by omega) (by omega) (by omega) (by omega) (by omega) (by have := Bw3.size; omega))
        have HKP4 : Hid (∀ g t cs, Blk w g t cs → t ≠ 3 → t ≠ 2 → t ≠ 4 → Blk w4 g t cs) := Lib.hid fun g t cs h h1 h2 h3 => kp4 g t cs (HKP3.out g t cs h h1 h2 h3) h1 h2 h3
        clear e0 e1 e2 kp4 KR3 C3 K13 K23 E3 Bw3
        obtain ⟨a0, a1, a2, a3, a4, a5, a6, a7, a8⟩ := K14.at9
        obtain ⟨x1, hx1⟩ : ∃ x, R[posOf l k f]? = some x := ⟨_, List.getElem?_eq_getElem (by omega)⟩
        obtain ⟨x2, hx2⟩ : ∃ x, R[posOf l k t]? = some x := ⟨_, List.getElem?_eq_getElem (by omega)⟩
        have c1 := C4.kR.iat hx1
        have c2 := C4.kR.iat hx2
        clear hx1 hx2
        have d1 := C4.kR.frozen (posOf l k f); have d2 := C4.kR.frozen (posOf l k t)
        have y1 := C4.kR.ne K14 (by decide)
        have HP := Lib.hid P0; have HF := Lib.hid F0; have HC := Lib.hid C4; have HK1 := Lib.hid K14; have HK2 := Lib.hid K24; have HR4 := Lib.hid KR4; have HB4 := Lib.hid Bw4
        clear P0 F0 C4 K14 K24 KR4 Bw4
        generalize hp : posOf l k (f : Int) = p at *
        generalize hq : posOf l k (t : Int) = q at *
        go_wp2_with fail
        go_region_held3 (fun W' => W'.cell? ⟨w.heap.size, 5, none⟩ = some (.slice (some ⟨gR, 0, none⟩) M M)) (go_keep) (first | fail)
        go_wp2_with fail
        go_roundw
        case rel =>
          have hst := HP.out.step hE hMe HL.out hft
          have hfr := HF.out.step HL.out hft
          rw [hp, hq] at hst hfr
          refine ⟨k + 1, _, _, _, _, _, _, by omega, by go_num, hfr, hst, ?_, ((HC.out.setR p q).setR q p).drew, ?_, ?_, ?_, ?_⟩
          · have hgrR : gr ≠ gR := by omega
            exact ((HR4.out.far hgrR _).far hgrR _).drew
          · exact ((HK1.out.far (Ne.symm y1) _).far (Ne.symm y1) _).drew
          · exact ((HK2.out.far (HK2.out.ne HC.out.kR (by decide)) _).far (HK2.out.ne HC.out.kR (by decide)) _).drew
          · exact ((HB4.out.setCell hg.2.2.1 _).setCell hg.2.2.1 _).drew
          · intro g t cs h h1 h2 h3
            have h' := HKP4.out g t cs h h1 h2 h3
            have hh := h'.ne HC.out.kR h1
            exact ((h'.far hh _).far hh _).drew
        case measure => simp [intOf]; omega
    · go_wp2_with fail
      refine bodyPost_end (v := .tuple #[]) (by simp [results, Try.results42, go_sem]) rfl ⟨rfl, ⟨H, R, C, Ac, B, ?_, C1⟩, Bw, HKP.out⟩
      have hkn : k = l.length := by have := hA.len; omega
      rw [← hkn]
      exact P0

end Go.Proofs.Ytfcjmhihheeifaa

/-! Layer 2: Make. -/
namespace Go.Proofs.Ytfcjmhihheeifaa
open Go.RowKit

/-- The residual network of the arcs l lies in the blocks gF .. gB, below n0. -/
structure CsrAt (w : World) (n0 N : Nat) (l : List ArcN) (gF gH gR gC gA gB : Nat) : Prop where
  lt : gF < n0 ∧ gH < n0 ∧ gR < n0 ∧ gC < n0 ∧ gA < n0 ∧ gB < n0
  first : ∀ v, v ≤ N → w.cell? ⟨gF, v, none⟩ = some (.int .i64 (firstOf l v : Int))
  ent : ∀ i v u b c, Inc l i v u b c → w.cell? ⟨gH, posOf l i v, none⟩ = some (.int .i64 u) ∧ w.cell? ⟨gR, posOf l i v, none⟩ = some (.int .i64 (posOf l i u : Int)) ∧
    w.cell? ⟨gC, posOf l i v, none⟩ = some (.int .i64 c) ∧ w.cell? ⟨gA, posOf l i v, none⟩ = some (.int .i64 (i : Int)) ∧ w.cell? ⟨gB, posOf l i v, none⟩ = some (.bool b)
section
variable {w w' : World} {n0 n1 N : Nat} {l : List ArcN} {gF gH gR gC gA gB : Nat}
theorem CsrAt.below (h : CsrAt w n0 N l gF gH gR gC gA gB) (hb : Below n0 w w') : CsrAt w' n0 N l gF gH gR gC gA gB := by
  obtain ⟨h1, h2, h3, h4, h5, h6⟩ := h.lt
  refine ⟨h.lt, fun v hv => (hb.cell h1).trans (h.first v hv), fun i v u b c hI => ?_⟩
  obtain ⟨e1, e2, e3, e4, e5⟩ := h.ent i v u b c hI
  exact ⟨(hb.cell h2).trans e1, (hb.cell h3).trans e2, (hb.cell h4).trans e3, (hb.cell h5).trans e4, (hb.cell h6).trans e5⟩
theorem CsrAt.more (h : CsrAt w n0 N l gF gH gR gC gA gB) (hn : n0 ≤ n1) : CsrAt w n1 N l gF gH gR gC gA gB := ⟨by have := h.lt; omega, h.first, h.ent⟩
theorem CsrAt.on (h : CsrAt w w.heap.size N l gF gH gR gC gA gB) (hb : Below w.heap.size w w') : CsrAt w' w'.heap.size N l gF gH gR gC gA gB := (h.below hb).more hb.size
theorem CsrAt.onAlloc (h : CsrAt w w.heap.size N l gF gH gR gC gA gB) (o : Obj) : CsrAt (w.alloc o) (w.alloc o).heap.size N l gF gH gR gC gA gB := h.on (below_alloc o)
theorem CsrAt.alloc1 (h : CsrAt w w.heap.size N l gF gH gR gC gA gB) (o : Obj) : CsrAt (w.alloc o) w.heap.size N l gF gH gR gC gA gB := h.below (below_alloc o)
theorem CsrAt.of_blk {M : Nat} {H R C A : List Int} {B : List Bool} (h : CsrBlk w (tab (N + 1) fun v => (firstOf l v : Int)) H R C A B gF gH gR gC gA gB) (P : Part l M l.length H R C A B) : CsrAt w w.heap.size N l gF gH gR gC gA gB :=
  ⟨h.lts, fun v hv => h.kF.iat (tab_at (by omega)), fun i v u b c hI => by
    obtain ⟨e1, e2, e3, e4, e5⟩ := P.ent i v u b c hI.lt hI
    exact ⟨h.kH.iat e1, h.kR.iat e2, h.kC.iat e3, h.kA.iat e4, h.kB.bat e5⟩⟩
end
/-- A residual network in new memory is answered. -/
def RetCsr (N : Nat) (S T : Int) (l : List ArcN) (w : World) (e : Ending) (w' : World) : Prop :=
  ∃ gF gH gR gC gA gB, e = .returned (.tuple #[csrV N (firstOf l N) S T gF gH gR gC gA gB, .int .i64 0]) ∧ (w.heap.size ≤ gF ∧ w.heap.size ≤ gH ∧ w.heap.size ≤ gR ∧ w.heap.size ≤ gC ∧ w.heap.size ≤ gA ∧ w.heap.size ≤ gB) ∧
    CsrAt w' w'.heap.size N l gF gH gR gC gA gB ∧ Below w.heap.size w w'

theorem ends_of_check {N : Nat} {S T : Int} {l : List ArcN} (h : checkF N S T l = 0) : N ≤ 4096 ∧ l.length ≤ 16384 ∧ EndsIn N l := by
  obtain ⟨h1, h2, h3, h4, h5, h6⟩ := check_ok h
  refine ⟨?_, h2, fun a ha => ?_⟩
  · simp [vertsB] at h1; omega
  · have := List.all_eq_true.1 h4 a ha
    simp [isVertB] at this
    omega

set_option maxHeartbeats 1000000 in
theorem make_good (N : Nat) (S T : Int) (A : Option Addr) (n c : Nat) (l : List ArcN) (w : World) (hA : Arcs w w.heap.size A n l) (hc : checkF N S T l = 0) :
    Calls Try.prog 17 #[.agg #[.int .i64 N, .int .i64 S, .int .i64 T, .slice A n c]] w (RetCsr N S T l w) := by
  obtain ⟨hN, hl, hE⟩ := ends_of_check hc
  have hln := hA.len
  have HC := Lib.hid hc; clear hc
  obtain ⟨M, hMe⟩ : ∃ M, firstOf l N = M := ⟨_, rfl⟩
  go_enter Try.func17, Try.ntmps17
  go_wp2_with fail
  refine (check_is _ ((hA.onAlloc _).onAlloc _) (by omega) HC.out).mono ?_
  rintro e w1 ⟨rfl, B1⟩
  have K1 : Blk w1 w.heap.size 24 #[.int .i64 N, .int .i64 S, .int .i64 T, .slice A n c] := ((Blk.new rfl).alloc _).below B1 (by simp; omega)
  have K2 : Blk w1 (w.heap.size + 1) 45 #[.int .i64 0, .int .i64 0, .int .i64 0, .slice none 0 0, .slice none 0 0, .slice none 0 0, .slice none 0 0, .slice none 0 0, .slice none 0 0] := (Blk.new (by simp)).below B1 (by simp)
  have A1 := ((hA.onAlloc _).onAlloc _).on B1
  have hz1 := K1.lt
  have hz2 := K2.lt
  have Bw1 : Below w.heap.size w w1 := below_step ((below_alloc _).alloc (by simp) _) B1
  obtain ⟨r0, r1, r2, r3⟩ := K1.at4
  clear B1
  go_wp2_with fail
  refine (empty_any _ _ _ _ _ _ l _ A1 (by omega) hN hE).mono ?_
  rintro e w2 ⟨gF, gH, gR, gC, gA, gB, rfl, hg, CB, B2⟩
  rw [hMe] at CB ⊢
  have K12 := K1.below B2 K1.lt
  have K22 := K2.below B2 K2.lt
  have A2 := hA.below (Bw1.trans (B2.mono (by omega)))
  have Bw2 : Below w.heap.size w w2 := below_step Bw1 B2
  have hz3 := B2.size
  have hz4 : w.heap.size < w2.heap.size := K12.lt
  have hz5 : w.heap.size + 1 < w2.heap.size := K22.lt
  obtain ⟨r0, r1, r2, r3⟩ := K12.at4
  clear K1 K2 A1
  go_wp2_with fail
  refine (write_any N M w.heap.size S T gF gH gR gC gA gB A n c l _ (A2.below ((Below.refl _ _).alloc (by omega) _)) (by omega) hN hE hMe (by simp; omega) (by omega) (CB.alloc _)).mono ?_
  rintro e w3 ⟨rfl, ⟨H, R, C, Ac, B, P, C3⟩, B3, kp3⟩
  have K23 := kp3 _ _ _ (K22.alloc _) (by decide) (by decide) (by decide)
  have K33 := kp3 _ _ _ (Blk.new rfl) (by decide) (by decide) (by decide)
  have Bw3 : Below w.heap.size w w3 := (Bw2.alloc (by omega) _).trans B3
  obtain ⟨a0, a1, a2, a3, a4, a5, a6, a7, a8⟩ := K33.at9
  obtain ⟨b0, b1, b2, b3, b4, b5, b6, b7, b8⟩ := K23.at9
  obtain ⟨f0, f1, f2, f3, f4, f5, f6, f7, f8⟩ := K23.free9
  have KQ := K23.set9 (.int .i64 N) (.int .i64 S) (.int .i64 T) (.slice (some ⟨gF, 0, none⟩) (N + 1) (N + 1)) (.slice (some ⟨gH, 0, none⟩) M M) (.slice (some ⟨gR, 0, none⟩) M M) (.slice (some ⟨gC, 0, none⟩) M M) (.slice (some ⟨gA, 0, none⟩) M M) (.slice (some ⟨gB, 0, none⟩) M M)
  have HC3 := Lib.hid C3; have HP := Lib.hid P; have HK := Lib.hid KQ; have HKZ := Lib.hid K23; have HB := Lib.hid Bw3
  clear C3 P KQ K23 K33 Bw3 kp3 B3
  go_wp2_with fail
  obtain ⟨q0, q1, q2, q3, q4, q5, q6, q7, q8⟩ := HK.out.at9
  have hf : gF ≠ w.heap.size + 1 ∧ gH ≠ w.heap.size + 1 ∧ gR ≠ w.heap.size + 1 ∧ gC ≠ w.heap.size + 1 ∧ gA ≠ w.heap.size + 1 ∧ gB ≠ w.heap.size + 1 := by omega
  refine bodyPost_ret (v := .tuple #[csrV N M S T gF gH gR gC gA gB, .int .i64 0]) (by simp [results, Try.results17, go_sem, q0, q1, q2, q3, q4, q5, q6, q7, q8]) rfl ?_
  subst hMe
  refine ⟨gF, gH, gR, gC, gA, gB, rfl, by omega, ?_, ?_⟩
  · exact CsrAt.of_blk (((((((((HC3.out.far hf _).far hf _).far hf _).far hf _).far hf _).far hf _).far hf _).far hf _).far hf _) HP.out
  · exact ((((((((HB.out.setCell (by simp) _).setCell (by simp) _).setCell (by simp) _).setCell (by simp) _).setCell (by simp) _).setCell (by simp) _).setCell (by simp) _).setCell (by simp) _).setCell (by simp) _

end Go.Proofs.Ytfcjmhihheeifaa
