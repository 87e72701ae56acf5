/- CsrTurns: the walk. -/
import Derived.Test.YtbmndghgmndgmaaAwake2
import Derived.Test.YtbmndghgmndgmaaSomep
import Derived.Test.YtbmndghgmndgmaaWithin
import Derived.Test.YtbmndghgmndgmaaCsrg
import Derived.Test.YtbmndghgmndgmaaTurnq
import Derived.Test.YtbmndghgmndgmaaOpen
namespace Go.Proofs.Ytbmndghgmndgmaa
open Go.RowKit

/-- Two rows of numbers of which each cell holds the same. -/
theorem ints_both {w : World} {B g g' n : Nat} (hg : g < B) (hg' : g' < B) (h : ∀ k, k < n → ∃ x : Int, w.cell? ⟨g, k, none⟩ = some (.int .i64 x) ∧ w.cell? ⟨g', k, none⟩ = some (.int .i64 x)) :
    ∃ L, Ints w B (some ⟨g, 0, none⟩) n L ∧ Ints w B (some ⟨g', 0, none⟩) n L := by
  obtain ⟨L, hl, hp⟩ := list_of_each h
  exact ⟨L, ints_of_cells hg hl fun j x hx => (hp j x hx).1, ints_of_cells hg' hl fun j x hx => (hp j x hx).2⟩
theorem turned_rows {w : World} {N M : Nat} {l : List ArcN} {gF gH gR gC gA gB gF' gH' gR' gC' gA' gB' : Nat} (h : CsrAt w w.heap.size N l gF gH gR gC gA gB) (h' : CsrAt w w.heap.size N (l.map turnArc) gF' gH' gR' gC' gA' gB') (hM : firstOf l N = M) :
    (∃ L, Ints w w.heap.size (some ⟨gF, 0, none⟩) (N + 1) L ∧ Ints w w.heap.size (some ⟨gF', 0, none⟩) (N + 1) L) ∧ (∃ L, Ints w w.heap.size (some ⟨gA, 0, none⟩) M L ∧ Ints w w.heap.size (some ⟨gA', 0, none⟩) M L) ∧
    (∃ L, Ints w w.heap.size (some ⟨gH, 0, none⟩) M L ∧ Ints w w.heap.size (some ⟨gH', 0, none⟩) M L) ∧ (∃ L, Ints w w.heap.size (some ⟨gR, 0, none⟩) M L ∧ Ints w w.heap.size (some ⟨gR', 0, none⟩) M L) := by
  obtain ⟨l1, l2, l3, l4, l5, l6⟩ := h.lt
  obtain ⟨m1, m2, m3, m4, m5, m6⟩ := h'.lt
  have both : ∀ k, k < M → ∃ i v u b c c', Inc l i v u b c ∧ posOf l i v = k ∧ Inc (l.map turnArc) i v u (!b) c' := fun k hk => by
    obtain ⟨i, v, u, b, c, hI, hp, _, _⟩ := pos_find (l := l) (N := N) (j := k) (by omega)
    obtain ⟨c', hI'⟩ := hI.turn
    exact ⟨i, v, u, b, c, c', hI, hp.symm, hI'⟩
  refine ⟨ints_both l1 m1 fun k hk => ⟨_, h.first k (by omega), by rw [h'.first k (by omega), first_turn]⟩, ints_both l5 m5 fun k hk => ?_, ints_both l2 m2 fun k hk => ?_, ints_both l3 m3 fun k hk => ?_⟩
  all_goals
    obtain ⟨i, v, u, b, c, c', hI, rfl, hI'⟩ := both k hk
    have e := h.ent _ _ _ _ _ hI
    have e' := h'.ent _ _ _ _ _ hI'
    rw [pos_turn, pos_turn] at e'
  · exact ⟨_, e.2.2.2.1, e'.2.2.2.1⟩
  · exact ⟨_, e.1, e'.1⟩
  · exact ⟨_, e.2.1, e'.2.1⟩

theorem turns2_keep {w W : World} {g g' : Nat} {t : TypeId} {v0 v1 v2 v3 v4 v5 v6 v7 v8 x : Value} (h : Blk w g t #[v0, v1, v2, v3, v4, v5, v6, v7, v8]) (h8 : w.cell? ⟨g', 8, none⟩ = some x) (l8 : g' < w.heap.size) (hb : Below w.heap.size w W) :
    Below w.heap.size w W ∧ W.cell? ⟨g, 0, none⟩ = some v0 ∧ W.cell? ⟨g, 1, none⟩ = some v1 ∧ W.cell? ⟨g, 2, none⟩ = some v2 ∧ W.cell? ⟨g, 3, none⟩ = some v3 ∧ W.cell? ⟨g, 4, none⟩ = some v4 ∧
      W.cell? ⟨g, 5, none⟩ = some v5 ∧ W.cell? ⟨g, 6, none⟩ = some v6 ∧ W.cell? ⟨g, 7, none⟩ = some v7 ∧ W.cell? ⟨g, 8, none⟩ = some v8 ∧ W.cell? ⟨g', 8, none⟩ = some x := by
  obtain ⟨b0, b1, b2, b3, b4, b5, b6, b7, b8⟩ := (h.below hb h.lt).at9
  exact ⟨hb, b0, b1, b2, b3, b4, b5, b6, b7, b8, (hb.cell l8).trans h8⟩

set_option maxRecDepth 100000 in
set_option maxHeartbeats 8000000 in
theorem turnsc_walk (N S T : Int) (A : Option Addr) (n c : Nat) (l : List ArcN) (AL : Option Addr) (nl cl : Nat) (L : List Int) (w : World) (hA : Arcs w w.heap.size A n l) (hf : FitsAll l) (hnc : n ≤ c) (hL : Ints w w.heap.size AL nl L) (hLR : ∀ x ∈ L, InR x) :
    Calls Try.prog 6 #[.agg #[.int .i64 N, .int .i64 S, .int .i64 T, .slice A n c], .slice AL nl cl] w fun e w' => e = .returned (.bool true) ∧ Below w.heap.size w w' := by
  have hso := fun W hW => some_any N S T A n c 40 80 l W hW hf hnc (by omega) (by omega) (by omega)
  obtain ⟨N1, hN1, hN2, hN3, hck, hln, hmem⟩ := some_net N S T 40 80 l (by omega) (by omega) (by omega)
  rw [hN1] at hso hck hln hmem
  generalize S % (N1 : Int) = S1 at *
  generalize someT (N1 : Int) S T = T1 at *
  generalize someL (N1 : Int) 80 l = l1 at *
  obtain ⟨-, -, hE⟩ := ends_of_check hck
  have hM := csr_size (N := N1) (l := l1) (by omega) (by omega)
  obtain ⟨M, hMe⟩ : ∃ M, firstOf l1 N1 = M := ⟨_, rfl⟩
  rw [hMe] at hM
  have hck' : checkF (N1 : Int) T1 S1 (l1.map turnArc) = 0 := (check_turn _ _ _ _).trans hck
  obtain ⟨i0, hi, hz0, hz1, hz2⟩ := info_parts arc_info
  have HI := Lib.hid hi; have HZ0 := Lib.hid hz0; have HZ1 := Lib.hid hz1; have HZ2 := Lib.hid hz2
  have HSO := Lib.hid hso; have HCK := Lib.hid hck; have HCK' := Lib.hid hck'; have HMEM := Lib.hid hmem
  clear hso hck hck' hmem hN1 hi hz0 hz1 hz2
  go_enter Try.func6, Try.ntmps6
  go_wp2_with fail
  refine (HSO.out _ (hA.onAlloc _)).mono ?_
  rintro e w1 ⟨A1, n1, c1, rfl, o1, hl1, B1⟩
  have K1 : Blk w1 w.heap.size 24 #[.int .i64 N, .int .i64 S, .int .i64 T, .slice A n c] := (Blk.new rfl).below B1 (by simp)
  have hz1 := K1.lt
  obtain ⟨r0, r1, r2, r3⟩ := K1.at4
  obtain ⟨f0, f1, f2, f3⟩ := K1.free4
  have ST := some_stored K1 o1 hl1 (below_step (below_alloc _) B1) (.int .i64 (N1 : Int)) (.int .i64 S1) (.int .i64 T1)
  have hn1 : n1 ≤ 80 := by omega
  go_upto_region 2 with fail
  generalize (((w1.setCell ⟨w.heap.size, 0, none⟩ (.int .i64 (N1 : Int))).setCell ⟨w.heap.size, 1, none⟩ (.int .i64 S1)).setCell ⟨w.heap.size, 2, none⟩ (.int .i64 T1)).setCell ⟨w.heap.size, 3, none⟩ (.slice A1 n1 c1) = w2 at *
  obtain ⟨K2, a2, Bw2⟩ := ST
  clear r0 r1 r2 r3 f0 f1 f2 f3 K1 o1 B1 hz1 HSO
  obtain ⟨r0, r1, r2, r3⟩ := K2.at4
  have hz2 := K2.lt
  go_wp2_with fail
  go_loopw [7, 30] (fun _ i wr => ∃ (k : Nat) (AJ : Option Addr) (cJ : Nat), k ≤ n1 ∧ i = .int .i64 k ∧ Below w2.heap.size w2 wr ∧
      Blk wr w2.heap.size 24 #[.int .i64 (N1 : Int), .int .i64 T1, .int .i64 S1, .slice AJ k cJ] ∧ wr.ownsRow (w2.heap.size + 1) 38 3 (.slice AJ k cJ) k (((l1.take k).map turnArc).flatMap arcCells)) (fun _ i _ => n1 - (intOf i).toNat)
  case atStart =>
    refine ⟨0, none, 0, Nat.zero_le _, rfl, below_alloc _, Blk.new rfl, ?_⟩
    simpa using World.ownsRow_nil _ _ _ _
  case round =>
    obtain ⟨k, AJ, cJ, hk, rfl, hb, KT, ho⟩ := hrel
    have HO := Lib.hid ho; clear ho
    have hzT := KT.lt
    by_cases hlt : k < n1
    · obtain ⟨b, off, a, rfl, hbl, hla, d0, d1, d2⟩ := arcs_at (a2.below hb) hlt
      have HL := Lib.hid hla; clear hla
      have hbw : b < wr.heap.size := by omega
      clear r0 r1 r2 r3
      obtain ⟨r0, r1, r2, r3⟩ := KT.at4
      obtain ⟨f0, f1, f2, f3⟩ := KT.free4
      go_wp2_with (at_builtin; refine wpList_append_row _ rfl (.tmp 35) (.tmp 43) _ rfl (w2.heap.size + 1) 38 i0 _ 3 24 Try.underlying22 HI.out HZ0.out HZ1.out HZ2.out rfl (by omega) AJ k cJ _ rfl ((HO.out.alloc _).alloc _) (some ⟨wr.heap.size + 1, 0, none⟩) 1 1 ([turnArc a].flatMap arcCells) rfl rfl ?_ arc_one ?_ ?_ ?_ ?_)
      · intro _
        refine ⟨_, rfl, fun j u hu => ?_⟩
        rw [addr_add, Nat.zero_add]
        exact ((Blk.new (by simp) : Blk ((wr.alloc _).alloc _) (wr.heap.size + 1) 38 #[.int .i64 a.to, .int .i64 a.frm, .int .i64 a.cap]).cell j).trans (by simpa [arcCells, turnArc] using hu)
      · unfold maxLen; omega
      · omega
      · simp; omega
      · intro A4 c4 w4 HO4 hg4 HX4
        have T4 := ((KT.alloc _).alloc _).grownO hg4 ((HO.out.alloc _).alloc _) (by decide)
        have B4 := below_grown ((hb.alloc (by omega) _).alloc (by simp; omega) _) hg4 ((HO.out.alloc _).alloc _) (by omega) (by simp; omega)
        clear r0 r1 r2 r3 f0 f1 f2 f3 d0 d1 d2
        obtain ⟨r0, r1, r2, r3⟩ := T4.at4
        obtain ⟨f0, f1, f2, f3⟩ := T4.free4
        go_wp2_with fail
        go_roundw
        case rel =>
          refine ⟨k + 1, A4, c4, by omega, by go_num, B4.setCell (by simp) _, T4.set4' _, ?_⟩
          have ho4 : w4.ownsRow (w2.heap.size + 1) 38 3 (.slice A4 (k + 1) c4) (k + 1) (((l1.take (k + 1)).map turnArc).flatMap arcCells) := by
            rw [take_at HL.out, List.map_append, List.flatMap_append]
            simpa using HO4.out
          exact own_far (p := ⟨w2.heap.size, 3, none⟩) ho4 (own_ne ho4 T4 (by decide)) _
        case measure => simp [intOf]; omega
    · obtain rfl : n1 = k := by omega
      have aT : Arcs wr wr.heap.size AJ n1 (l1.map turnArc) := by
        have := HO.out
        rw [List.take_of_length_le (by omega)] at this
        exact arcs_own this (by simpa using hl1)
      have K3 := K2.below hb K2.lt
      have a3 := a2.on hb
      have Bw3 := below_step Bw2 hb
      have L3 := ((hL.below Bw2).more Bw2.size).on hb
      have hzb := hb.size
      clear r0 r1 r2 r3 K2 a2 Bw2 HO
      obtain ⟨r0, r1, r2, r3⟩ := K3.at4
      go_wp2_with fail
      refine (withinL_any N1 S1 T1 A1 n1 c1 l1 AL nl cl L _ a3 (by omega) (fun a ha => by have := HMEM.out a ha; omega) L3 hLR).mono ?_
      rintro e w5 ⟨gX, X, rfl, hgX, X5, WX, B5⟩
      have K5 := K3.below B5 K3.lt
      have T5 := KT.below B5 KT.lt
      have a5 := a3.on B5
      have aT5 := aT.on B5
      have Bw5 := below_step Bw3 B5
      clear r0 r1 r2 r3 K3 KT a3 aT Bw3 L3 B5
      obtain ⟨r0, r1, r2, r3⟩ := K5.at4
      go_wp2_with fail
      refine (make_good N1 S1 T1 A1 n1 c1 l1 _ a5 HCK.out).mono ?_
      rintro e w6 ⟨gF, gH, gR, gC, gA, gB, rfl, hg, C6, B6⟩
      rw [hMe]
      have T6 := T5.below B6 T5.lt
      have aT6 := aT5.on B6
      have X6 := X5.below B6 X5.lt
      have Bw6 := below_step Bw5 B6
      clear r0 r1 r2 r3 K5 T5 a5 aT5 Bw5 X5 B6
      obtain ⟨r0, r1, r2, r3⟩ := T6.at4
      have hz6 := T6.lt
      go_wp2_with fail
      have C6' := C6.onAlloc (.cells #[.int .i64 (N1 : Int), .int .i64 S1, .int .i64 T1, .slice (some ⟨gF, 0, none⟩) (N1 + 1) (N1 + 1), .slice (some ⟨gH, 0, none⟩) M M, .slice (some ⟨gR, 0, none⟩) M M, .slice (some ⟨gC, 0, none⟩) M M, .slice (some ⟨gA, 0, none⟩) M M, .slice (some ⟨gB, 0, none⟩) M M] 30)
      have KC6 : Blk (w6.alloc (.cells #[.int .i64 (N1 : Int), .int .i64 S1, .int .i64 T1, .slice (some ⟨gF, 0, none⟩) (N1 + 1) (N1 + 1), .slice (some ⟨gH, 0, none⟩) M M, .slice (some ⟨gR, 0, none⟩) M M, .slice (some ⟨gC, 0, none⟩) M M, .slice (some ⟨gA, 0, none⟩) M M, .slice (some ⟨gB, 0, none⟩) M M] 30)) w6.heap.size 30 #[.int .i64 (N1 : Int), .int .i64 S1, .int .i64 T1, .slice (some ⟨gF, 0, none⟩) (N1 + 1) (N1 + 1), .slice (some ⟨gH, 0, none⟩) M M, .slice (some ⟨gR, 0, none⟩) M M, .slice (some ⟨gC, 0, none⟩) M M, .slice (some ⟨gA, 0, none⟩) M M, .slice (some ⟨gB, 0, none⟩) M M] := Blk.new rfl
      refine (make_good N1 T1 S1 AJ n1 cJ (l1.map turnArc) _ (aT6.onAlloc _) HCK'.out).mono ?_
      rintro e w7 ⟨hF, hH, hR, hC, hA', hB, rfl, hg', D7, B7⟩
      rw [first_turn, hMe]
      have C7 := C6'.on B7
      have KC7 := KC6.below B7 KC6.lt
      have X7 := (X6.alloc _).below B7 (X6.alloc _).lt
      have Bw7 := below_step (Bw6.alloc Bw6.size _) B7
      have hz7 := KC7.lt
      clear r0 r1 r2 r3 C6 C6' KC6 X6 T6 aT6 Bw6 B7
      obtain ⟨a0, a1, a2, a3, a4, a5, a6, a7, a8⟩ := KC7.at9
      have hXl : X.length = n1 := WX.len.trans hl1
      have hok : okB l1 X = true := okB_iff.2 fun i a x ha hx => by
        have := WX.ent i a x (by have := (List.getElem?_eq_some_iff.1 ha).1; omega) ha hx
        exact .inr ⟨this.1, this.2.1⟩
      have hcap : ∀ a ∈ l1, a.cap ≤ 4611686018427387904 := fun a ha => by have := HMEM.out a ha; omega
      have hcap' : ∀ a ∈ l1.map turnArc, a.cap ≤ 4611686018427387904 := fun a ha => by
        obtain ⟨b, hb, rfl⟩ := List.mem_map.1 ha
        exact hcap b hb
      go_wp2_with fail
      have KD7 : Blk (w7.alloc (.cells #[.int .i64 (N1 : Int), .int .i64 T1, .int .i64 S1, .slice (some ⟨hF, 0, none⟩) (N1 + 1) (N1 + 1), .slice (some ⟨hH, 0, none⟩) M M, .slice (some ⟨hR, 0, none⟩) M M, .slice (some ⟨hC, 0, none⟩) M M, .slice (some ⟨hA', 0, none⟩) M M, .slice (some ⟨hB, 0, none⟩) M M] 30)) w7.heap.size 30 #[.int .i64 (N1 : Int), .int .i64 T1, .int .i64 S1, .slice (some ⟨hF, 0, none⟩) (N1 + 1) (N1 + 1), .slice (some ⟨hH, 0, none⟩) M M, .slice (some ⟨hR, 0, none⟩) M M, .slice (some ⟨hC, 0, none⟩) M M, .slice (some ⟨hA', 0, none⟩) M M, .slice (some ⟨hB, 0, none⟩) M M] := Blk.new rfl
      have D7' := D7.onAlloc (.cells #[.int .i64 (N1 : Int), .int .i64 T1, .int .i64 S1, .slice (some ⟨hF, 0, none⟩) (N1 + 1) (N1 + 1), .slice (some ⟨hH, 0, none⟩) M M, .slice (some ⟨hR, 0, none⟩) M M, .slice (some ⟨hC, 0, none⟩) M M, .slice (some ⟨hA', 0, none⟩) M M, .slice (some ⟨hB, 0, none⟩) M M] 30)
      have C7' := C7.onAlloc (.cells #[.int .i64 (N1 : Int), .int .i64 T1, .int .i64 S1, .slice (some ⟨hF, 0, none⟩) (N1 + 1) (N1 + 1), .slice (some ⟨hH, 0, none⟩) M M, .slice (some ⟨hR, 0, none⟩) M M, .slice (some ⟨hC, 0, none⟩) M M, .slice (some ⟨hA', 0, none⟩) M M, .slice (some ⟨hB, 0, none⟩) M M] 30)
      refine (res_good N1 M S1 T1 gF gH gR gC gA gB l1 _ n1 _ X _ C7' hE hMe hM ((X7.ints hXl).onAlloc _) hl1 hok hcap).mono ?_
      rintro e w8 ⟨gx, Xc, rfl, hgx, Y8, hYl, R8, B8⟩
      have C8 := C7'.on B8
      have D8 := D7'.on B8
      have KC8 := (KC7.alloc _).below B8 (KC7.alloc _).lt
      have KD8 := KD7.below B8 KD7.lt
      have X8 := (X7.alloc _).below B8 (X7.alloc _).lt
      have Bw8 := below_step (Bw7.alloc Bw7.size _) B8
      clear a0 a1 a2 a3 a4 a5 a6 a7 a8 C7 C7' D7 D7' KC7 KD7 X7 Bw7 B8
      obtain ⟨a0, a1, a2, a3, a4, a5, a6, a7, a8⟩ := KD8.at9
      go_wp2_with fail
      refine (res_good N1 M T1 S1 hF hH hR hC hA' hB (l1.map turnArc) _ n1 _ X _ D8 (ends_turn hE) ((first_turn l1 N1).trans hMe) hM (X8.ints hXl) (by simpa using hl1) (ok_turn l1 X hok) hcap').mono ?_
      rintro e w9 ⟨gy, Yd, rfl, hgy, Z9, hZl, R9, B9⟩
      have C9 := C8.on B9
      have D9 := D8.on B9
      have KC9 := KC8.below B9 KC8.lt
      have KD9 := KD8.below B9 KD8.lt
      have Y9 := Y8.below B9 Y8.lt
      have Bw9 := below_step Bw8 B9
      clear a0 a1 a2 a3 a4 a5 a6 a7 a8 C8 D8 KC8 KD8 X8 Y8 Bw8 B9
      obtain ⟨⟨LF, f1, f1'⟩, ⟨LA, f2, f2'⟩, ⟨LH, f3, f3'⟩, ⟨LR, f4, f4'⟩⟩ := turned_rows C9 D9 hMe
      obtain ⟨a0, a1, a2, a3, a4, a5, a6, a7, a8⟩ := KC9.at9
      obtain ⟨b0, b1, b2, b3, b4, b5, b6, b7, b8⟩ := KD9.at9
      go_wp2_with fail
      refine (ints_is _ _ f1 f1' (by omega) (by omega) (v := true) (by simp)).mono ?_
      rintro e wa ⟨rfl, P1⟩
      clear a0 a1 a2 a3 a4 a5 a6 a7 a8 b0 b1 b2 b3 b4 b5 b6 b7 b8
      obtain ⟨a0, a1, a2, a3, a4, a5, a6, a7, a8⟩ := (KC9.below P1 KC9.lt).at9
      obtain ⟨b0, b1, b2, b3, b4, b5, b6, b7, b8⟩ := (KD9.below P1 KD9.lt).at9
      go_wp2_with fail
      refine (ints_is _ _ (f2.on P1) (f2'.on P1) (by omega) (by omega) (v := true) (by simp)).mono ?_
      rintro e wb ⟨rfl, P2'⟩
      have P2 := below_step P1 P2'
      clear a0 a1 a2 a3 a4 a5 a6 a7 a8 b0 b1 b2 b3 b4 b5 b6 b7 b8 P2'
      obtain ⟨a0, a1, a2, a3, a4, a5, a6, a7, a8⟩ := (KC9.below P2 KC9.lt).at9
      obtain ⟨b0, b1, b2, b3, b4, b5, b6, b7, b8⟩ := (KD9.below P2 KD9.lt).at9
      go_wp2_with fail
      refine (ints_is _ _ (f3.on P2) (f3'.on P2) (by omega) (by omega) (v := true) (by simp)).mono ?_
      rintro e wcc ⟨rfl, P3'⟩
      have P3 := below_step P2 P3'
      clear a0 a1 a2 a3 a4 a5 a6 a7 a8 b0 b1 b2 b3 b4 b5 b6 b7 b8 P3'
      obtain ⟨a0, a1, a2, a3, a4, a5, a6, a7, a8⟩ := (KC9.below P3 KC9.lt).at9
      obtain ⟨b0, b1, b2, b3, b4, b5, b6, b7, b8⟩ := (KD9.below P3 KD9.lt).at9
      go_wp2_with fail
      refine (ints_is _ _ (f4.on P3) (f4'.on P3) (by omega) (by omega) (v := true) (by simp)).mono ?_
      rintro e wd ⟨rfl, P4'⟩
      have P4 := below_step P3 P4'
      have KC := KC9.below P4 KC9.lt
      have KD := KD9.below P4 KD9.lt
      have CC := C9.on P4
      have DD := D9.on P4
      have XX := Y9.below P4 Y9.lt
      have YY := Z9.below P4 Z9.lt
      have Bw := below_step Bw9 P4
      clear a0 a1 a2 a3 a4 a5 a6 a7 a8 b0 b1 b2 b3 b4 b5 b6 b7 b8 P4' P1 P2 P3 P4 KC9 KD9 C9 D9 Y9 Z9 Bw9 f1 f1' f2 f2' f3 f3' f4 f4'
      obtain ⟨a0, a1, a2, a3, a4, a5, a6, a7, a8⟩ := KC.at9
      obtain ⟨b0, b1, b2, b3, b4, b5, b6, b7, b8⟩ := KD.at9
      go_wp2_with fail
      go_loopw [17, 121] (fun _ i wr => ∃ k nd : Nat, k ≤ M ∧ i = .int .i64 k ∧ wr = wd.drewN nd) (fun _ i _ => M - (intOf i).toNat)
      case atStart => exact ⟨0, 0, Nat.zero_le _, rfl, rfl⟩
      case round =>
        obtain ⟨k, nd, hk, rfl, rfl⟩ := hrel
        by_cases hlt2 : k < M
        · obtain ⟨i, q, v, u, b, c, hI, hpos, hqos, hq, e1, e2, e3, e4, e5⟩ := CC.at hE (show k < firstOf l1 N1 by omega)
          obtain ⟨c', hI'⟩ := hI.turn
          obtain ⟨d1, d2, d3, d4, d5⟩ := DD.ent _ _ _ _ _ hI'
          rw [pos_turn, hpos] at d5
          obtain ⟨x, hx⟩ : ∃ x, X[i]? = some x := ⟨_, List.getElem?_eq_getElem (by have := hI.lt; omega)⟩
          obtain ⟨z, z1, z2⟩ := res_turn R8 R9 hI hx
          rw [hpos] at z1
          rw [hqos] at z2
          have x1 := XX.iat z1
          have y1 := YY.iat z2
          have hqM : q < M := by omega
          have hbb : (b == !b) = false := by cases b <;> rfl
          clear e1 e3 e4 d1 d2 d3 d4 z1 z2 hx hI hI' hpos hqos
          go_wp2_with fail
          go_quiet (fail)
          go_wp2_with fail
          go_roundw
          case rel => exact ⟨k + 1, nd + nq, by omega, by go_num, rfl⟩
          case measure => simp [intOf]; omega
        · go_wp2_with fail
          go_region_held3 (fun W => Below wd.heap.size wd W ∧ W.cell? ⟨w6.heap.size, 0, none⟩ = some (.int .i64 (N1 : Int)) ∧ W.cell? ⟨w6.heap.size, 1, none⟩ = some (.int .i64 S1) ∧ W.cell? ⟨w6.heap.size, 2, none⟩ = some (.int .i64 T1) ∧ W.cell? ⟨w6.heap.size, 3, none⟩ = some (.slice (some ⟨gF, 0, none⟩) (N1 + 1) (N1 + 1)) ∧ W.cell? ⟨w6.heap.size, 4, none⟩ = some (.slice (some ⟨gH, 0, none⟩) M M) ∧ W.cell? ⟨w6.heap.size, 5, none⟩ = some (.slice (some ⟨gR, 0, none⟩) M M) ∧ W.cell? ⟨w6.heap.size, 6, none⟩ = some (.slice (some ⟨gC, 0, none⟩) M M) ∧ W.cell? ⟨w6.heap.size, 7, none⟩ = some (.slice (some ⟨gA, 0, none⟩) M M) ∧ W.cell? ⟨w6.heap.size, 8, none⟩ = some (.slice (some ⟨gB, 0, none⟩) M M) ∧ W.cell? ⟨w7.heap.size, 8, none⟩ = some (.slice (some ⟨hB, 0, none⟩) M M))
            (first
              | exact turns2_keep KC b8 KD.lt (below_drewN' (Below.refl _ _) _).drew
              | (go_split_ands
                 exact turns2_keep KC b8 KD.lt (by refine below_step ?_ (by assumption); assumption)))
            (first
              | (go_at_call 9; ((with_reducible refine (len_any _ _ _ _ _ _ _ _ _ _ _).mono ?_); rintro e W4 ⟨rfl, B4⟩))
              | (go_at_call 11; ((with_reducible refine (awake2_any _).mono ?_); rintro e W9 ⟨rfl, B9⟩)))
          go_split_ands
          go_wp2_with fail
          go_ret
          exact ⟨rfl, below_step Bw (by assumption)⟩

end Go.Proofs.Ytbmndghgmndgmaa
