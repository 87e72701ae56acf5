/- Layer 1: the chapter's examples ('awake'). -/
import Derived.Test.YtfdidjgecdhaiaaNeth
namespace Go.Proofs.Ytfdidjgecdhaiaa
open Go.RowKit Go.Maps

theorem check_is {N S T : Int} {A : Option Addr} {n : Nat} (c : Nat) {l : List ArcN} {w : World} (hA : Arcs w w.heap.size A n l) (hn : n ≤ 1000000000000) {v : Int} (hv : checkF N S T l = v) :
    Calls Try.prog 10 #[.agg #[.int .i64 N, .int .i64 S, .int .i64 T, .slice A n c]] w fun e w' => e = .returned (.int .i64 v) ∧ Below w.heap.size w w' := by
  subst hv
  exact check_any N S T A n c l w hA hn
theorem sum_is {N S T : Int} {A : Option Addr} {n : Nat} (c : Nat) {l : List ArcN} {w : World} (hA : Arcs w w.heap.size A n l) (hn : n ≤ 1000000000000) {v : Int} {b : Bool} (hv : sumV l = v) (hb : sumB l = b) :
    Calls Try.prog 13 #[.agg #[.int .i64 N, .int .i64 S, .int .i64 T, .slice A n c]] w fun e w' => e = .returned (.tuple #[.int .i64 v, .bool b]) ∧ Below w.heap.size w w' := by
  subst hv; subst hb
  exact sum_any N S T A n c l w hA hn
theorem sameNet_is {N S T N' S' T' : Int} {A B : Option Addr} {n m : Nat} (c d : Nat) {l r : List ArcN} {w : World} (hA : Arcs w w.heap.size A n l) (hB : Arcs w w.heap.size B m r) (hn : n ≤ 1000000000000) (hm : m ≤ 1000000000000) {v : Bool} (hv : sameB N S T l N' S' T' r = v) :
    Calls Try.prog 14 #[.agg #[.int .i64 N, .int .i64 S, .int .i64 T, .slice A n c], .agg #[.int .i64 N', .int .i64 S', .int .i64 T', .slice B m d]] w fun e w' => e = .returned (.bool v) ∧ Below w.heap.size w w' := by
  subst hv
  exact sameNet_any N S T N' S' T' A B n m c d l r w hA hB hn hm
theorem ints_is {A B : Option Addr} {n m : Nat} (c d : Nat) {l r : List Int} {w : World} (hA : Ints w w.heap.size A n l) (hB : Ints w w.heap.size B m r) (hn : n ≤ 1000000000000) (hm : m ≤ 1000000000000) {v : Bool} (hv : decide (l = r) = v) :
    Calls Try.prog 19 #[.slice A n c, .slice B m d] w fun e w' => e = .returned (.bool v) ∧ Below w.heap.size w w' := by
  subst hv
  exact ints_any A B n m c d l r w hA hB hn hm

/-- A row that was just laid. -/
theorem arcs_new {w : World} {g n : Nat} {l : List ArcN} (h : w.heap.size = g) (hl : l.length = n) (hn : n ≤ maxLen) : Arcs (w.alloc (.cells (l.flatMap arcCells).toArray 31)) (w.alloc (.cells (l.flatMap arcCells).toArray 31)).heap.size (some ⟨g, 0, none⟩) n l :=
  RdBy.of_own (base := 0) hl (arc_len l) (own_of_block (Blk.new h) (Nat.zero_le _) hn (by rw [flat_len (arc_len l), hl]))
theorem ints_new {w : World} {g n : Nat} {l : List Int} (h : w.heap.size = g) (hl : l.length = n) (hn : n ≤ maxLen) : Ints (w.alloc (.cells (l.flatMap intCells).toArray 3)) (w.alloc (.cells (l.flatMap intCells).toArray 3)).heap.size (some ⟨g, 0, none⟩) n l :=
  RdBy.of_own (base := 0) hl (int_len l) (own_of_block (Blk.new h) (Nat.zero_le _) hn (by rw [flat_len (int_len l), hl]))
theorem arcs_own {w : World} {base n c : Nat} {A : Option Addr} {l : List ArcN} (h : w.ownsRow base 31 3 (.slice A n c) n (l.flatMap arcCells)) (hl : l.length = n) : Arcs w w.heap.size A n l := RdBy.of_own hl (arc_len l) h
theorem ints_own {w : World} {base n c : Nat} {A : Option Addr} {l : List Int} (h : w.ownsRow base 3 1 (.slice A n c) n (l.flatMap intCells)) (hl : l.length = n) : Ints w w.heap.size A n l := RdBy.of_own hl (int_len l) h
theorem RdBy.on {α : Type} {f : α → List Value} {size : Nat} {w w' : World} {n : Nat} {A : Option Addr} {l : List α} (h : RdBy f size w w.heap.size A n l) (hb : Below w.heap.size w w') : RdBy f size w' w'.heap.size A n l := (h.below hb).more hb.size
theorem RdBy.onAlloc {α : Type} {f : α → List Value} {size : Nat} {w : World} {n : Nat} {A : Option Addr} {l : List α} (h : RdBy f size w w.heap.size A n l) (o : Obj) : RdBy f size (w.alloc o) (w.alloc o).heap.size A n l := h.on (below_alloc o)

theorem join_is {N S T : Int} {A : Option Addr} {n : Nat} (c : Nat) {l : List ArcN} {w : World} (hA : Arcs w w.heap.size A n l) (hn : n ≤ 1000000000000) (hf : FitsAll l) (hc : checkF N S T l = 0) {J : List ArcN} {o : List Int} (hj : joinOf l = (J, o)) :
    Calls Try.prog 16 #[.agg #[.int .i64 N, .int .i64 S, .int .i64 T, .slice A n c]] w (RetJoin N S T J o w) := by
  have := join_good N S T A n c l w hA hn hf hc
  rwa [hj] at this
def threeArcs : List ArcN := [⟨0, 1, 2⟩, ⟨1, 1, 9⟩, ⟨0, 1, 3⟩]
theorem three_fits : FitsAll threeArcs := by
  intro a ha
  simp only [threeArcs, List.mem_cons, List.not_mem_nil, or_false] at ha
  rcases ha with rfl | rfl | rfl <;> simp [ArcN.fits, InR]

set_option maxHeartbeats 2000000 in
theorem awake_any (w : World) : Calls Try.prog 8 #[] w fun e w' => e = .returned (.bool true) ∧ Below w.heap.size w w' := by
  go_enter Try.func8, Try.ntmps8
  go_wp2_with fail
  refine (four_any _).mono ?_
  rintro e w1 ⟨A1, n1, c1, rfl, o1, l1, B1⟩
  obtain rfl : n1 = 5 := l1.symm
  have a1 := arcs_own o1 l1
  clear o1 l1
  go_wp2_with fail
  have E1 : Blk (w1.alloc (.cells #[.int .i64 4, .int .i64 3, .int .i64 3, .slice A1 5 c1] 24)) w1.heap.size 24 #[.int .i64 4, .int .i64 3, .int .i64 3, .slice A1 5 c1] := Blk.new rfl
  refine (four_any _).mono ?_
  rintro e w2 ⟨A2, n2, c2, rfl, o2, l2, B2⟩
  obtain rfl : n2 = 5 := l2.symm
  have a2 := arcs_own o2 l2
  have E2 := E1.below B2 E1.lt
  have a12 := (a1.onAlloc _).on B2
  have B02 := below_step (B1.alloc B1.size _) B2
  clear o2 l2 E1 a1 B1 B2
  go_wp2_with fail
  refine (sum_is _ a2 (by omega) (v := 20) (b := true) (by decide +kernel) (by decide +kernel)).mono ?_
  rintro e w3 ⟨rfl, B3⟩
  have E3 := E2.below B3 E2.lt
  have a13 := a12.on B3
  have B03 := below_step B02 B3
  clear E2 a12 B02 a2 B3
  go_wp2_with fail
  have aj : Arcs (w3.alloc (.cells #[.int .i64 0, .int .i64 1, .int .i64 2, .int .i64 1, .int .i64 1, .int .i64 9, .int .i64 0, .int .i64 1, .int .i64 3] 31)) (w3.alloc (.cells #[.int .i64 0, .int .i64 1, .int .i64 2, .int .i64 1, .int .i64 1, .int .i64 9, .int .i64 0, .int .i64 1, .int .i64 3] 31)).heap.size (some ⟨w3.heap.size, 0, none⟩) 3 threeArcs := arcs_new rfl rfl (by decide)
  refine (join_is _ aj (by omega) three_fits (by decide +kernel) (J := [⟨0, 1, 5⟩]) (o := [0, -1, 0]) (by decide +kernel)).mono ?_
  rintro e w4 ⟨AJ, nJ, cJ, Ap, np, cp, rfl, oJ, lJ, op, lp, B4⟩
  obtain rfl : nJ = 1 := lJ.symm
  obtain rfl : np = 3 := lp.symm
  have aJ := arcs_own oJ lJ
  have ap := ints_own op lp
  have E4 := (E3.alloc _).below B4 (E3.alloc _).lt
  have a14 := (a13.onAlloc _).on B4
  have B04 := below_step (B03.alloc B03.size _) B4
  clear aj oJ lJ op lp E3 a13 B03 B4
  go_wp2_with fail
  have J4 : Blk (w4.alloc (.cells #[.int .i64 2, .int .i64 0, .int .i64 1, .slice AJ 1 cJ] 24)) w4.heap.size 24 #[.int .i64 2, .int .i64 0, .int .i64 1, .slice AJ 1 cJ] := Blk.new rfl
  refine (four_any _).mono ?_
  rintro e w5 ⟨A5, n5, c5, rfl, o5, l5, B5⟩
  obtain rfl : n5 = 5 := l5.symm
  have a5 := arcs_own o5 l5
  have J5 := J4.below B5 J4.lt
  have E5 := (E4.alloc _).below B5 (E4.alloc _).lt
  have a15 := (a14.onAlloc _).on B5
  have aJ5 := (aJ.onAlloc _).on B5
  have ap5 := (ap.onAlloc _).on B5
  have B05 := below_step (B04.alloc B04.size _) B5
  clear o5 l5 J4 E4 a14 aJ ap B04 B5
  go_wp2_with fail
  refine (check_is _ a5 (by omega) (v := 0) (by decide +kernel)).mono ?_
  rintro e w6 ⟨rfl, B6⟩
  have J6 := J5.below B6 J5.lt
  have E6 := E5.below B6 E5.lt
  have a16 := a15.on B6
  have aJ6 := aJ5.on B6
  have ap6 := ap5.on B6
  have B06 := below_step B05 B6
  obtain ⟨e0, e1, e2, e3⟩ := E6.at4
  clear a5 J5 E5 a15 aJ5 ap5 B05 B6
  go_wp2_with fail
  refine (check_is _ a16 (by omega) (v := 12) (by decide +kernel)).mono ?_
  rintro e w7 ⟨rfl, B7⟩
  have J7 := J6.below B7 J6.lt
  have aJ7 := aJ6.on B7
  have ap7 := ap6.on B7
  have B07 := below_step B06 B7
  clear e0 e1 e2 e3 J6 E6 a16 aJ6 ap6 B06 B7
  go_wp2_with fail
  have x7 : Arcs (w7.alloc (.cells #[.int .i64 0, .int .i64 4, .int .i64 0] 31)) (w7.alloc (.cells #[.int .i64 0, .int .i64 4, .int .i64 0] 31)).heap.size (some ⟨w7.heap.size, 0, none⟩) 1 [⟨0, 4, 0⟩] := arcs_new rfl rfl (by decide)
  refine (with_any _ _ _ _ _ x7 (by omega)).mono ?_
  rintro e w8 ⟨A8, n8, c8, rfl, o8, l8, B8⟩
  have a8 := arcs_own o8 l8
  obtain rfl : n8 = 5 + 1 := l8.symm
  have J8 := (J7.alloc _).below B8 (J7.alloc _).lt
  have aJ8 := (aJ7.onAlloc _).on B8
  have ap8 := (ap7.onAlloc _).on B8
  have B08 := below_step (B07.alloc B07.size _) B8
  clear x7 o8 l8 J7 aJ7 ap7 B07 B8
  go_wp2_with fail
  refine (check_is _ a8 (by omega) (v := 13) (by decide +kernel)).mono ?_
  rintro e w9 ⟨rfl, B9⟩
  have J9 := J8.below B9 J8.lt
  have aJ9 := aJ8.on B9
  have ap9 := ap8.on B9
  have B09 := below_step B08 B9
  clear a8 J8 aJ8 ap8 B08 B9
  go_wp2_with fail
  have x9 : Arcs (w9.alloc (.cells #[.int .i64 0, .int .i64 0, .int .i64 (-1), .int .i64 0, .int .i64 4, .int .i64 0] 31)) (w9.alloc (.cells #[.int .i64 0, .int .i64 0, .int .i64 (-1), .int .i64 0, .int .i64 4, .int .i64 0] 31)).heap.size (some ⟨w9.heap.size, 0, none⟩) 2 [⟨0, 0, (-1)⟩, ⟨0, 4, 0⟩] := arcs_new rfl rfl (by decide)
  refine (with_any _ _ _ _ _ x9 (by omega)).mono ?_
  rintro e w10 ⟨A10, n10, c10, rfl, o10, l10, B10⟩
  have a10 := arcs_own o10 l10
  obtain rfl : n10 = 5 + 2 := l10.symm
  have J10 := (J9.alloc _).below B10 (J9.alloc _).lt
  have aJ10 := (aJ9.onAlloc _).on B10
  have ap10 := (ap9.onAlloc _).on B10
  have B010 := below_step (B09.alloc B09.size _) B10
  clear x9 o10 l10 J9 aJ9 ap9 B09 B10
  go_wp2_with fail
  refine (check_is _ a10 (by omega) (v := 13) (by decide +kernel)).mono ?_
  rintro e w11 ⟨rfl, B11⟩
  have J11 := J10.below B11 J10.lt
  have aJ11 := aJ10.on B11
  have ap11 := ap10.on B11
  have B011 := below_step B010 B11
  clear a10 J10 aJ10 ap10 B010 B11
  go_wp2_with fail
  have x11 : Arcs (w11.alloc (.cells #[.int .i64 0, .int .i64 0, .int .i64 4611686018427387904, .int .i64 0, .int .i64 0, .int .i64 4611686018427387904] 31)) (w11.alloc (.cells #[.int .i64 0, .int .i64 0, .int .i64 4611686018427387904, .int .i64 0, .int .i64 0, .int .i64 4611686018427387904] 31)).heap.size (some ⟨w11.heap.size, 0, none⟩) 2 [⟨0, 0, 4611686018427387904⟩, ⟨0, 0, 4611686018427387904⟩] := arcs_new rfl rfl (by decide)
  refine (with_any _ _ _ _ _ x11 (by omega)).mono ?_
  rintro e w12 ⟨A12, n12, c12, rfl, o12, l12, B12⟩
  have a12 := arcs_own o12 l12
  obtain rfl : n12 = 5 + 2 := l12.symm
  have J12 := (J11.alloc _).below B12 (J11.alloc _).lt
  have aJ12 := (aJ11.onAlloc _).on B12
  have ap12 := (ap11.onAlloc _).on B12
  have B012 := below_step (B011.alloc B011.size _) B12
  clear x11 o12 l12 J11 aJ11 ap11 B011 B12
  go_wp2_with fail
  refine (check_is _ a12 (by omega) (v := 15) (by decide +kernel)).mono ?_
  rintro e w13 ⟨rfl, B13⟩
  have J13 := J12.below B13 J12.lt
  have aJ13 := aJ12.on B13
  have ap13 := ap12.on B13
  have B013 := below_step B012 B13
  clear a12 J12 aJ12 ap12 B012 B13
  obtain ⟨j0, j1, j2, j3⟩ := J13.at4
  go_wp2_with fail
  have y : Arcs (w13.alloc (.cells #[.int .i64 0, .int .i64 1, .int .i64 5] 31)) (w13.alloc (.cells #[.int .i64 0, .int .i64 1, .int .i64 5] 31)).heap.size (some ⟨w13.heap.size, 0, none⟩) 1 [⟨0, 1, 5⟩] := arcs_new rfl rfl (by decide)
  refine (sameNet_is _ _ (aJ13.onAlloc _) y (by omega) (by omega) (v := true) (by decide)).mono ?_
  rintro e w14 ⟨rfl, B14⟩
  have ap14 := (ap13.onAlloc _).on B14
  have B014 := below_step (B013.alloc B013.size _) B14
  clear y j0 j1 j2 j3 J13 aJ13 ap13 B013 B14
  go_wp2_with fail
  have z : Ints (w14.alloc (.cells #[.int .i64 0, .int .i64 (-1), .int .i64 0] 3)) (w14.alloc (.cells #[.int .i64 0, .int .i64 (-1), .int .i64 0] 3)).heap.size (some ⟨w14.heap.size, 0, none⟩) 3 [0, -1, 0] := ints_new rfl rfl (by decide)
  refine (ints_is _ _ (ap14.onAlloc _) z (by omega) (by omega) (v := true) (by decide)).mono ?_
  rintro e w15 ⟨rfl, B15⟩
  have B015 := below_step (B014.alloc B014.size _) B15
  clear z ap14 B014 B15
  go_wp2_with fail
  go_ret
  exact ⟨rfl, B015⟩

end Go.Proofs.Ytfdidjgecdhaiaa
