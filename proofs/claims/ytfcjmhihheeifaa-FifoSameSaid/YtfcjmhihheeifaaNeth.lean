/- Layer 1: Join. -/
import Derived.Test.YtfcjmhihheeifaaNetg
import Derived.Test.YtfcjmhihheeifaaMaps
import Derived.Test.YtfcjmhihheeifaaFacts
import Derived.DeepKeys4
import Derived.Laws.ResultCell
namespace Go.Proofs.Ytfcjmhihheeifaa
open Go.RowKit Go.Maps
set_option maxRecDepth 100000

/-- The row of parts, of which o is written. -/
def partCells (o : List Int) (n : Nat) : Array Value := ((o ++ List.replicate (n - o.length) 0).map (Value.int .i64)).toArray
theorem partCells_made (n : Nat) : madeCells (Value.int .i64 0).cells (n * 1) = partCells [] n := by
  apply Array.ext'
  have : (Value.int .i64 0).cells = #[.int .i64 0] := rfl
  rw [this, toList_madeCells_one]
  simp [partCells]
theorem partCells_at {o : List Int} {n : Nat} (h : o.length < n) : (partCells o n)[o.length]? = some (.int .i64 0) := by
  simp [partCells, List.getElem?_append, List.getElem?_replicate]
  omega
theorem partCells_set {o : List Int} {n : Nat} (h : o.length < n) (x : Int) : (partCells o n).setIfInBounds o.length (.int .i64 x) = partCells (o ++ [x]) n := by
  apply Array.ext'
  have e : n - o.length = (n - (o.length + 1)) + 1 := by omega
  simp only [partCells, List.length_append, List.length_cons, List.length_nil, Nat.zero_add, Array.toList_setIfInBounds]
  rw [e, List.replicate_succ]
  simp
theorem partCells_end (o : List Int) : partCells o o.length = (o.flatMap intCells).toArray := by
  apply Array.ext'
  simp only [partCells, Nat.sub_self, List.replicate_zero, List.append_nil]
  induction o with
  | nil => rfl
  | cons x r ih => simpa [intCells] using ih

theorem ends_laid : laidOutB Try.prog = true := by kernel_rfl
theorem ends_keyed : Keyed Try.prog 111 := Keyed.of_law (deep_law_laid ends_laid (m := 2) (by omega) (of_decide_eq_true (by kernel_rfl)) (by kernel_rfl) (by kernel_rfl))
theorem types_some : ∃ m, Try.prog.types.size = m + 1 := by
  have h : decide (0 < Try.prog.types.size) = true := by kernel_rfl
  have := of_decide_eq_true h
  exact ⟨Try.prog.types.size - 1, by omega⟩
theorem ends_key {p : Int × Int} (h1 : InR p.1) (h2 : InR p.2) : keyOf Try.prog 111 (pairV p) = some (.string (keyBytes [.int .i64 p.1, .int .i64 p.2])) :=
  keyOf_two (e := 3) Try.underlying111 (by kernel_rfl) (by kernel_rfl) (by kernel_rfl) types_some rfl rfl rfl rfl rfl rfl Try.underlying3 h1 h2
theorem int_zero (w : World) : (zeroValue 3).run Try.prog w = .ok (.int .i64 0) w := by kernel_rfl

abbrev Places := MapsTo pairV Try.prog 111 3

/-- A joined net, and its parts, in new memory. -/
def RetJoin (N S T : Int) (J : List ArcN) (o : List Int) (w : World) (e : Ending) (w' : World) : Prop :=
  ∃ (A : Option Addr) (n c : Nat) (Ap : Option Addr) (np cp : Nat), e = .returned (.tuple #[.agg #[.int .i64 N, .int .i64 S, .int .i64 T, .slice A n c], .slice Ap np cp]) ∧
    w'.ownsRow w.heap.size 64 3 (.slice A n c) n (J.flatMap arcCells) ∧ J.length = n ∧ w'.ownsRow w.heap.size 3 1 (.slice Ap np cp) np (o.flatMap intCells) ∧ o.length = np ∧ Below w.heap.size w w'

set_option maxHeartbeats 1000000 in
theorem join_bad (N S T : Int) (A : Option Addr) (n c : Nat) (l : List ArcN) (w : World) (hA : Arcs w w.heap.size A n l) (hn : n ≤ 1000000000000) (hc : (checkF N S T l != 0) = true) :
    Calls Try.prog 24 #[.agg #[.int .i64 N, .int .i64 S, .int .i64 T, .slice A n c]] w (RetJoin 0 0 0 [] [] w) := by
  go_enter Try.func24, Try.ntmps24
  go_wp2_with fail
  refine (check_any _ _ _ _ _ _ l _ ((hA.below (((Below.refl _ _).alloc (Nat.le_refl _) _).alloc (by simp) _)).more (by simp; omega)) hn).mono ?_
  rintro e w1 ⟨rfl, hb1⟩
  have K2 : Blk w1 (w.heap.size + 1) 24 #[.int .i64 0, .int .i64 0, .int .i64 0, .slice none 0 0] := (Blk.new (by simp)).below hb1 (by simp)
  obtain ⟨s0, s1, s2, s3⟩ := K2.at4
  obtain ⟨t0, t1, t2, t3⟩ := K2.free4
  go_wp2_with fail
  have L := K2.set4 (.int .i64 0) (.int .i64 0) (.int .i64 0) (.slice none 0 0)
  obtain ⟨q0, q1, q2, q3⟩ := L.at4
  refine bodyPost_ret (v := .tuple #[.agg #[.int .i64 0, .int .i64 0, .int .i64 0, .slice none 0 0], .slice none 0 0]) ?_ rfl ⟨_, _, _, _, _, _, rfl, World.ownsRow_nil _ _ _ _, rfl, World.ownsRow_nil _ _ _ _, rfl, ?_⟩
  · rw [results_cell_tmp Try.results24]
    simp [go_sem, q0, q1, q2, q3]
  · exact ((((((((Below.refl _ _).alloc (Nat.le_refl _) _).alloc (by simp) _).trans (hb1.mono (by simp; omega))).setCell (by simp) _).setCell (by simp) _).setCell (by simp) _).setCell (by simp) _)

/-- What holds at the head of each round. -/
structure JoinRel (N S T : Int) (l : List ArcN) (n B : Nat) (w wr : World) (k : Nat) (J : List ArcN) (o : List Int) (AJ : Option Addr) (nJ cJ : Nat) : Prop where
  inv : JoinInv l k J o
  jl : J.length = nJ
  below : Below w.heap.size w wr
  res : Blk wr (w.heap.size + 1) 24 #[.int .i64 0, .int .i64 0, .int .i64 0, .slice none 0 0]
  simple : Blk wr B 24 #[.int .i64 N, .int .i64 S, .int .i64 T, .slice AJ nJ cJ]
  own : wr.ownsRow (w.heap.size + 2) 64 3 (.slice AJ nJ cJ) nJ (J.flatMap arcCells)
  part : Blk wr (B + 1) 3 (partCells o n)
  map : Places wr (B + 1 + 1) k fun p => (idxOf J p).map fun i : Nat => (i : Int)

section
variable {N S T : Int} {l : List ArcN} {n B : Nat} {w wr : World} {k : Nat} {J : List ArcN} {o : List Int} {AJ : Option Addr} {nJ cJ : Nat}
/-- A part written. -/
theorem JoinRel.setPart (hol : o.length = k) (hB : w.heap.size + 1 < B) (hk : k < n) {J' : List ArcN} {x : Int} (hI : JoinInv l (k + 1) J' (o ++ [x])) (hJ' : J'.length = nJ)
    {wr' : World} (hb : Below w.heap.size w wr') (h1 : Blk wr' (w.heap.size + 1) 24 #[.int .i64 0, .int .i64 0, .int .i64 0, .slice none 0 0]) (h2 : Blk wr' B 24 #[.int .i64 N, .int .i64 S, .int .i64 T, .slice AJ nJ cJ])
    (h3 : wr'.ownsRow (w.heap.size + 2) 64 3 (.slice AJ nJ cJ) nJ (J'.flatMap arcCells)) (h4 : Blk wr' (B + 1) 3 (partCells o n)) (h5 : Places wr' (B + 1 + 1) (k + 1) fun p => (idxOf J' p).map fun i : Nat => (i : Int)) :
    JoinRel N S T l n B w (wr'.setCell ⟨B + 1, k, none⟩ (.int .i64 x)) (k + 1) J' (o ++ [x]) AJ nJ cJ := by
  have hne := own_ne h3 h4 (by decide)
  refine ⟨hI, hJ', hb.setCell (by simp; omega) _, h1.far (by simp; omega) _, h2.far (by simp) _, own_far h3 hne _, ?_, h5.setCell (by simp) _⟩
  have := h4.set k (.int .i64 x)
  rw [← hol] at this ⊢
  rwa [partCells_set (by omega)] at this
theorem JoinRel.alloc (R : JoinRel N S T l n B w wr k J o AJ nJ cJ) (ob : Obj) : JoinRel N S T l n B w (wr.alloc ob) k J o AJ nJ cJ :=
  ⟨R.inv, R.jl, R.below.alloc R.below.size _, R.res.alloc _, R.simple.alloc _, R.own.alloc _, R.part.alloc _, R.map.alloc _⟩
theorem JoinRel.drew (R : JoinRel N S T l n B w wr k J o AJ nJ cJ) : JoinRel N S T l n B w wr.drew k J o AJ nJ cJ :=
  ⟨R.inv, R.jl, R.below.drew, R.res, R.simple, R.own, R.part, R.map⟩
theorem JoinRel.loop (R : JoinRel N S T l n B w wr k J o AJ nJ cJ) (hB : w.heap.size + 1 < B) (hk : k < n) (hl : NonNeg l) {a : ArcN} (ha : l[k]? = some a) (e : a.frm = a.to) :
    JoinRel N S T l n B w (wr.setCell ⟨B + 1, k, none⟩ (.int .i64 (-1))) (k + 1) J (o ++ [-1]) AJ nJ cJ :=
  JoinRel.setPart R.inv.olen hB hk (R.inv.loop hl ha e) R.jl R.below R.res R.simple R.own R.part (R.map.mono (Nat.le_succ _))
theorem JoinRel.known {g : Nat} (R : JoinRel N S T l n B w wr k J o (some ⟨g, 0, none⟩) nJ cJ) (hB : w.heap.size + 1 < B) (hk : k < n) (hl : NonNeg l) {a : ArcN} (ha : l[k]? = some a) (e : a.frm ≠ a.to) {i : Nat} (hi : idxOf J (a.frm, a.to) = some i)
    {b : ArcN} (hb : J[i]? = some b) (hg : w.heap.size + 2 ≤ g) :
    JoinRel N S T l n B w ((wr.setCell ⟨g, i * 3 + 2, none⟩ (.int .i64 (b.cap + a.cap))).setCell ⟨B + 1, k, none⟩ (.int .i64 i)) (k + 1) (addAt J i a.cap) (o ++ [(i : Int)]) (some ⟨g, 0, none⟩) nJ cJ := by
  have n1 := own_ne R.own R.res (by decide) g rfl
  have n2 := own_ne R.own R.simple (by decide) g rfl
  have n3 := own_ne R.own R.part (by decide) g rfl
  have n4 := R.map.ne_own R.own g rfl
  refine JoinRel.setPart R.inv.olen hB hk (R.inv.known hl ha e hi) (by rw [addAt_len]; exact R.jl) (R.below.setCell (by simp; omega) _) (R.res.far (Ne.symm n1) _) (R.simple.far (Ne.symm n2) _) ?_ (R.part.far (Ne.symm n3) _) ?_
  · rw [addAt_set hb]; exact own_setCap R.own hb _
  · exact ((R.map.setCell n4 _).mono (Nat.le_succ _)).as fun p => by rw [idxOf_addAt]
end

set_option maxHeartbeats 1000000 in
theorem join_good (N S T : Int) (A : Option Addr) (n c : Nat) (l : List ArcN) (w : World) (hA : Arcs w w.heap.size A n l) (hn : n ≤ 1000000000000) (hf : FitsAll l) (hc : checkF N S T l = 0) :
    Calls Try.prog 24 #[.agg #[.int .i64 N, .int .i64 S, .int .i64 T, .slice A n c]] w (RetJoin N S T (joinOf l).1 (joinOf l).2 w) := by
  have HC := Lib.hid hc; clear hc
  obtain ⟨hnn, hto⟩ := sumB_total (check_ok HC.out).2.2.2.2.2
  have hc' : (checkF N S T l != 0) = false := by simp [HC.out]
  obtain ⟨i0, hi, hz0, hz1, hz2⟩ := info_parts int_info
  have hmk := fun W => run_make_lit (P := Try.prog) 43 3 i0 _ Try.underlying43 hi hz0 n (by rw [hz2]; omega) (by omega) W
  rw [hz1, partCells_made] at hmk
  clear hi hz0 hz1 hz2
  have hmm := @run_makeMap Try.prog
  obtain ⟨i1, hi1, ha0, ha1, ha2⟩ := info_parts arc_info
  have HI1 := Lib.hid hi1; have HZ0 := Lib.hid ha0; have HZ1 := Lib.hid ha1; have HZ2 := Lib.hid ha2
  clear hi1 ha0 ha1 ha2
  go_enter Try.func24, Try.ntmps24
  go_wp2_with fail
  refine (check_any _ _ _ _ _ _ l _ ((hA.below (((Below.refl _ _).alloc (Nat.le_refl _) _).alloc (by simp) _)).more (by simp; omega)) hn).mono ?_
  rintro e w1 ⟨rfl, hb1⟩
  have K1 : Blk w1 w.heap.size 24 #[.int .i64 N, .int .i64 S, .int .i64 T, .slice A n c] := ((Blk.new rfl).alloc _).below hb1 (by simp; omega)
  have K2 : Blk w1 (w.heap.size + 1) 24 #[.int .i64 0, .int .i64 0, .int .i64 0, .slice none 0 0] := (Blk.new (by simp)).below hb1 (by simp)
  have hbw : Below w.heap.size w w1 := (((Below.refl _ _).alloc (Nat.le_refl _) _).alloc (by simp) _).trans (hb1.mono (by simp; omega))
  have hz2 : w.heap.size + 1 < w1.heap.size := K2.lt
  have hz1 : w.heap.size < w1.heap.size := K1.lt
  clear hb1
  obtain ⟨b0, b1, b2, b3⟩ := K1.at4
  have hy1 : w.heap.size < w1.heap.size + 1 := by omega
  have hy2 : w.heap.size < w1.heap.size + 1 + 1 := by omega
  have hy3 : w.heap.size < w1.heap.size + 1 + 1 + 1 := by omega
  go_wp2_with fail
  go_loopw [7, 8, 9, 10, 11, 31] (fun _ _ _ _ _ i wr => ∃ (k : Nat) (J : List ArcN) (o : List Int) (AJ : Option Addr) (nJ cJ : Nat), k ≤ n ∧ i = .int .i64 k ∧ JoinRel N S T l n w1.heap.size w wr k J o AJ nJ cJ) (fun _ _ _ _ _ i _ => n - (intOf i).toNat)
  case atStart =>
    refine ⟨0, [], [], none, 0, 0, Nat.zero_le _, rfl, JoinInv.zero l, rfl, ?_, ?_, ?_, World.ownsRow_nil _ _ _ _, ?_, ?_⟩
    · exact ((hbw.alloc hbw.size _).alloc (by simp; omega) _).alloc (by simp; omega) _
    · exact ((K2.alloc _).alloc _).alloc _
    · exact ((Blk.new rfl).alloc _).alloc _
    · exact (Blk.new (by simp)).alloc _
    · exact (MapsTo.made_at (by simp)).as fun _ => rfl
  case round =>
    clear hmk hmm hc' b0 b1 b2 b3 K1 K2 hbw hy1 hy2 hy3
    obtain ⟨k, J, o, AJ, nJ, cJ, hk, rfl, R⟩ := hrel
    have hb := R.below
    have hsB : w1.heap.size < wr.heap.size := R.simple.lt
    have hsB1 : w1.heap.size + 1 < wr.heap.size := R.part.lt
    have hsB2 : w1.heap.size + 1 + 1 < wr.heap.size := R.map.lt
    by_cases hlt : k < n
    · obtain ⟨b, off, ⟨x, y, z⟩, rfl, hbl, hla, c0, c1, c2⟩ := arcs_at (hA.below hb) hlt
      simp only at c0 c1 c2
      have HL := Lib.hid hla; clear hla
      have hol : o.length = k := R.inv.olen
      have p0 : wr.cell? ⟨w1.heap.size + 1, k, none⟩ = some (.int .i64 0) := by rw [R.part.cell, ← hol]; exact partCells_at (by omega)
      have p1 : wr.frozen? ⟨w1.heap.size + 1, k, none⟩ = false := R.part.frozen k
      have HOL := Lib.hid hol; clear hol
      by_cases hxy : x = y
      · subst hxy
        go_wp2_with fail
        go_roundw
        case rel =>
          exact ⟨k + 1, J, o ++ [-1], AJ, nJ, cJ, by omega, by go_num, (R.loop hz2 hlt hnn HL.out rfl).alloc _⟩
        case measure => simp [intOf]; omega
      · have hxy' : (x == y) = false := by simpa using hxy
        have hfa := hf _ (mem_at HL.out)
        have HK := Lib.hid (ends_key (p := (x, y)) hfa.1 hfa.2.1)
        have hcap : 0 ≤ z := hnn _ (mem_at HL.out)
        have hbd := R.inv.bound hnn hto HL.out
        cases hix : idxOf J (x, y) with
        | some i =>
          obtain ⟨⟨bx, by_, bz⟩, hJi, -, -⟩ := idxOf_at hix
          have hilt : i < nJ := by have := idxOf_lt hix; have := R.jl; omega
          obtain ⟨g, rfl, hg1, hg2⟩ := own_form R.own (by omega)
          obtain ⟨q, hq, x0, x1, x2, f0, f1, f2⟩ := own_cells3 R.own R.jl hilt
          obtain rfl : q = ⟨bx, by_, bz⟩ := by rw [hJi] at hq; injection hq with hq; exact hq.symm
          simp only at x0 x1 x2
          have hbz : 0 ≤ bz := R.inv.nn _ (mem_at hJi)
          have hbz' : bz ≤ total J := total_at R.inv.nn hJi
          unfold maxSum at hbd
          simp only at hbd
          have hlk := fun (o1 o2 : Obj) => ((R.map.alloc o1).alloc o2).look_ok (t := 109) ends_keyed Try.underlying109 Try.underlying3 (int_zero _) HK.out
          simp only [hix, Option.map_some, Option.getD_some, Option.isSome_some, pairV] at hlk
          have HR := Lib.hid R; have HI := Lib.hid hix; have HJ := Lib.hid hJi
          obtain ⟨r0, r1, r2, r3⟩ := R.simple.at4
          have n3 := own_ne R.own R.part (by decide) g rfl
          have n3' := Ne.symm n3
          clear R hix hJi hq
          go_wp2_with fail
          go_region
          go_wp2_with fail
          go_roundw
          case rel => exact ⟨k + 1, _, _, _, _, _, by omega, by go_num, (((HR.out.known hz2 hlt hnn HL.out hxy HI.out HJ.out hg1).alloc _).alloc _).drew⟩
          case measure => simp [intOf]; omega
        | none =>
          have hlk := fun (o1 o2 : Obj) => ((R.map.alloc o1).alloc o2).look_ok (t := 109) ends_keyed Try.underlying109 Try.underlying3 (int_zero _) HK.out
          simp only [hix, Option.map_none, Option.getD_none, Option.isSome_none, pairV] at hlk
          have HR := Lib.hid R; have HI := Lib.hid hix
          obtain ⟨r0, r1, r2, r3⟩ := R.simple.at4
          have hnJ : nJ ≤ k := by have := R.inv.jlen; have := R.jl; omega
          have hz9 : z ≤ 4611686018427387904 := by have := total_nonneg R.inv.nn; unfold maxSum at hbd; simp only at hbd; omega
          clear hbd
          clear R hix
          go_wp2_with (at_mapUpdate; refine wpList_mapUpdate_to _ rfl (.tmp 60) (.tmp 61) (.tmp 62) _ rfl ((HR.out.map.alloc _).alloc _) ends_keyed pairV_inj Try.underlying109 Try.underlying3 (by unfold maxLen; omega) (x, y) _ HK.out nJ (wf_i64 ⟨by omega, by omega⟩) rfl rfl rfl ?_)
          intro w2 HM hgm
          have M0 := HR.out.map.ne_own HR.out.own
          have S2 := ((HR.out.simple.alloc _).alloc _).grown hgm (by simp; omega)
          have P2 := ((HR.out.part.alloc _).alloc _).grown hgm (by simp)
          have E2 := ((HR.out.res.alloc _).alloc _).grown hgm (by simp; omega)
          have A2 : Blk w2 wr.heap.size 64 #[.int .i64 x, .int .i64 y, .int .i64 z] := ((Blk.new rfl).alloc _).grown hgm (by simp; omega)
          have O2 := own_keptNe ((HR.out.own.alloc _).alloc _) hgm M0
          have B2 : Below w.heap.size w w2 := ((hb.alloc hb.size _).alloc (by simp; have := hb.size; omega) _).grown hgm (by simp; have := hb.size; omega) (by rintro _ ⟨⟩; omega)
          have hs2 : wr.heap.size + 1 + 1 ≤ w2.heap.size := by have := hgm.size; simpa using this
          clear r0 r1 r2 r3 hlk
          obtain ⟨r0, r1, r2, r3⟩ := S2.at4
          have a0 := A2.cell 0; have a1 := A2.cell 1; have a2 := A2.cell 2
          simp only [List.getElem?_toArray, List.getElem?_cons_zero, List.getElem?_cons_succ] at a0 a1 a2
          have hl2 : wr.heap.size < w2.heap.size := A2.lt
          have hl3 : w1.heap.size < w2.heap.size := S2.lt
          clear hgm
          have HO2 := Lib.hid O2; clear O2
          go_wp2_with (at_builtin; refine wpList_append_row _ rfl (.tmp 64) (.tmp 70) _ rfl (w.heap.size + 2) 64 i1 _ 3 24 Try.underlying22 HI1.out HZ0.out HZ1.out HZ2.out rfl (by omega) AJ nJ cJ _ rfl (HO2.out.alloc _) (some ⟨w2.heap.size, 0, none⟩) 1 1 ([⟨x, y, 0⟩].flatMap arcCells) rfl rfl ?_ arc_one ?_ ?_ ?_ ?_)
          · intro _
            refine ⟨_, rfl, fun j u hu => ?_⟩
            rw [addr_add, Nat.zero_add]
            exact ((Blk.new rfl : Blk (w2.alloc _) w2.heap.size 64 #[.int .i64 x, .int .i64 y, .int .i64 0]).cell j).trans (by simpa [arcCells] using hu)
          · unfold maxLen; omega
          · omega
          · simp; omega
          · intro A3 c3 w3 HO3 hg3 HX3
            have S3 := (S2.alloc _).grownO hg3 (HO2.out.alloc _) (by decide)
            have P3 := (P2.alloc _).grownO hg3 (HO2.out.alloc _) (by decide)
            have E3 := (E2.alloc _).grownO hg3 (HO2.out.alloc _) (by decide)
            have A3' := (A2.alloc _).grownUp hg3 HR.out.own (Nat.le_refl _)
            have B3 := below_grown (B2.alloc (by omega) _) hg3 (HO2.out.alloc _) (by omega) (by simp; omega)
            have M3 := (HM.out.alloc _).kept hg3 (grown_own_ne HO2.out (HM.out.ne_own HO2.out))
            have hO3 : w3.ownsRow (w.heap.size + 2) 64 3 (.slice A3 (nJ + 1) c3) (nJ + 1) ((J ++ [(⟨x, y, 0⟩ : ArcN)]).flatMap arcCells) := by rw [List.flatMap_append]; simpa using HO3.out
            obtain ⟨g3, rfl, hg31, hg32⟩ := own_form hO3 (by omega)
            have hJ3 : (J ++ [(⟨x, y, 0⟩ : ArcN)]).length = nJ + 1 := by simp; exact HR.out.jl
            have hat : (J ++ [(⟨x, y, 0⟩ : ArcN)])[nJ]? = some ⟨x, y, 0⟩ := by rw [← HR.out.jl]; simp
            obtain ⟨q, hq, x0, x1, x2, f0, f1, f2⟩ := own_cells3 hO3 hJ3 (k := nJ) (by omega)
            obtain rfl : q = ⟨x, y, 0⟩ := by rw [hat] at hq; injection hq with hq; exact hq.symm
            simp only at x0 x1 x2
            clear r0 r1 r2 r3 a0 a1 a2 p0 p1
            obtain ⟨r0, r1, r2, r3⟩ := S3.at4
            obtain ⟨_, _, _, fr3⟩ := S3.free4
            have a2 := A3'.cell 2
            simp only [List.getElem?_toArray, List.getElem?_cons_zero, List.getElem?_cons_succ] at a2
            have p0 : w3.cell? ⟨w1.heap.size + 1, k, none⟩ = some (.int .i64 0) := by rw [P3.cell, ← HOL.out]; exact partCells_at (by have := HOL.out; omega)
            have p1 : w3.frozen? ⟨w1.heap.size + 1, k, none⟩ = false := P3.frozen k
            have n1 := own_ne hO3 S3 (by decide) g3 rfl
            have n2 := own_ne hO3 P3 (by decide) g3 rfl
            have n1' := Ne.symm n1; have n2' := Ne.symm n2
            have n4 : ¬ w1.heap.size = wr.heap.size := by omega
            have HQ := Lib.hid hO3; have HAT := Lib.hid hat; have HJ3 := Lib.hid hJ3
            clear hO3 hat hq hJ3 HO3 hg3
            go_wp2_with fail
            go_region
            go_wp2_with fail
            go_roundw
            case rel =>
              have hin := HR.out.inv.new hnn hf HL.out hxy HI.out
              have hjl := HR.out.jl
              rw [hjl] at hin
              have hne := own_ne HQ.out S3 (by decide)
              have hO4 := own_setCap (own_far HQ.out hne (p := ⟨w1.heap.size, 3, none⟩) (.slice (some ⟨g3, 0, none⟩) (nJ + 1) c3)) HAT.out z
              have e : (J ++ [(⟨x, y, 0⟩ : ArcN)]).set nJ ⟨x, y, z⟩ = J ++ [⟨x, y, z⟩] := by rw [← hjl]; exact snoc_set _ _ _
              simp only [e] at hO4
              have n5 := own_ne HQ.out E3 (by decide) g3 rfl
              have n6 := M3.ne_own HQ.out g3 rfl
              refine ⟨k + 1, J ++ [⟨x, y, z⟩], o ++ [(nJ : Int)], some ⟨g3, 0, none⟩, nJ + 1, c3, by omega, by go_num, JoinRel.drew (JoinRel.setPart HOL.out hz2 hlt hin (by simp; exact hjl) ?_ ?_ ?_ hO4 ?_ ?_)⟩
              · exact (B3.setCell (by simp; omega) _).setCell (by simp; omega) _
              · exact (E3.far (by simp; omega) _).far (Ne.symm n5) _
              · have := S3.set 3 (.slice (some ⟨g3, 0, none⟩) (nJ + 1) c3)
                exact (show Blk _ w1.heap.size 24 #[.int .i64 N, .int .i64 S, .int .i64 T, .slice (some ⟨g3, 0, none⟩) (nJ + 1) c3] from by simpa using this).far n1' _
              · exact (P3.far (by simp) _).far n2' _
              · refine ((M3.setCell (by simp; omega) _).setCell n6 _).as fun p => ?_
                rw [idxOf_snoc J _ p HI.out, hjl]
                by_cases e : p = (x, y) <;> simp [e]
            case measure => simp [intOf]; omega
    · have HR := Lib.hid R
      obtain ⟨r0, r1, r2, r3⟩ := R.simple.at4
      obtain ⟨s0, s1, s2, s3⟩ := R.res.at4
      obtain ⟨t0, t1, t2, t3⟩ := R.res.free4
      clear R
      go_wp2_with fail
      have L4 := HR.out.res.set4 (.int .i64 N) (.int .i64 S) (.int .i64 T) (.slice AJ nJ cJ)
      obtain ⟨q0, q1, q2, q3⟩ := L4.at4
      have hne := own_ne HR.out.own HR.out.res (by decide)
      have he := HR.out.inv.eq
      rw [joinTo_end hA.len hlt] at he
      have hol := HR.out.inv.olen
      obtain rfl : k = n := by omega
      refine bodyPost_ret (v := .tuple #[.agg #[.int .i64 N, .int .i64 S, .int .i64 T, .slice AJ nJ cJ], .slice (some ⟨w1.heap.size + 1, 0, none⟩) k k]) ?_ rfl ⟨_, _, _, _, _, _, rfl, ?_, ?_, ?_, ?_, ?_⟩
      · rw [results_cell_tmp Try.results24]
        simp [go_sem, q0, q1, q2, q3]
      · rw [he]
        exact own_less (own_far (own_far (own_far (own_far HR.out.own hne _) hne _) hne _) hne _) (by omega)
      · rw [he]; exact HR.out.jl
      · rw [he]
        have hp := HR.out.part
        rw [← hol, partCells_end] at hp
        rw [← hol]
        refine own_of_block ((((Blk.far hp ?_ _).far ?_ _).far ?_ _).far ?_ _) (by omega) (by unfold maxLen; omega) (by rw [flat_len (int_len o)])
        all_goals (simp; omega)
      · rw [he]; exact hol
      · exact (((HR.out.below.setCell (by simp) _).setCell (by simp) _).setCell (by simp) _).setCell (by simp) _

end Go.Proofs.Ytfcjmhihheeifaa
