/- DistSteps: the walk. -/
import Derived.Test.YtdbfngamplkjeaaDturnsl
import Derived.Test.YtdbfngamplkjeaaDwayl
import Derived.StillTailTactics
namespace Go.Proofs.Ytdbfngamplkjeaa
open Go.RowKit
set_option maxRecDepth 100000

/-- A world's name, out of a fact that speaks of it. -/
theorem world_name {B : Nat} {a w : World} (_ : Below B a w) : ∃ W, W = w := ⟨w, rfl⟩
/-- A guarded step that is not wanted. -/
theorem still_skip {P : Program} {ops : Array Oper} {w : World} {Q : Act → Prop} {a : Act} {o : Oper} {rest : List Oper} (h : Region.wanted o (yielded ops a.tmps) = false) (h2 : wpStill P ops w Q rest (a.put o.dst undef)) : wpStill P ops w Q (o :: rest) a :=
  wpStill_step fun K hK => by
    rw [if_neg (by rw [h]; exact Bool.false_ne_true)]
    exact hK _ h2
/-- Along which arcs is measured: to a vertex, or from it. -/
def linkOf (b : Bool) (M : Nat) (hd rv : Nat → Nat) (X : List Int) : Nat → Nat → Prop := match b with
  | true => Lk M hd rv fun a => opn X (rv a)
  | false => Lk M hd rv (opn X)
def tlB (b : Bool) (hd rv : Nat → Nat) (a : Nat) : Nat := match b with
  | true => hd (rv a)
  | false => hd a
def hlB (b : Bool) (hd rv : Nat → Nat) (a : Nat) : Nat := match b with
  | true => hd a
  | false => hd (rv a)
/-- An open arc ahead of k leads from u to a vertex that is nearer by one. -/
def nearTo (b : Bool) (hd rv : Nat → Nat) (X : List Int) (d : Nat → Nat) (k u : Nat) : Bool := (List.range k).any fun a => opn X a && (decide (tlB b hd rv a = u) && decide (d u = d (hlB b hd rv a) + 1))

section
variable {N M t : Nat} {fst hd rv : Nat → Nat} {X : List Int} {b : Bool} {d : Nat → Nat}
theorem ends_lt (hG : Grid N M fst hd rv) {a : Nat} (ha : a < M) : tlB b hd rv a < N ∧ hlB b hd rv a < N := by
  have h1 := hG.hdl a ha
  have h2 := hG.hdl _ (hG.rvl a ha)
  cases b
  · exact ⟨h1, h2⟩
  · exact ⟨h2, h1⟩
theorem link_step (hG : Grid N M fst hd rv) (hD : IsDist (linkOf b M hd rv X) N t d) {a : Nat} (ha : a < M) (ho : opn X a = true) : d (tlB b hd rv a) ≤ d (hlB b hd rv a) + 1 := by
  have h1 := hG.hdl a ha
  have h2 := hG.hdl _ (hG.rvl a ha)
  cases b
  · exact hD.step (hd (rv a)) (hd a) h2 h1 ⟨a, ha, rfl, rfl, ho⟩
  · exact hD.step (hd a) (hd (rv a)) h1 h2 ⟨rv a, hG.rvl a ha, by rw [hG.rvv a ha], rfl, by show opn X (rv (rv a)) = true; rw [hG.rvv a ha]; exact ho⟩
theorem near_zero (u : Nat) : nearTo b hd rv X d 0 u = false := rfl
theorem near_start : List.replicate N false = tab N (nearTo b hd rv X d 0) := by
  refine tab_ext (by simp) fun i hi => ?_
  rw [List.getElem?_replicate, if_pos hi, near_zero]
theorem near_succ (k u : Nat) : nearTo b hd rv X d (k + 1) u = (nearTo b hd rv X d k u || (opn X k && (decide (tlB b hd rv k = u) && decide (d u = d (hlB b hd rv k) + 1)))) := by
  unfold nearTo
  rw [List.range_succ, List.any_append]
  simp
theorem near_skip (k : Nat) (h : opn X k = false) : tab N (nearTo b hd rv X d k) = tab N (nearTo b hd rv X d (k + 1)) := tab_congr fun u _ => by rw [near_succ, h]; simp
theorem near_put {k : Nat} (h : opn X k = true) : (tab N (nearTo b hd rv X d k)).set (tlB b hd rv k) (nearTo b hd rv X d k (tlB b hd rv k) || decide (d (tlB b hd rv k) = d (hlB b hd rv k) + 1)) = tab N (nearTo b hd rv X d (k + 1)) := by
  rw [tab_set]
  refine tab_congr fun u hu => ?_
  rw [near_succ, h]
  by_cases e : u = tlB b hd rv k
  · subst e; simp
  · have : ¬ tlB b hd rv k = u := fun x => e x.symm
    simp [e, this]
theorem near_all (hG : Grid N M fst hd rv) (hD : IsDist (linkOf b M hd rv X) N t d) {u : Nat} (hu : u < N) (h0 : d u < N) (hne : u ≠ t) : nearTo b hd rv X d M u = true := by
  obtain ⟨u', h1, h2, h3⟩ := hD.near u hu h0 hne
  unfold nearTo
  rw [List.any_eq_true]
  cases b
  · obtain ⟨a, ha, e1, e2, e3⟩ := h2
    refine ⟨a, by simpa using ha, ?_⟩
    have e4 : opn X a = true := e3
    simp [tlB, hlB, e1, e2, h3, e4]
  · obtain ⟨a, ha, e1, e2, e3⟩ := h2
    refine ⟨rv a, by simpa using hG.rvl a ha, ?_⟩
    have e4 : opn X (rv a) = true := e3
    simp [tlB, hlB, hG.rvv a ha, e1, e2, h3, e4]
end

set_option maxHeartbeats 16000000 in
theorem dsteps_walk (N S T : Int) (A : Option Addr) (n c : Nat) (l : List ArcN) (AL : Option Addr) (nl cl : Nat) (L : List Int) (a : Nat) (w : World) (hA : Arcs w w.heap.size A n l) (hf : FitsAll l) (hnc : n ≤ c) (hL : Ints w w.heap.size AL nl L) (hLR : ∀ x ∈ L, InR x) (ha : a ≤ 255) :
    Calls Try.prog 4 #[.agg #[.int .i64 N, .int .i64 S, .int .i64 T, .slice A n c], .slice AL nl cl, .int .u8 (a : Int)] w fun e w' => e = .returned (.bool true) ∧ Below w.heap.size w w' := by
  have hso := fun W hW => some_any N S T A n c 16 40 l W hW hf hnc (by omega) (by omega) (by omega)
  obtain ⟨N1, hN1, hN2, hN3, hck, hln, hmem⟩ := some_net N S T 16 40 l (by omega) (by omega) (by omega)
  rw [hN1] at hso hck hln hmem
  generalize S % (N1 : Int) = S1 at *
  generalize someT (N1 : Int) S T = T1 at *
  generalize someL (N1 : Int) 40 l = l1 at *
  have HSO := Lib.hid hso; have HCK := Lib.hid hck; have HLR := Lib.hid hLR
  have HCAP := Lib.hid fun (x : ArcN) (hx : x ∈ l1) => (show 0 ≤ x.cap ∧ x.cap < 1125899906842624 by have := hmem x hx; omega)
  obtain ⟨t, ht⟩ : ∃ t, a % N1 = t := ⟨_, rfl⟩
  have htN : t < N1 := by rw [← ht]; exact Nat.mod_lt _ (by omega)
  have HT := Lib.hid ht
  clear hso hck hN1 hmem hLR ht
  go_enter Try.func4, Try.ntmps4
  go_wp2_with fail
  refine (HSO.out _ (hA.onAlloc _)).mono ?_
  rintro e w1 ⟨A1, n1, c1, rfl, o1, hl1, B1⟩
  have K1 : Blk w1 w.heap.size 24 #[.int .i64 N, .int .i64 S, .int .i64 T, .slice A n c] := (Blk.new rfl).below B1 (by simp)
  have hz1 := K1.lt
  obtain ⟨r0, r1, r2, r3⟩ := K1.at4
  obtain ⟨f0, f1, f2, f3⟩ := K1.free4
  have ST := some_stored K1 o1 hl1 (below_step (below_alloc _) B1) (.int .i64 (N1 : Int)) (.int .i64 S1) (.int .i64 T1)
  have hn1 : n1 ≤ 40 := by omega
  go_wp2_with fail
  generalize (((w1.setCell ⟨w.heap.size, 0, none⟩ (.int .i64 (N1 : Int))).setCell ⟨w.heap.size, 1, none⟩ (.int .i64 S1)).setCell ⟨w.heap.size, 2, none⟩ (.int .i64 T1)).setCell ⟨w.heap.size, 3, none⟩ (.slice A1 n1 c1) = w2 at *
  obtain ⟨K2, a2, Bw2⟩ := ST
  clear r0 r1 r2 r3 f0 f1 f2 f3 K1 o1 B1 hz1 HSO
  have L2 := (hL.below Bw2).more Bw2.size
  clear hA hL
  refine (left_grid N1 S1 T1 A1 n1 c1 l1 AL nl cl L _ a2 HCK.out L2 HLR.out HCAP.out (by omega) (by omega)).mono ?_
  rintro e w3 ⟨M, K, fst, hd, rv, AX, cX, X, rfl, hG, G3, X3, ⟨hM, hXb⟩, B3⟩
  have Bw3 := below_step Bw2 B3
  have HG := Lib.hid hG
  have hXl := Lib.hid X3.len
  clear B3 Bw2 a2 L2 hG hXb HCK HLR HCAP hl1 hln K2
  dsimp only [csrW]
  have hwa : IntKind.i64.wrap (a : Int) = (a : Int) := by rw [IntKind.wrap_i64]; omega
  have hn0 : ¬ N1 = 0 := by omega
  have hn0' : ¬ (N1 : Int) = 0 := by omega
  have ht : (a : Int) % (N1 : Int) = (t : Int) := by rw [← HT.out, Int.natCast_emod]
  go_wp2_with fail
  simp only [ht]
  clear ht hwa
  have C5 : Blk ((w3.alloc (.cells #[.int .i64 (N1 : Int), .int .i64 S1, .int .i64 T1, .slice K.AF (N1 + 1) K.cF, .slice K.AH M K.cH, .slice K.AR M K.cR, .slice K.AC M K.cC, .slice K.AA M K.cA, .slice K.AB M K.cB] 29)).alloc (.cells #[.bool true, .bool false] 4)) w3.heap.size 29 #[.int .i64 (N1 : Int), .int .i64 S1, .int .i64 T1, .slice K.AF (N1 + 1) K.cF, .slice K.AH M K.cH, .slice K.AR M K.cR, .slice K.AC M K.cC, .slice K.AA M K.cA, .slice K.AB M K.cB] := (Blk.new rfl).alloc _
  have G5 := (G3.onAlloc (.cells #[.int .i64 (N1 : Int), .int .i64 S1, .int .i64 T1, .slice K.AF (N1 + 1) K.cF, .slice K.AH M K.cH, .slice K.AR M K.cR, .slice K.AC M K.cC, .slice K.AA M K.cA, .slice K.AB M K.cB] 29)).onAlloc (.cells #[.bool true, .bool false] 4)
  have X5 := (X3.onAlloc (.cells #[.int .i64 (N1 : Int), .int .i64 S1, .int .i64 T1, .slice K.AF (N1 + 1) K.cF, .slice K.AH M K.cH, .slice K.AR M K.cR, .slice K.AC M K.cC, .slice K.AA M K.cA, .slice K.AB M K.cB] 29)).onAlloc (.cells #[.bool true, .bool false] 4)
  have Bw5 := (Bw3.alloc Bw3.size (.cells #[.int .i64 (N1 : Int), .int .i64 S1, .int .i64 T1, .slice K.AF (N1 + 1) K.cF, .slice K.AH M K.cH, .slice K.AR M K.cR, .slice K.AC M K.cC, .slice K.AA M K.cA, .slice K.AB M K.cB] 29)).alloc (by have := Bw3.size; simp; omega) (.cells #[.bool true, .bool false] 4)
  have Q5 : Blk ((w3.alloc (.cells #[.int .i64 (N1 : Int), .int .i64 S1, .int .i64 T1, .slice K.AF (N1 + 1) K.cF, .slice K.AH M K.cH, .slice K.AR M K.cR, .slice K.AC M K.cC, .slice K.AA M K.cA, .slice K.AB M K.cB] 29)).alloc (.cells #[.bool true, .bool false] 4)) (w3.heap.size + 1) 4 #[.bool true, .bool false] := Blk.new (by simp)
  generalize (w3.alloc (.cells #[.int .i64 (N1 : Int), .int .i64 S1, .int .i64 T1, .slice K.AF (N1 + 1) K.cF, .slice K.AH M K.cH, .slice K.AR M K.cR, .slice K.AC M K.cC, .slice K.AA M K.cA, .slice K.AB M K.cB] 29)).alloc (.cells #[.bool true, .bool false] 4) = w5 at *
  have HC5 := Lib.hid C5; have HG5 := Lib.hid G5; have HX5 := Lib.hid X5; have HB5 := Lib.hid Bw5; have HQ5 := Lib.hid Q5
  clear C5 G5 X5 Bw5 Q5 G3 X3 Bw3
  go_loopw [35] (fun i wr => ∃ k : Nat, k ≤ 2 ∧ i = .int .i64 k ∧ Below w5.heap.size w5 wr) (fun i _ => 2 - (intOf i).toNat)
  case atStart => exact ⟨0, Nat.zero_le _, rfl, Below.refl _ _⟩
  case round =>
    obtain ⟨k, hk, rfl, hBr⟩ := hrel
    by_cases hlt : k < 2
    · obtain ⟨b, hb⟩ : ∃ b : Bool, #[Value.bool true, .bool false][k]? = some (.bool b) := by
        match k, hlt with
        | 0, _ => exact ⟨true, rfl⟩
        | 1, _ => exact ⟨false, rfl⟩
      obtain ⟨W0, hW0⟩ : ∃ W0, W0 = wr := ⟨_, rfl⟩
      subst hW0
      have C6 := HC5.out.below hBr HC5.out.lt
      have G6 := HG5.out.on hBr
      have X6 := HX5.out.on hBr
      have Q6 := HQ5.out.below hBr HQ5.out.lt
      have Bw6 := hBr
      have hqb := (Q6.cell k).trans hb
      have hql := Q6.lt
      obtain ⟨a0, a1, a2, a3, a4, a5, a6, a7, a8⟩ := C6.at9
      have hz6 := C6.lt
      clear Q6 hBr hb
      go_wp2_with fail
      clear a0 a1 a2 a3 a4 a5 a6 a7 a8 hz6 hqb hql
      refine (from_dist N1 M S1 T1 K fst hd rv AX cX X t _ HG.out G6 X6 (by omega) (by omega) htN).mono ?_
      rintro e w7 ⟨g, d, rfl, D7, hD7, -, B7⟩
      have C7 := C6.below B7 C6.lt
      have G7 := G6.on B7
      have X7 := X6.on B7
      have Bw7 := below_step Bw6 B7
      have HC7 := Lib.hid C7; have HG7 := Lib.hid G7; have HX7 := Lib.hid X7; have HB7 := Lib.hid Bw7; have HD7 := Lib.hid hD7; have HI7 := Lib.hid D7
      clear C6 G6 X6 Bw6 B7 C7 G7 X7 Bw7 hD7 D7
      go_upto_if 43 with fail
      go_cut [12] (fun s12 wx => ∃ (g : Nat) (d : Nat → Nat), s12 = .slice (some ⟨g, 0, none⟩) N1 N1 ∧ Ints wx wx.heap.size (some ⟨g, 0, none⟩) N1 (tab N1 fun v => (d v : Int)) ∧ IsDist (linkOf b M hd rv X) N1 t d ∧ Below w7.heap.size w7 wx)
      case first =>
        cases b
        · go_wp2_with fail
          go_meet
          exact ⟨g, d, rfl, HI7.out, HD7.out, Below.refl _ _⟩
        · obtain ⟨a0, a1, a2, a3, a4, a5, a6, a7, a8⟩ := HC7.out.at9
          have hz7 := HC7.out.lt
          go_wp2_with fail
          refine (to_dist N1 M S1 T1 K fst hd rv AX cX X t _ HG.out HG7.out HX7.out (by omega) (by omega) htN).mono ?_
          rintro e w8 ⟨g8, d8, rfl, D8, hD8, -, B8⟩
          go_wp2_with fail
          go_meet
          exact ⟨g8, d8, rfl, D8, hD8, B8⟩
      case rest =>
        clear HD7 HI7
        obtain ⟨g, d, rfl, D8, hD8, B8⟩ := hcut
        obtain ⟨w8, hw8⟩ := world_name B8
        subst hw8
        have C8 := HC7.out.below B8 HC7.out.lt
        have G8 := HG7.out.on B8
        have X8 := HX7.out.on B8
        have Bw8 := below_step HB7.out B8
        clear HC7 HG7 HX7 HB7 B8
        have HD := Lib.hid hD8
        clear hD8
        obtain ⟨hbg, cdt⟩ := tab_cell D8 htN
        rw [HD.out.zero, Nat.zero_add] at cdt
        have a0 := C8.cell 0
        simp only [List.getElem?_toArray, List.getElem?_cons_zero] at a0
        have hz8 := C8.lt
        obtain ⟨i1, hi, hz0, hz1, hz2⟩ := info_parts bool_info
        have hml := fun W => run_make_lit (P := Try.prog) 27 4 i1 _ Try.underlying27 hi hz0 N1 (by rw [hz2]; omega) (by omega) W
        rw [hz1, bvs_made] at hml
        clear hi hz0 hz1 hz2
        go_wp2_with fail
        have N9 : Blk (w8.alloc (.cells (bvs (List.replicate N1 false)) 4)) w8.heap.size 4 (bvs (tab N1 (nearTo b hd rv X d 0))) := by rw [← near_start]; exact Blk.new rfl
        have B9 : Below w8.heap.size w8 (w8.alloc (.cells (bvs (List.replicate N1 false)) 4)) := below_alloc _
        have HC8 := Lib.hid C8; have HG8 := Lib.hid G8; have HX8 := Lib.hid X8; have HB8 := Lib.hid Bw8; have HI8 := Lib.hid D8; have HN9 := Lib.hid N9; have HB9 := Lib.hid B9
        clear C8 G8 X8 Bw8 D8 N9 B9 hml cdt hbg a0 hz8
        go_loopw [65] (fun i wr => ∃ j : Nat, j ≤ M ∧ i = .int .i64 j ∧ Below w8.heap.size w8 wr ∧ Blk wr w8.heap.size 4 (bvs (tab N1 (nearTo b hd rv X d j)))) (fun i _ => M - (intOf i).toNat)
        case atStart => exact ⟨0, Nat.zero_le _, rfl, HB9.out, HN9.out⟩
        case round =>
          clear HN9 HB9
          obtain ⟨j, hj, rfl, hBj, Nj⟩ := hrel
          by_cases hjl : j < M
          · obtain ⟨W1, hW1⟩ : ∃ W1, W1 = wr := ⟨_, rfl⟩
            subst hW1
            have C9 := HC8.out.below hBj HC8.out.lt
            have G9 := HG8.out.on hBj
            have HN9 := Lib.hid Nj; have HB9 := Lib.hid hBj
            clear Nj hBj
            obtain ⟨a0, a1, a2, a3, a4, a5, a6, a7, a8⟩ := C9.at9
            have hz9 := C9.lt
            go_wp2_with fail
            clear a0 a1 a2 a3 a4 a5 a6 a7 a8 hz9
            refine (tail2_at N1 M S1 T1 K fst hd rv j _ HG.out G9 hjl).mono ?_
            rintro e w10 ⟨rfl, B10⟩
            have C10 := C9.below B10 C9.lt
            have G10 := G9.on B10
            obtain ⟨bH, oH, hAH⟩ := G10.iH.adr (by omega)
            obtain ⟨hbH, ch⟩ : bH < w10.heap.size ∧ w10.cell? ⟨bH, oH + j, none⟩ = some (.int .i64 (hd j : Int)) := by
              have h := G10.iH
              rw [hAH] at h
              exact tab_cell h hjl
            have a4 := C10.cell 4
            simp only [List.getElem?_toArray, List.getElem?_cons_zero, List.getElem?_cons_succ] at a4
            rw [hAH] at a4
            have hz10 := C10.lt
            have HN10 := Lib.hid (HN9.out.below B10 HN9.out.lt)
            have HB10 := Lib.hid (below_step HB9.out B10)
            clear C9 G9 B10 HN9 HB9 C10 G10 hAH
            go_upto_if 82 with fail
            go_cut [15, 17] (fun s15 s17 wy => s15 = .int .i64 (tlB b hd rv j : Int) ∧ s17 = .int .i64 (hlB b hd rv j : Int) ∧ Below w10.heap.size w10 wy)
            case first =>
              cases b
              · go_wp2_with fail
                go_meet
                exact ⟨rfl, rfl, Below.refl _ _⟩
              · go_wp2_with fail
                go_meet
                exact ⟨rfl, rfl, Below.refl _ _⟩
            case rest =>
              clear a4 ch hbH hz10
              obtain ⟨rfl, rfl, By⟩ := hcut
              have hBy := Lib.hid (below_step HB10.out By)
              have hNy := HN10.out.below By HN10.out.lt
              clear By HB10 HN10
              have X11 := HX8.out.on hBy.out
              have D11 := HI8.out.on hBy.out
              obtain ⟨bX, oX, hAX⟩ := X11.adr (by omega)
              subst hAX
              obtain ⟨x, hx⟩ : ∃ x, X[j]? = some x := ⟨_, List.getElem?_eq_getElem (by rw [hXl.out]; exact hjl)⟩
              obtain ⟨hbX, cx⟩ := X11.cel hx
              have hop := opn_at hx
              clear X11 hx
              by_cases hpos : 0 < x
              · have ho : opn X j = true := by rw [hop]; exact decide_eq_true hpos
                obtain ⟨hu, hv⟩ := ends_lt (b := b) HG.out hjl
                obtain ⟨hbD, cu⟩ := tab_cell D11 hu
                obtain ⟨_, cv⟩ := tab_cell D11 hv
                rw [Nat.zero_add] at cu cv
                have hqf := hNy.frozen (tlB b hd rv j)
                have hqc := hNy.bat (tab_at hu)
                have hql := hNy.lt
                have hst := link_step HG.out HD.out hjl ho
                have hdu := HD.out.le _ hu
                have hdv := HD.out.le _ hv
                have HPUT : Hid (∀ W, Blk W w8.heap.size 4 (bvs (tab N1 (nearTo b hd rv X d j))) → Blk (W.setCell ⟨w8.heap.size, tlB b hd rv j, none⟩ (.bool (nearTo b hd rv X d j (tlB b hd rv j) || decide (d (tlB b hd rv j) = d (hlB b hd rv j) + 1)))) w8.heap.size 4 (bvs (tab N1 (nearTo b hd rv X d (j + 1))))) :=
                  Lib.hid fun W h => by
                    have h := h.bset (tlB b hd rv j) (nearTo b hd rv X d j (tlB b hd rv j) || decide (d (tlB b hd rv j) = d (hlB b hd rv j) + 1))
                    rw [near_put ho] at h
                    exact h
                have HNY := Lib.hid hNy
                clear hNy D11 hop ho
                have e0 : decide (x ≤ 0) = false := decide_eq_false (by omega)
                have e0' : ¬ x ≤ 0 := by omega
                have e1 : IntKind.i64.wrap ((d (hlB b hd rv j) : Int) + 1) = (d (hlB b hd rv j) : Int) + 1 := by rw [IntKind.wrap_i64]; omega
                have e2 : decide ((d (hlB b hd rv j) : Int) + 1 < (d (tlB b hd rv j) : Int)) = false := decide_eq_false (by omega)
                go_wp2_with fail
                go_quiet (fail)
                have B12 : Below wc.heap.size wc (wc.drewN nq) := below_drewN' (Below.refl _ _) _
                have N12 := HNY.out.below B12 HNY.out.lt
                have D12 := (HI8.out.on hBy.out).on B12
                have hB12 := Lib.hid (below_step hBy.out B12)
                clear cu cv hqf hqc hql hbD hbX cx B12
                generalize wc.drewN nq = w12 at *
                obtain ⟨hbD, cu⟩ := tab_cell D12 hu
                obtain ⟨_, cv⟩ := tab_cell D12 hv
                rw [Nat.zero_add] at cu cv
                have hqf := N12.frozen (tlB b hd rv j)
                have hqc := N12.bat (tab_at hu)
                have hql := N12.lt
                have HN12 := Lib.hid N12
                clear N12 D12
                generalize d (tlB b hd rv j) = du at *
                generalize d (hlB b hd rv j) = dv at *
                generalize nearTo b hd rv X d j (tlB b hd rv j) = nb at *
                generalize tlB b hd rv j = u at *
                generalize hlB b hd rv j = v at *
                go_wp2_with fail
                by_cases hnb : nb = false
                · subst hnb
                  by_cases hdd : du = dv + 1
                  · have e3 : decide ((du : Int) = (dv : Int) + 1) = true := decide_eq_true (by omega)
                    go_still_tail 19, (by kernel_rfl)
                    change wpList _ _ _ _ _ w12.drew
                    have N13 := HN12.out.drew
                    have B13 := hB12.out.drew
                    clear cu cv hqf hqc hql hbD
                    generalize w12.drew = w13 at *
                    have hqf := N13.frozen u
                    have hqc := N13.bat (tab_at hu)
                    have hql := N13.lt
                    have hP := HPUT.out _ N13
                    rw [show (false || decide (du = dv + 1)) = true from by simp [hdd]] at hP
                    have HP13 := Lib.hid hP; have HB13 := Lib.hid B13
                    clear hP N13 B13
                    go_wp2_with fail
                    go_roundw
                    case rel => exact ⟨j + 1, by omega, by go_num, HB13.out.setCell (Nat.le_refl _) _, HP13.out⟩
                    case measure => simp [intOf]; omega
                  · have e3 : decide ((du : Int) = (dv : Int) + 1) = false := decide_eq_false (by omega)
                    have e4 : ((du : Int) == (dv : Int) + 1) = false := beq_eq_false_iff_ne.2 (by omega)
                    go_still_tail 19, (by kernel_rfl)
                    change wpList _ _ _ _ _ w12.drew
                    have N13 := HN12.out.drew
                    have B13 := hB12.out.drew
                    clear cu cv hqf hqc hql hbD
                    generalize w12.drew = w13 at *
                    have hqf := N13.frozen u
                    have hqc := N13.bat (tab_at hu)
                    have hql := N13.lt
                    have hP := HPUT.out _ N13
                    rw [show (false || decide (du = dv + 1)) = false from by simp [hdd]] at hP
                    have HP13 := Lib.hid hP; have HB13 := Lib.hid B13
                    clear hP N13 B13
                    go_wp2_with fail
                    go_roundw
                    case rel => exact ⟨j + 1, by omega, by go_num, HB13.out.setCell (Nat.le_refl _) _, HP13.out⟩
                    case measure => simp [intOf]; omega
                · have HNB : Hid (nb = true) := Lib.hid (by simpa using hnb)
                  clear hnb
                  refine wp_region_still_tail 19 (by kernel_rfl) (by kernel_rfl) ?_
                  simp only [List.take_succ_cons, List.take_zero, List.drop_succ_cons, List.drop_zero]
                  iterate 7 still_step
                  iterate 10
                    refine still_skip (by obtain rfl := HNB.out; kernel_rfl) ?_
                    simp only [Act.put, List.setIfInBounds_toArray, List.set_cons_zero, List.set_cons_succ]
                  obtain rfl := HNB.out
                  iterate 2 still_step
                  refine wpStill_nil ?_
                  change wpList _ _ _ _ _ w12.drew
                  have N13 := HN12.out.drew
                  have B13 := hB12.out.drew
                  clear cu cv hqf hqc hql hbD
                  generalize w12.drew = w13 at *
                  have hqf := N13.frozen u
                  have hqc := N13.bat (tab_at hu)
                  have hql := N13.lt
                  have hP := HPUT.out _ N13
                  rw [show (true || decide (du = dv + 1)) = true from by simp] at hP
                  have HP13 := Lib.hid hP; have HB13 := Lib.hid B13
                  clear hP N13 B13
                  go_wp2_with fail
                  go_roundw
                  case rel => exact ⟨j + 1, by omega, by go_num, HB13.out.setCell (Nat.le_refl _) _, HP13.out⟩
                  case measure => simp [intOf]; omega
              · have ho : opn X j = false := by rw [hop]; exact decide_eq_false hpos
                have e0 : decide (x ≤ 0) = true := decide_eq_true (by omega)
                have e0' : x ≤ 0 := by omega
                rw [near_skip j ho] at hNy
                have HNY := Lib.hid hNy
                clear hNy hop ho D11 hpos
                go_wp2_with fail
                go_roundw
                case rel => exact ⟨j + 1, by omega, by go_num, hBy.out, HNY.out⟩
                case measure => simp [intOf]; omega
          · obtain rfl : j = M := by omega
            obtain ⟨w9, hw9⟩ := world_name hBj
            subst hw9
            have D9 := HI8.out.on hBj
            have C9 := HC8.out.below hBj HC8.out.lt
            have B9 := below_step HB8.out hBj
            have HC9 := Lib.hid C9; have HB9 := Lib.hid B9; have HI9 := Lib.hid D9; have HN9 := Lib.hid Nj
            clear hBj Nj D9 C9 B9 HI8 HC8 HG8 HB8
            go_wp2_with fail
            go_loopw [122] (fun i wr => ∃ v : Nat, v ≤ N1 ∧ i = .int .i64 v ∧ Below w9.heap.size w9 wr) (fun i _ => N1 - (intOf i).toNat)
            case atStart => exact ⟨0, Nat.zero_le _, rfl, Below.refl _ _⟩
            case round =>
              obtain ⟨v, hv, rfl, hBv⟩ := hrel
              by_cases hvl : v < N1
              · have D10 := HI9.out.on hBv
                have C10 := HC9.out.below hBv HC9.out.lt
                have N10 := HN9.out.below hBv HN9.out.lt
                obtain ⟨hbD, cv⟩ := tab_cell D10 hvl
                rw [Nat.zero_add] at cv
                have a0 := C10.cell 0
                simp only [List.getElem?_toArray, List.getElem?_cons_zero] at a0
                have hz10 := C10.lt
                have hqc := N10.bat (tab_at hvl)
                have hql := N10.lt
                have hle := HD.out.le v hvl
                have hz := HD.out.zero_iff hvl
                have hna := near_all (u := v) HG.out HD.out hvl
                have HBv := Lib.hid hBv
                clear D10 C10 N10 hBv
                generalize nearTo b hd rv X d j v = nb at *
                generalize d v = dv at *
                have g1 : decide ((dv : Int) < 0) = false := decide_eq_false (by omega)
                have g2 : decide ((N1 : Int) < (dv : Int)) = false := decide_eq_false (by omega)
                by_cases h0 : dv = 0
                · obtain rfl := hz.1 h0
                  subst h0
                  clear hz hna
                  go_wp2_with fail
                  go_roundw
                  case rel => exact ⟨v + 1, by omega, by go_num, HBv.out⟩
                  case measure => simp [intOf]; omega
                · have hvt : ¬ v = t := fun e => h0 (hz.2 e)
                  have hvt' : ¬ (v : Int) = (t : Int) := by omega
                  have g3 : decide ((dv : Int) = 0) = false := decide_eq_false (by omega)
                  have g3' : ¬ (dv : Int) = 0 := by omega
                  have g4 : decide ((v : Int) = (t : Int)) = false := decide_eq_false (by omega)
                  have g7 : ((dv : Int) == 0) = false := beq_eq_false_iff_ne.2 (by omega)
                  have g8 : ((v : Int) == (t : Int)) = false := beq_eq_false_iff_ne.2 (by omega)
                  have g5 : decide (0 < (dv : Int)) = true := decide_eq_true (by omega)
                  by_cases hlN : dv < N1
                  · have g6 : decide ((dv : Int) < (N1 : Int)) = true := decide_eq_true (by omega)
                    obtain rfl := hna hlN hvt
                    clear hz
                    go_wp2_with fail
                    go_roundw
                    case rel => exact ⟨v + 1, by omega, by go_num, HBv.out⟩
                    case measure => simp [intOf]; omega
                  · have g6 : decide ((dv : Int) < (N1 : Int)) = false := decide_eq_false (by omega)
                    clear hz hna
                    go_wp2_with fail
                    go_roundw
                    case rel => exact ⟨v + 1, by omega, by go_num, HBv.out⟩
                    case measure => simp [intOf]; omega
              · have hBt := Lib.hid (below_step HB9.out hBv)
                clear hBv
                go_wp2_with fail
                go_roundw
                case rel => exact ⟨k + 1, by omega, by go_num, hBt.out⟩
                case measure => simp [intOf]; omega
    · have hBt := Lib.hid (below_step HB5.out hBr)
      clear hBr
      go_wp2_with fail
      refine (awake5_any _).mono ?_
      rintro e w14 ⟨rfl, B14⟩
      go_wp2_with fail
      go_ret
      exact ⟨rfl, below_step hBt.out B14⟩

end Go.Proofs.Ytdbfngamplkjeaa
