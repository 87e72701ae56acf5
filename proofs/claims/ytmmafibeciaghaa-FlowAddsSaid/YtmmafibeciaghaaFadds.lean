/- FlowAdds: the walk, up to the sums. -/
import Derived.Test.YtmmafibeciaghaaAwake3
import Derived.Test.YtmmafibeciaghaaLawp
import Derived.Test.YtmmafibeciaghaaNetd
import Derived.Test.YtmmafibeciaghaaMakes
import Derived.Deep.AppendLies
import Derived.Deep.DeepCutAuto
import Derived.Deep.CutBlock
namespace Go.Proofs.Ytmmafibeciaghaa
open Go.RowKit

def halfArc (a : ArcN) : ArcN := ⟨a.frm, a.to, a.cap.tdiv 2⟩
theorem half_cap {c : Int} (h : 0 ≤ c) : 0 ≤ c.tdiv 2 ∧ c.tdiv 2 + c.tdiv 2 ≤ c := by
  rw [Int.tdiv_eq_ediv_of_nonneg h]
  omega
theorem mapTo_at {α : Type} (f : α → α) {l : List α} {k : Nat} {a : α} (h : l[k]? = some a) : (mapTo f l k)[k]? = some a := by
  have hk := (List.getElem?_eq_some_iff.1 h).1
  unfold mapTo
  rw [List.getElem?_append_right (by simp; omega)]
  have e : ((l.take k).map f).length = k := by simp; omega
  rw [e, Nat.sub_self, drop_at h]
  rfl
def zipSum (X Y : List Int) : List Int := List.zipWith (· + ·) X Y
theorem zipSum_at {X Y : List Int} {i : Nat} {x y : Int} (hx : X[i]? = some x) (hy : Y[i]? = some y) : (zipSum X Y)[i]? = some (x + y) := by
  simp [zipSum, List.getElem?_zipWith, hx, hy]
theorem zipSum_len {X Y : List Int} (h : X.length = Y.length) : (zipSum X Y).length = X.length := by simp [zipSum, h]
theorem flow_halves {l : List ArcN} {n : Nat} {X Y : List Int} (hX : WithinTo (l.map halfArc) n X) (hY : WithinTo (l.map halfArc) n Y) (hl : l.length = n) (hc : ∀ a ∈ l, 0 ≤ a.cap) : FlowIn l X ∧ FlowIn l Y ∧ FlowIn l (zipSum X Y) := by
  have hXl : X.length = l.length := by rw [hX.len]; simp
  have hYl : Y.length = l.length := by rw [hY.len]; simp
  have ex : ∀ (i : Nat) (a : ArcN) (x : Int), l[i]? = some a → X[i]? = some x → 0 ≤ x ∧ x ≤ a.cap.tdiv 2 := fun i a x ha hx => by
    have := hX.ent i (halfArc a) x (by have := (List.getElem?_eq_some_iff.1 ha).1; omega) (by simp [ha]) hx
    exact ⟨this.1, this.2.1⟩
  have ey : ∀ (i : Nat) (a : ArcN) (x : Int), l[i]? = some a → Y[i]? = some x → 0 ≤ x ∧ x ≤ a.cap.tdiv 2 := fun i a x ha hx => by
    have := hY.ent i (halfArc a) x (by have := (List.getElem?_eq_some_iff.1 ha).1; omega) (by simp [ha]) hx
    exact ⟨this.1, this.2.1⟩
  refine ⟨⟨hXl, fun i a x ha hx => ?_⟩, ⟨hYl, fun i a x ha hx => ?_⟩, ⟨by rw [zipSum_len (by omega)]; exact hXl, fun i a z ha hz => ?_⟩⟩
  · have := ex i a x ha hx; have := half_cap (hc a (mem_at ha)); omega
  · have := ey i a x ha hx; have := half_cap (hc a (mem_at ha)); omega
  · have hlt := (List.getElem?_eq_some_iff.1 ha).1
    obtain ⟨x, hx⟩ : ∃ x, X[i]? = some x := ⟨_, List.getElem?_eq_getElem (by omega)⟩
    obtain ⟨y, hy⟩ : ∃ y, Y[i]? = some y := ⟨_, List.getElem?_eq_getElem (by omega)⟩
    rw [zipSum_at hx hy] at hz
    injection hz with hz
    have := ex i a x ha hx; have := ey i a y ha hy; have := half_cap (hc a (mem_at ha)); omega
theorem ex_zip {l : List ArcN} {X Y : List Int} (hX : X.length = l.length) (hY : Y.length = l.length) (u : Int) : exOf l (zipSum X Y) u = exOf l X u + exOf l Y u :=
  exOf_plus hX hY (by rw [zipSum_len (by omega)]; exact hX) (fun i x y z hx hy hz => by
    rw [zipSum_at hx hy] at hz
    injection hz with hz
    exact hz.symm) u

theorem adds_keep {W0 W : World} {g n c : Nat} {N S T : Int} {A : Option Addr} (K : Blk W0 g 24 #[.int .i64 N, .int .i64 S, .int .i64 T, .slice A n c]) (hB : Below W0.heap.size W0 W) :
    Below W0.heap.size W0 W ∧ W.cell? ⟨g, 0, none⟩ = some (.int .i64 N) ∧ W.cell? ⟨g, 1, none⟩ = some (.int .i64 S) ∧ W.cell? ⟨g, 2, none⟩ = some (.int .i64 T) ∧ W.cell? ⟨g, 3, none⟩ = some (.slice A n c) :=
  ⟨hB, (K.below hB K.lt).at4⟩
theorem zip_keep {W0 W : World} {g g' j : Nat} {X Y : List Int} {x y : Int} (hX : Blk W0 g 2 (ivs X)) (hY : Blk W0 g' 2 (ivs Y)) (hx : X[j]? = some x) (hy : Y[j]? = some y) (hB : Below W0.heap.size W0 W) :
    Below W0.heap.size W0 W ∧ W.cell? ⟨g, j, none⟩ = some (.int .i64 x) ∧ W.cell? ⟨g', j, none⟩ = some (.int .i64 y) :=
  ⟨hB, (hX.below hB hX.lt).iat hx, (hY.below hB hY.lt).iat hy⟩
theorem longs_own {w : World} {base n c : Nat} {A : Option Addr} {l : List Int} (h : w.ownsRow base 2 1 (.slice A n c) n (l.flatMap intCells)) (hl : l.length = n) : Ints w w.heap.size A n l := RdBy.of_own hl (int_len l) h

set_option maxRecDepth 100000 in
set_option maxHeartbeats 8000000 in
theorem fadds_walk (N S T : Int) (A : Option Addr) (n c : Nat) (l : List ArcN) (AL : Option Addr) (nl cl : Nat) (L : List Int) (AM : Option Addr) (nm cm : Nat) (M : List Int) (w : World) (hA : Arcs w w.heap.size A n l) (hf : FitsAll l) (hnc : n ≤ c) (hL : Ints w w.heap.size AL nl L) (hLR : ∀ x ∈ L, InR x)
    (hM : Ints w w.heap.size AM nm M) (hMR : ∀ x ∈ M, InR x) :
    Calls Try.prog 7 #[.agg #[.int .i64 N, .int .i64 S, .int .i64 T, .slice A n c], .slice AL nl cl, .slice AM nm cm] w fun e w' => e = .returned (.bool true) ∧ Below w.heap.size w w' := by
  have hso := fun W hW => some_any N S T A n c 40 80 l W hW hf hnc (by omega) (by omega) (by omega)
  obtain ⟨N1, hN1, hN2, hN3, hck, hln, hmem⟩ := some_net N S T 40 80 l (by omega) (by omega) (by omega)
  rw [hN1] at hso hck hln hmem
  generalize S % (N1 : Int) = S1 at *
  generalize someT (N1 : Int) S T = T1 at *
  generalize someL (N1 : Int) 80 l = l1 at *
  have htot := total_le (c := 1125899906842624) fun a ha => (hmem a ha).2.2.2.2.2
  have HSO := Lib.hid hso; have HCK := Lib.hid hck; have HMEM := Lib.hid hmem
  clear hso hck hmem hN1
  go_enter Try.func7, Try.ntmps7
  go_wp2_with fail
  refine (HSO.out _ (hA.onAlloc _)).mono ?_
  rintro e w1 ⟨A1, n1, c1, rfl, o1, hl1, B1⟩
  have K1 : Blk w1 w.heap.size 24 #[.int .i64 N, .int .i64 S, .int .i64 T, .slice A n c] := (Blk.new rfl).below B1 (by simp)
  have hz1 := K1.lt
  obtain ⟨r0, r1, r2, r3⟩ := K1.at4
  obtain ⟨f0, f1, f2, f3⟩ := K1.free4
  have ST := some_stored K1 o1 hl1 (below_step (below_alloc _) B1) (.int .i64 (N1 : Int)) (.int .i64 S1) (.int .i64 T1)
  have hn1 : n1 ≤ 80 := by omega
  go_wp2_with fail
  generalize (((w1.setCell ⟨w.heap.size, 0, none⟩ (.int .i64 (N1 : Int))).setCell ⟨w.heap.size, 1, none⟩ (.int .i64 S1)).setCell ⟨w.heap.size, 2, none⟩ (.int .i64 T1)).setCell ⟨w.heap.size, 3, none⟩ (.slice A1 n1 c1) = w2 at *
  obtain ⟨K2, a2, Bw2⟩ := ST
  clear r0 r1 r2 r3 f0 f1 f2 f3 K1 o1 B1 hz1 HSO
  have hz2 := K2.lt
  refine (copy_any N1 S1 T1 A1 n1 c1 l1 _ a2 (by omega)).mono ?_
  rintro e w3 ⟨A3, n3, c3, rfl, o3, hl3, B3⟩
  obtain rfl : n1 = n3 := hl1.symm.trans hl3
  clear hl3
  have K3 := K2.below B3 K2.lt
  have hz3 := K3.lt
  have hz23 := B3.size
  go_wp2_with fail
  have H3 : Blk (w3.alloc (.cells #[.int .i64 (N1 : Int), .int .i64 S1, .int .i64 T1, .slice A3 n1 c3] 24)) w3.heap.size 24 #[.int .i64 (N1 : Int), .int .i64 S1, .int .i64 T1, .slice A3 n1 c3] := Blk.new rfl
  have o3' := o3.alloc (.cells #[.int .i64 (N1 : Int), .int .i64 S1, .int .i64 T1, .slice A3 n1 c3] 24)
  have B3' := B3.alloc hz23 (.cells #[.int .i64 (N1 : Int), .int .i64 S1, .int .i64 T1, .slice A3 n1 c3] 24)
  go_loopw [8, 27] (fun _ i wr => ∃ k : Nat, k ≤ n1 ∧ i = .int .i64 k ∧ Below w2.heap.size w2 wr ∧ Blk wr w3.heap.size 24 #[.int .i64 (N1 : Int), .int .i64 S1, .int .i64 T1, .slice A3 n1 c3] ∧
      wr.ownsRow w2.heap.size 50 3 (.slice A3 n1 c3) n1 ((mapTo halfArc l1 k).flatMap arcCells)) (fun _ i _ => n1 - (intOf i).toNat)
  case atStart => exact ⟨0, Nat.zero_le _, rfl, B3', H3, by rw [mapTo_zero]; exact o3'⟩
  case round =>
    obtain ⟨k, hk, rfl, hb, HK, ho⟩ := hrel
    have HO := Lib.hid ho; clear ho o3 o3' B3' B3
    obtain ⟨r0, r1, r2, r3⟩ := HK.at4
    have hzk := HK.lt
    by_cases hlt : k < n1
    · obtain ⟨g, rfl, hg1, hg2⟩ := own_form HO.out (by omega)
      obtain ⟨x, hx, x0, x1, x2, q0, q1, q2⟩ := own_cells3 HO.out ((mapTo_len _ _ _).trans hl1) hlt
      obtain ⟨a, ha⟩ : ∃ a, l1[k]? = some a := ⟨_, List.getElem?_eq_getElem (by omega)⟩
      obtain rfl : x = a := by have := hx.symm.trans (mapTo_at halfArc ha); injection this
      have hca := HMEM.out x (mem_at ha)
      have hx2 := half_cap hca.2.2.2.2.1
      have HX := Lib.hid hx; have HAA := Lib.hid ha; clear hx ha
      go_wp2_with fail
      go_roundw
      case rel =>
        have hne := own_ne HO.out HK (by decide) g rfl
        refine ⟨k + 1, by omega, by go_num, hb.setCell (by simp; omega) _, HK.far (Ne.symm hne) _, ?_⟩
        rw [← mapTo_set halfArc HAA.out]
        exact own_setCap HO.out HX.out _
      case measure => simp [intOf]; omega
    · have ho := HO.out
      rw [mapTo_end halfArc l1 hl1 hlt] at ho
      have ah := arcs_own ho (by rw [List.length_map]; exact hl1)
      have ar := a2.on hb
      have Kr := K2.below hb K2.lt
      have Lr : Ints wr wr.heap.size AL nl L := (hL.below (below_step Bw2 hb)).more (by have := Bw2.size; have := hb.size; omega)
      have Mr : Ints wr wr.heap.size AM nm M := (hM.below (below_step Bw2 hb)).more (by have := Bw2.size; have := hb.size; omega)
      have Bwr := below_step Bw2 hb
      have hzr := Kr.lt
      clear ho HO K2 K3 a2 Bw2 hb H3 hz2 hz3 hz23 hzk r0 r1 r2 r3
      have HK8 := Lib.hid HK
      have HAH := Lib.hid (fun (W : World) (hb : Below wr.heap.size wr W) => ah.on hb); have HLL := Lib.hid (fun (W : World) (hb : Below wr.heap.size wr W) => Lr.on hb); have HMM := Lib.hid (fun (W : World) (hb : Below wr.heap.size wr W) => Mr.on hb)
      have hch : ∀ a ∈ l1.map halfArc, 0 ≤ a.cap ∧ a.cap < 1125899906842624 := fun a ha => by
        obtain ⟨b, hb, rfl⟩ := List.mem_map.1 ha
        have h1 := HMEM.out b hb
        have h2 := half_cap h1.2.2.2.2.1
        simp only [halfArc]
        omega
      have HCH := Lib.hid hch; clear hch
      obtain ⟨r0, r1, r2, r3⟩ := HK.at4
      go_wp2_with fail
      have tok1 : True := trivial
      go_region_held3 (fun W => Below wr.heap.size wr W ∧ W.cell? ⟨w3.heap.size, 0, none⟩ = some (.int .i64 (N1 : Int)) ∧ W.cell? ⟨w3.heap.size, 1, none⟩ = some (.int .i64 S1) ∧ W.cell? ⟨w3.heap.size, 2, none⟩ = some (.int .i64 T1) ∧ W.cell? ⟨w3.heap.size, 3, none⟩ = some (.slice A3 n1 c3))
        (first
          | exact adds_keep HK8.out (Below.refl _ _).drew
          | (go_split_ands
             exact adds_keep HK8.out (by refine below_step ?_ (by assumption); assumption)))
        (first
          | (go_at_call 9; have _t := tok1; go_split_ands; ((with_reducible refine (withinL_any N1 S1 T1 A3 n1 c3 (l1.map halfArc) AL nl cl L _ (HAH.out _ (by assumption)) (by omega) HCH.out (HLL.out _ (by assumption)) hLR).mono ?_); rintro e W4 ⟨gX, X, rfl, hgX, X4, WX, B4⟩; clear tok1 _t))
          | (go_at_call 9; go_split_ands; ((with_reducible refine (withinL_any N1 S1 T1 A3 n1 c3 (l1.map halfArc) AM nm cm M _ (HAH.out _ (by assumption)) (by omega) HCH.out (HMM.out _ (by assumption)) hMR).mono ?_); rintro e W5 ⟨gY, Y, rfl, hgY, Y5, WY, B5⟩)))
      go_split_ands
      have hb5 : Below wr.heap.size wr W5 := by assumption
      obtain ⟨hfX, hfY, hfZ⟩ := flow_halves WX WY hl1 (fun a ha => (HMEM.out a ha).2.2.2.2.1)
      have hXl : X.length = n1 := hfX.len.trans hl1
      have hYl : Y.length = n1 := hfY.len.trans hl1
      have hZl : (zipSum X Y).length = n1 := hfZ.len.trans hl1
      have K5 := Kr.below hb5 Kr.lt
      have a5 := ar.on hb5
      have X5 := X4.below B5 X4.lt
      have Bw5 := below_step Bwr hb5
      have HFX := Lib.hid hfX; have HFY := Lib.hid hfY; have HFZ := Lib.hid hfZ; have HZL := Lib.hid hZl
      clear hfX hfY hfZ hZl WX WY X4 B5 B4 hb5 Bwr Kr ar HLL HMM HAH HCH HK8 HK ah Lr Mr hgX hgY hzr hL hM hA
      obtain ⟨i1, hi, hz0, hz1, hz2⟩ := info_parts long_info
      have HI := Lib.hid hi; have HZ0 := Lib.hid hz0; have HZ1 := Lib.hid hz1; have HZ2 := Lib.hid hz2
      clear hi hz0 hz1 hz2
      go_wp2_with fail
      go_loopw [11, 12, 48] (fun s11 _ i wx => ∃ (j : Nat) (AB : Option Addr) (cB : Nat), j ≤ n1 ∧ i = .int .i64 j ∧ s11 = .slice AB j cB ∧ wx.ownsRow W5.heap.size 2 1 (.slice AB j cB) j (((zipSum X Y).take j).flatMap intCells) ∧ Below W5.heap.size W5 wx) (fun _ _ i _ => n1 - (intOf i).toNat)
      case atStart => exact ⟨0, none, 0, Nat.zero_le _, rfl, rfl, by simpa using World.ownsRow_nil _ _ _ _, Below.refl _ _⟩
      case round =>
        obtain ⟨j, AB, cB, hj, rfl, rfl, ho, hb⟩ := hrel
        have HO := Lib.hid ho; clear ho
        by_cases hlt2 : j < n1
        · obtain ⟨x, hx⟩ : ∃ x, X[j]? = some x := ⟨_, List.getElem?_eq_getElem (by omega)⟩
          obtain ⟨y, hy⟩ : ∃ y, Y[j]? = some y := ⟨_, List.getElem?_eq_getElem (by omega)⟩
          have hxy := zipSum_at hx hy
          obtain ⟨a, ha⟩ : ∃ a, l1[j]? = some a := ⟨_, List.getElem?_eq_getElem (by omega)⟩
          have e1 := HFX.out.ent j a x ha hx
          have e2 := HFY.out.ent j a y ha hy
          have e3 := HMEM.out a (mem_at ha)
          have HXY := Lib.hid hxy; clear hxy ha
          have hjn : (j : Int) < (n1 : Int) := by omega
          have hwr : IntKind.i64.wrap (x + y) = x + y := wrap_id (by omega) (by omega)
          have HX := Lib.hid hx; have HY := Lib.hid hy
          have hzd := hb.size
          have hsrc : ∀ q u, ([x + y].flatMap intCells)[q]? = some u → ((wr.alloc (.cells #[.int .i64 (x + y)] 2)).drew).cell? ((⟨wr.heap.size, 0, none⟩ : Addr).add q) = some u := fun q u hu => by
            rw [addr_add, Nat.zero_add]
            exact ((Blk.new rfl : Blk (wr.alloc _) wr.heap.size 2 #[.int .i64 (x + y)]).drew.cell q).trans (by simpa [intCells] using hu)
          have HSRC := Lib.hid hsrc
          have HO2 : Hid (((wr.alloc (.cells #[.int .i64 (x + y)] 2)).drew).ownsRow W5.heap.size 2 1 (.slice AB j cB) j (((zipSum X Y).take j).flatMap intCells)) := Lib.hid (HO.out.alloc _)
          have hbA : Below W5.heap.size W5 ((wr.alloc (.cells #[.int .i64 (x + y)] 2)).drew) := (hb.alloc hzd _).drew
          clear hx hy hsrc
          go_wp2_with fail
          go_region_held3 (fun W => Below W5.heap.size W5 W ∧ W.cell? ⟨gX, j, none⟩ = some (.int .i64 x) ∧ W.cell? ⟨gY, j, none⟩ = some (.int .i64 y))
            (first
              | exact zip_keep X5 Y5 HX.out HY.out hb.drew
              | exact zip_keep X5 Y5 HX.out HY.out hbA
              | exact zip_keep X5 Y5 HX.out HY.out (below_grown hbA (by assumption) HO2.out (Nat.le_refl _) (by simp; omega)))
            (first
              | (refine step_append_lies _ rfl (.tmp 51) (.tmp 61) _ rfl W5.heap.size 2 i1 _ 1 8 Try.underlying25 HI.out HZ0.out HZ1.out HZ2.out rfl (by omega) (.slice AB j cB) j _ rfl HO2.out ⟨wr.heap.size, 0, none⟩ 1 1 ([x + y].flatMap intCells) rfl rfl HSRC.out int_one (by omega) (by unfold maxLen; omega) (by omega) (by simp; omega) _ rfl ?_; intro g6 c6 w6 ho6 hg6 hat6 hlt6))
          have B6 := below_grown hbA hg6 HO2.out (Nat.le_refl _) (by simp; omega)
          have HO6 := Lib.hid ho6; clear ho6
          go_wp2_with fail
          go_roundw
          case rel =>
            refine ⟨j + 1, some ⟨g6, 0, none⟩, c6, by omega, by go_num, rfl, ?_, B6⟩
            rw [take_at HXY.out, List.flatMap_append]
            exact HO6.out
          case measure => simp [intOf]; omega
        · have ho := HO.out
          obtain rfl : n1 = j := by omega
          rw [List.take_of_length_le (by have := HZL.out; omega)] at ho
          have z6 := longs_own ho HZL.out
          have K6 := K5.below hb K5.lt
          have a6 := a5.on hb
          have X6 := X5.below hb X5.lt
          have Y6 := Y5.below hb Y5.lt
          have Bw6 := below_step Bw5 hb
          have hz6 := K6.lt
          clear ho HO K5 a5 X5 Y5 Bw5 hb r0 r1 r2 r3 hj hlt2 hlt hk HI HZ0 HZ1 HZ2
          obtain ⟨r0, r1, r2, r3⟩ := K6.at4
          go_wp2_with fail
          refine (excess_good N1 S1 T1 A1 n1 c1 l1 _ n1 _ X _ a6 HCK.out (X6.ints hXl) HFX.out).mono ?_
          rintro e w7 ⟨g7, rfl, hg7, P7, -, B7⟩
          have K7 := K6.below B7 K6.lt
          have a7 := a6.on B7
          have X7 := X6.below B7 X6.lt
          have Y7 := Y6.below B7 Y6.lt
          have z7 := z6.on B7
          have Bw7 := below_step Bw6 B7
          clear r0 r1 r2 r3 hz6 K6 a6 X6 Y6 z6 Bw6 B7
          obtain ⟨r0, r1, r2, r3⟩ := K7.at4
          have hz7 := K7.lt
          go_wp2_with fail
          refine (excess_good N1 S1 T1 A1 n1 c1 l1 _ n1 _ Y _ a7 HCK.out (Y7.ints hYl) HFY.out).mono ?_
          rintro e w8 ⟨g8, rfl, hg8, Q8, -, B8⟩
          have P8 := P7.below B8 P7.lt
          clear P7
          have K8 := K7.below B8 K7.lt
          have a8 := a7.on B8
          have X8 := X7.below B8 X7.lt
          have Y8 := Y7.below B8 Y7.lt
          have z8 := z7.on B8
          have Bw8 := below_step Bw7 B8
          clear r0 r1 r2 r3 hz7 K7 a7 X7 Y7 z7 Bw7 B8
          obtain ⟨r0, r1, r2, r3⟩ := K8.at4
          have hz8 := K8.lt
          go_wp2_with fail
          refine (excess_good N1 S1 T1 A1 n1 c1 l1 _ n1 _ _ _ a8 HCK.out z8 HFZ.out).mono ?_
          rintro e w9 ⟨g9, rfl, hg9, R9, -, B9⟩
          have P9 := P8.below B9 P8.lt
          have Q9 := Q8.below B9 Q8.lt
          clear P8 Q8
          have K9 := K8.below B9 K8.lt
          have a9 := a8.on B9
          have X9 := X8.below B9 X8.lt
          have Y9 := Y8.below B9 Y8.lt
          have z9 := z8.on B9
          have Bw9 := below_step Bw8 B9
          clear r0 r1 r2 r3 hz8 K8 a8 X8 Y8 z8 Bw8 B9
          obtain ⟨r0, r1, r2, r3⟩ := K9.at4
          have hz9 := K9.lt
          go_wp2_with fail
          go_loopw [19, 108] (fun _ i wr => ∃ j nd : Nat, j ≤ N1 ∧ i = .int .i64 j ∧ wr = w9.drewN nd) (fun _ i _ => N1 - (intOf i).toNat)
          case atStart => exact ⟨0, 0, Nat.zero_le _, rfl, rfl⟩
          case round =>
            obtain ⟨j, nd, hj, rfl, rfl⟩ := hrel
            by_cases hlt3 : j < N1
            · have p0 := P9.iat (exList_at l1 X hlt3)
              have q0 := Q9.iat (exList_at l1 Y hlt3)
              have s0 := R9.iat (exList_at l1 (zipSum X Y) hlt3)
              rw [ex_zip HFX.out.len HFY.out.len] at s0
              have b1 := exOf_bound HFX.out (j : Int)
              have b2 := exOf_bound HFY.out (j : Int)
              generalize exOf l1 X (j : Int) = ex at *
              generalize exOf l1 Y (j : Int) = ey at *
              have hjN : (j : Int) < (N1 : Int) := by omega
              have hne : (ex + ey != ex + ey) = false := by simp
              have hwr : IntKind.i64.wrap (ex + ey) = ex + ey := wrap_any (by omega) (by omega)
              go_wp2_with fail
              go_quiet (fail)
              go_wp2_with fail
              go_roundw
              case rel => exact ⟨j + 1, nd + nq, by omega, by go_num, rfl⟩
              case measure => simp [intOf]; omega
            · have Kd : Blk (w9.drewN nd) w.heap.size 24 #[.int .i64 (N1 : Int), .int .i64 S1, .int .i64 T1, .slice A1 n1 c1] := K9.drewN _
              have ad : Arcs (w9.drewN nd) (w9.drewN nd).heap.size A1 n1 l1 := a9.on (below_drewN' (Below.refl _ _) _)
              have Xd : Blk (w9.drewN nd) gX 2 (ivs X) := X9.drewN _
              have Yd : Blk (w9.drewN nd) gY 2 (ivs Y) := Y9.drewN _
              have zd : Ints (w9.drewN nd) (w9.drewN nd).heap.size AB n1 (zipSum X Y) := z9.on (below_drewN' (Below.refl _ _) _)
              have Bd : Below w.heap.size w (w9.drewN nd) := below_drewN' Bw9 _
              clear r0 r1 r2 r3 hz9 K9 a9 X9 Y9 z9 Bw9 P9 Q9 R9
              generalize w9.drewN nd = wA at *
              obtain ⟨rf, hrf⟩ : ∃ r : Bool, r = true ↔ FlowIn l1 X ∧ RightIn N1 S1 T1 l1 X := ⟨rightD S1 T1 l1 X N1, by rw [rightD_iff]; simp [HFX.out]⟩
              obtain ⟨rg, hrg⟩ : ∃ r : Bool, r = true ↔ FlowIn l1 Y ∧ RightIn N1 S1 T1 l1 Y := ⟨rightD S1 T1 l1 Y N1, by rw [rightD_iff]; simp [HFY.out]⟩
              obtain ⟨rb, hrb⟩ : ∃ r : Bool, r = true ↔ FlowIn l1 (zipSum X Y) ∧ RightIn N1 S1 T1 l1 (zipSum X Y) := ⟨rightD S1 T1 l1 (zipSum X Y) N1, by rw [rightD_iff]; simp [HFZ.out]⟩
              obtain ⟨pf, hpf⟩ : ∃ r : Bool, r = true ↔ FlowIn l1 X ∧ PreIn N1 S1 l1 X := ⟨preD S1 l1 X N1, by rw [preD_iff]; simp [HFX.out]⟩
              obtain ⟨pg, hpg⟩ : ∃ r : Bool, r = true ↔ FlowIn l1 Y ∧ PreIn N1 S1 l1 Y := ⟨preD S1 l1 Y N1, by rw [preD_iff]; simp [HFY.out]⟩
              obtain ⟨pb, hpb⟩ : ∃ r : Bool, r = true ↔ FlowIn l1 (zipSum X Y) ∧ PreIn N1 S1 l1 (zipSum X Y) := ⟨preD S1 l1 (zipSum X Y) N1, by rw [preD_iff]; simp [HFZ.out]⟩
              have hz := fun u : Nat => ex_zip HFX.out.len HFY.out.len (u : Int)
              have h1 : rf = true → rb = rg := fun h => by
                have hX := (hrf.1 h).2
                rw [Bool.eq_iff_iff, hrb, hrg]
                simp only [HFZ.out, HFY.out, true_and, RightIn]
                constructor
                · intro hh u hu
                  have e1 := hX u hu; have e2 := hh u hu
                  rw [hz] at e2
                  omega
                · intro hh u hu
                  have e1 := hX u hu; have e2 := hh u hu
                  rw [hz]
                  omega
              have h2 : pf = true → pg = true → pb = true := fun h h' => by
                have hX := (hpf.1 h).2
                have hY := (hpg.1 h').2
                rw [hpb]
                refine ⟨HFZ.out, fun u hu => ?_⟩
                have e1 := hX u hu; have e2 := hY u hu
                rw [hz]
                omega
              have HRF := Lib.hid (Says.mk hrf); have HRG := Lib.hid (Says.mk hrg); have HRB := Lib.hid (Says.mk hrb); have HPF := Lib.hid (Says.mk hpf); have HPG := Lib.hid (Says.mk hpg); have HPB := Lib.hid (Says.mk hpb)
              have HXX := Lib.hid (fun (W : World) (hb : Below wA.heap.size wA W) => (Xd.ints hXl).on hb); have HYY := Lib.hid (fun (W : World) (hb : Below wA.heap.size wA W) => (Yd.ints hYl).on hb); have HZZ := Lib.hid (fun (W : World) (hb : Below wA.heap.size wA W) => zd.on hb)
              have HAA := Lib.hid (fun (W : World) (hb : Below wA.heap.size wA W) => ad.on hb); have HKK := Lib.hid Kd
              obtain ⟨r0, r1, r2, r3⟩ := Kd.at4
              have hzA := Kd.lt
              clear hrf hrg hrb hpf hpg hpb hz Xd Yd zd ad Kd
              have last : ∀ (rf rg rb pf pg pb : Bool), (rf = true → rb = rg) → (pf = true → pg = true → pb = true) → (rf = false ∨ (rf = true ∧ rb = rg)) ∧ (pf = false ∨ (pf = true ∧ pg = false) ∨ (pf = true ∧ pg = true ∧ pb = true)) := by decide
              obtain ⟨c1', c2'⟩ := last rf rg rb pf pg pb h1 h2
              clear last h1 h2
              rcases c1' with rfl | ⟨rfl, rfl⟩ <;> rcases c2' with rfl | ⟨rfl, rfl⟩ | ⟨rfl, rfl, rfl⟩
              all_goals
                go_wp2_with fail
                refine wp_region_held_drew (S := fun W => Below wA.heap.size wA W ∧ W.cell? ⟨w.heap.size, 0, none⟩ = some (.int .i64 (N1 : Int)) ∧ W.cell? ⟨w.heap.size, 1, none⟩ = some (.int .i64 S1) ∧ W.cell? ⟨w.heap.size, 2, none⟩ = some (.int .i64 T1) ∧ W.cell? ⟨w.heap.size, 3, none⟩ = some (.slice A1 n1 c1)) (by kernel_rfl) (adds_keep HKK.out (Below.refl _ _).drew) (fun hS0 => ?_)
                refine takeD (i := 0) (v := ?_) (some 126) rfl rfl (by kernel_rfl) (by kernel_rfl) (by kernel_rfl) (fun _ _ _ h => h) (Or.inl ⟨by rfl, ?_⟩) (by assumption) ?_
                rotate_left
                · (intro W hSw; go_split_ands; go_simp; try with_reducible rfl)
                simp only [Act.put, List.setIfInBounds_toArray, List.set_cons_zero, List.set_cons_succ]
                refine takeD (i := 1) (v := ?_) (some 127) rfl rfl (by kernel_rfl) (by kernel_rfl) (by kernel_rfl) (fun _ _ _ h => h) (Or.inl ⟨by rfl, ?_⟩) (by assumption) ?_
                rotate_left
                · (intro W hSw; go_split_ands; go_simp; try with_reducible rfl)
                simp only [Act.put, List.setIfInBounds_toArray, List.set_cons_zero, List.set_cons_succ]
                refine wpAnyH_ready (rs := [2]) (by kernel_rfl) (by simp) ?_
                refine AllReadyH.cons rfl (fun K hK => ?_) AllReadyH.nil
                go_simp
                first
                  | (go_at_call 14; go_split_ands; ((with_reducible refine (right_any N1 S1 T1 A1 n1 c1 l1 _ n1 _ X _ _ (HAA.out _ (by assumption)) HCK.out (HXX.out _ (by assumption)) (by omega) HRF.out.iff).mono ?_); rintro e W4 ⟨rfl, B4⟩); refine hK.out _ _ (adds_keep HKK.out (by refine below_step ?_ B4; assumption)) (fun hS3 => ?_))
                  | (go_at_call 14; go_split_ands; ((with_reducible refine (right_any N1 S1 T1 A1 n1 c1 l1 _ n1 _ Y _ _ (HAA.out _ (by assumption)) HCK.out (HYY.out _ (by assumption)) (by omega) HRG.out.iff).mono ?_); rintro e W4 ⟨rfl, B4⟩); refine hK.out _ _ (adds_keep HKK.out (by refine below_step ?_ B4; assumption)) (fun hS3 => ?_))
                  | (go_at_call 14; go_split_ands; ((with_reducible refine (right_any N1 S1 T1 A1 n1 c1 l1 _ n1 _ _ _ _ (HAA.out _ (by assumption)) HCK.out (HZZ.out _ (by assumption)) (by omega) HRB.out.iff).mono ?_); rintro e W4 ⟨rfl, B4⟩); refine hK.out _ _ (adds_keep HKK.out (by refine below_step ?_ B4; assumption)) (fun hS3 => ?_))
                clear hK K
                try simp only [Act.put, List.setIfInBounds_toArray, List.set_cons_zero, List.set_cons_succ]
                refine takeD (i := 3) (v := ?_) (some 129) rfl rfl (by kernel_rfl) (by kernel_rfl) (by kernel_rfl) (fun _ _ _ h => h) (Or.inl ⟨by rfl, ?_⟩) (by assumption) ?_
                rotate_left
                · (intro W hSw; go_split_ands; go_simp; try with_reducible rfl)
                simp only [Act.put, List.setIfInBounds_toArray, List.set_cons_zero, List.set_cons_succ]
                refine takeD (i := 4) (v := ?_) (some 130) rfl rfl (by kernel_rfl) (by kernel_rfl) (by kernel_rfl) (fun _ _ _ h => h) (Or.inl ⟨by rfl, ?_⟩) (by assumption) ?_
                rotate_left
                · (intro W hSw; go_split_ands; go_simp; try with_reducible rfl)
                simp only [Act.put, List.setIfInBounds_toArray, List.set_cons_zero, List.set_cons_succ]
                first
                  | (refine takeD (i := 5) (v := ?_) (some 131) rfl rfl (by kernel_rfl) (by kernel_rfl) (by kernel_rfl) (fun _ _ _ h => h) (Or.inl ⟨by rfl, ?_⟩) (by assumption) ?_
                     rotate_left
                     · (intro W hSw; go_split_ands; go_simp; try with_reducible rfl))
                  | (refine takeD (i := 5) (v := undef) (some 131) rfl rfl (by kernel_rfl) (by kernel_rfl) (by kernel_rfl) (fun _ _ _ h => h) (Or.inr ⟨by rfl, rfl⟩) (by assumption) ?_)
                simp only [Act.put, List.setIfInBounds_toArray, List.set_cons_zero, List.set_cons_succ]
                first
                  | (refine takeD (i := 6) (v := ?_) (some 132) rfl rfl (by kernel_rfl) (by kernel_rfl) (by kernel_rfl) (fun _ _ _ h => h) (Or.inl ⟨by rfl, ?_⟩) (by assumption) ?_
                     rotate_left
                     · (intro W hSw; go_split_ands; go_simp; try with_reducible rfl))
                  | (refine takeD (i := 6) (v := undef) (some 132) rfl rfl (by kernel_rfl) (by kernel_rfl) (by kernel_rfl) (fun _ _ _ h => h) (Or.inr ⟨by rfl, rfl⟩) (by assumption) ?_)
                simp only [Act.put, List.setIfInBounds_toArray, List.set_cons_zero, List.set_cons_succ]
                first
                  | (refine takeD (i := 8) (v := ?_) (some 134) rfl rfl (by kernel_rfl) (by kernel_rfl) (by kernel_rfl) (fun _ _ _ h => h) (Or.inl ⟨by rfl, ?_⟩) (by assumption) ?_
                     rotate_left
                     · (intro W hSw; go_split_ands; go_simp; try with_reducible rfl))
                  | (refine takeD (i := 8) (v := undef) (some 134) rfl rfl (by kernel_rfl) (by kernel_rfl) (by kernel_rfl) (fun _ _ _ h => h) (Or.inr ⟨by rfl, rfl⟩) (by assumption) ?_)
                simp only [Act.put, List.setIfInBounds_toArray, List.set_cons_zero, List.set_cons_succ]
                first
                  | (refine takeD (i := 9) (v := ?_) (some 135) rfl rfl (by kernel_rfl) (by kernel_rfl) (by kernel_rfl) (fun _ _ _ h => h) (Or.inl ⟨by rfl, ?_⟩) (by assumption) ?_
                     rotate_left
                     · (intro W hSw; go_split_ands; go_simp; try with_reducible rfl))
                  | (refine takeD (i := 9) (v := undef) (some 135) rfl rfl (by kernel_rfl) (by kernel_rfl) (by kernel_rfl) (fun _ _ _ h => h) (Or.inr ⟨by rfl, rfl⟩) (by assumption) ?_)
                simp only [Act.put, List.setIfInBounds_toArray, List.set_cons_zero, List.set_cons_succ]
                refine wpAnyH_ready (rs := [7]) (by kernel_rfl) (by simp) ?_
                refine AllReadyH.cons rfl (fun K hK => ?_) AllReadyH.nil
                go_simp
                first
                  | (go_at_call 14; go_split_ands; ((with_reducible refine (right_any N1 S1 T1 A1 n1 c1 l1 _ n1 _ X _ _ (HAA.out _ (by assumption)) HCK.out (HXX.out _ (by assumption)) (by omega) HRF.out.iff).mono ?_); rintro e W4 ⟨rfl, B4⟩); refine hK.out _ _ (adds_keep HKK.out (by refine below_step ?_ B4; assumption)) (fun hS8 => ?_))
                  | (go_at_call 14; go_split_ands; ((with_reducible refine (right_any N1 S1 T1 A1 n1 c1 l1 _ n1 _ Y _ _ (HAA.out _ (by assumption)) HCK.out (HYY.out _ (by assumption)) (by omega) HRG.out.iff).mono ?_); rintro e W4 ⟨rfl, B4⟩); refine hK.out _ _ (adds_keep HKK.out (by refine below_step ?_ B4; assumption)) (fun hS8 => ?_))
                  | (go_at_call 14; go_split_ands; ((with_reducible refine (right_any N1 S1 T1 A1 n1 c1 l1 _ n1 _ _ _ _ (HAA.out _ (by assumption)) HCK.out (HZZ.out _ (by assumption)) (by omega) HRB.out.iff).mono ?_); rintro e W4 ⟨rfl, B4⟩); refine hK.out _ _ (adds_keep HKK.out (by refine below_step ?_ B4; assumption)) (fun hS8 => ?_))
                  | (refine hK.out _ _ (by assumption) (fun hS8 => ?_))
                clear hK K
                try simp only [Act.put, List.setIfInBounds_toArray, List.set_cons_zero, List.set_cons_succ]
                refine wpAnyH_ready (rs := [10]) (by kernel_rfl) (by simp) ?_
                refine AllReadyH.cons rfl (fun K hK => ?_) AllReadyH.nil
                go_simp
                first
                  | (go_at_call 14; go_split_ands; ((with_reducible refine (right_any N1 S1 T1 A1 n1 c1 l1 _ n1 _ X _ _ (HAA.out _ (by assumption)) HCK.out (HXX.out _ (by assumption)) (by omega) HRF.out.iff).mono ?_); rintro e W4 ⟨rfl, B4⟩); refine hK.out _ _ (adds_keep HKK.out (by refine below_step ?_ B4; assumption)) (fun hS11 => ?_))
                  | (go_at_call 14; go_split_ands; ((with_reducible refine (right_any N1 S1 T1 A1 n1 c1 l1 _ n1 _ Y _ _ (HAA.out _ (by assumption)) HCK.out (HYY.out _ (by assumption)) (by omega) HRG.out.iff).mono ?_); rintro e W4 ⟨rfl, B4⟩); refine hK.out _ _ (adds_keep HKK.out (by refine below_step ?_ B4; assumption)) (fun hS11 => ?_))
                  | (go_at_call 14; go_split_ands; ((with_reducible refine (right_any N1 S1 T1 A1 n1 c1 l1 _ n1 _ _ _ _ (HAA.out _ (by assumption)) HCK.out (HZZ.out _ (by assumption)) (by omega) HRB.out.iff).mono ?_); rintro e W4 ⟨rfl, B4⟩); refine hK.out _ _ (adds_keep HKK.out (by refine below_step ?_ B4; assumption)) (fun hS11 => ?_))
                  | (refine hK.out _ _ (by assumption) (fun hS11 => ?_))
                clear hK K
                try simp only [Act.put, List.setIfInBounds_toArray, List.set_cons_zero, List.set_cons_succ]
                first
                  | (refine takeD (i := 11) (v := ?_) (some 137) rfl rfl (by kernel_rfl) (by kernel_rfl) (by kernel_rfl) (fun _ _ _ h => h) (Or.inl ⟨by rfl, ?_⟩) (by assumption) ?_
                     rotate_left
                     · (intro W hSw; go_split_ands; go_simp; try with_reducible rfl))
                  | (refine takeD (i := 11) (v := undef) (some 137) rfl rfl (by kernel_rfl) (by kernel_rfl) (by kernel_rfl) (fun _ _ _ h => h) (Or.inr ⟨by rfl, rfl⟩) (by assumption) ?_)
                simp only [Act.put, List.setIfInBounds_toArray, List.set_cons_zero, List.set_cons_succ]
                refine takeD (i := 12) (v := ?_) (some 138) rfl rfl (by kernel_rfl) (by kernel_rfl) (by kernel_rfl) (fun _ _ _ h => h) (Or.inl ⟨by rfl, ?_⟩) (by assumption) ?_
                rotate_left
                · (intro W hSw; go_split_ands; go_simp; try with_reducible rfl)
                simp only [Act.put, List.setIfInBounds_toArray, List.set_cons_zero, List.set_cons_succ]
                refine takeD (i := 13) (v := ?_) (some 139) rfl rfl (by kernel_rfl) (by kernel_rfl) (by kernel_rfl) (fun _ _ _ h => h) (Or.inl ⟨by rfl, ?_⟩) (by assumption) ?_
                rotate_left
                · (intro W hSw; go_split_ands; go_simp; try with_reducible rfl)
                simp only [Act.put, List.setIfInBounds_toArray, List.set_cons_zero, List.set_cons_succ]
                first
                  | (refine takeD (i := 14) (v := ?_) (some 140) rfl rfl (by kernel_rfl) (by kernel_rfl) (by kernel_rfl) (fun _ _ _ h => h) (Or.inl ⟨by rfl, ?_⟩) (by assumption) ?_
                     rotate_left
                     · (intro W hSw; go_split_ands; go_simp; try with_reducible rfl))
                  | (refine takeD (i := 14) (v := undef) (some 140) rfl rfl (by kernel_rfl) (by kernel_rfl) (by kernel_rfl) (fun _ _ _ h => h) (Or.inr ⟨by rfl, rfl⟩) (by assumption) ?_)
                simp only [Act.put, List.setIfInBounds_toArray, List.set_cons_zero, List.set_cons_succ]
                first
                  | (refine takeD (i := 15) (v := ?_) (some 141) rfl rfl (by kernel_rfl) (by kernel_rfl) (by kernel_rfl) (fun _ _ _ h => h) (Or.inl ⟨by rfl, ?_⟩) (by assumption) ?_
                     rotate_left
                     · (intro W hSw; go_split_ands; go_simp; try with_reducible rfl))
                  | (refine takeD (i := 15) (v := undef) (some 141) rfl rfl (by kernel_rfl) (by kernel_rfl) (by kernel_rfl) (fun _ _ _ h => h) (Or.inr ⟨by rfl, rfl⟩) (by assumption) ?_)
                simp only [Act.put, List.setIfInBounds_toArray, List.set_cons_zero, List.set_cons_succ]
                refine wpAnyH_ready (rs := [16]) (by kernel_rfl) (by simp) ?_
                refine AllReadyH.cons rfl (fun K hK => ?_) AllReadyH.nil
                go_simp
                first
                  | (go_at_call 13; go_split_ands; ((with_reducible refine (pre_any N1 S1 T1 A1 n1 c1 l1 _ n1 _ X _ _ (HAA.out _ (by assumption)) HCK.out (HXX.out _ (by assumption)) (by omega) HPF.out.iff).mono ?_); rintro e W4 ⟨rfl, B4⟩); refine hK.out _ _ (adds_keep HKK.out (by refine below_step ?_ B4; assumption)) (fun hS17 => ?_))
                  | (go_at_call 13; go_split_ands; ((with_reducible refine (pre_any N1 S1 T1 A1 n1 c1 l1 _ n1 _ Y _ _ (HAA.out _ (by assumption)) HCK.out (HYY.out _ (by assumption)) (by omega) HPG.out.iff).mono ?_); rintro e W4 ⟨rfl, B4⟩); refine hK.out _ _ (adds_keep HKK.out (by refine below_step ?_ B4; assumption)) (fun hS17 => ?_))
                  | (go_at_call 13; go_split_ands; ((with_reducible refine (pre_any N1 S1 T1 A1 n1 c1 l1 _ n1 _ _ _ _ (HAA.out _ (by assumption)) HCK.out (HZZ.out _ (by assumption)) (by omega) HPB.out.iff).mono ?_); rintro e W4 ⟨rfl, B4⟩); refine hK.out _ _ (adds_keep HKK.out (by refine below_step ?_ B4; assumption)) (fun hS17 => ?_))
                  | (refine hK.out _ _ (by assumption) (fun hS17 => ?_))
                clear hK K
                try simp only [Act.put, List.setIfInBounds_toArray, List.set_cons_zero, List.set_cons_succ]
                first
                  | (refine takeD (i := 17) (v := ?_) (some 143) rfl rfl (by kernel_rfl) (by kernel_rfl) (by kernel_rfl) (fun _ _ _ h => h) (Or.inl ⟨by rfl, ?_⟩) (by assumption) ?_
                     rotate_left
                     · (intro W hSw; go_split_ands; go_simp; try with_reducible rfl))
                  | (refine takeD (i := 17) (v := undef) (some 143) rfl rfl (by kernel_rfl) (by kernel_rfl) (by kernel_rfl) (fun _ _ _ h => h) (Or.inr ⟨by rfl, rfl⟩) (by assumption) ?_)
                simp only [Act.put, List.setIfInBounds_toArray, List.set_cons_zero, List.set_cons_succ]
                first
                  | (refine takeD (i := 18) (v := ?_) (some 144) rfl rfl (by kernel_rfl) (by kernel_rfl) (by kernel_rfl) (fun _ _ _ h => h) (Or.inl ⟨by rfl, ?_⟩) (by assumption) ?_
                     rotate_left
                     · (intro W hSw; go_split_ands; go_simp; try with_reducible rfl))
                  | (refine takeD (i := 18) (v := undef) (some 144) rfl rfl (by kernel_rfl) (by kernel_rfl) (by kernel_rfl) (fun _ _ _ h => h) (Or.inr ⟨by rfl, rfl⟩) (by assumption) ?_)
                simp only [Act.put, List.setIfInBounds_toArray, List.set_cons_zero, List.set_cons_succ]
                first
                  | (refine takeD (i := 19) (v := ?_) (some 145) rfl rfl (by kernel_rfl) (by kernel_rfl) (by kernel_rfl) (fun _ _ _ h => h) (Or.inl ⟨by rfl, ?_⟩) (by assumption) ?_
                     rotate_left
                     · (intro W hSw; go_split_ands; go_simp; try with_reducible rfl))
                  | (refine takeD (i := 19) (v := undef) (some 145) rfl rfl (by kernel_rfl) (by kernel_rfl) (by kernel_rfl) (fun _ _ _ h => h) (Or.inr ⟨by rfl, rfl⟩) (by assumption) ?_)
                simp only [Act.put, List.setIfInBounds_toArray, List.set_cons_zero, List.set_cons_succ]
                first
                  | (refine takeD (i := 20) (v := ?_) (some 146) rfl rfl (by kernel_rfl) (by kernel_rfl) (by kernel_rfl) (fun _ _ _ h => h) (Or.inl ⟨by rfl, ?_⟩) (by assumption) ?_
                     rotate_left
                     · (intro W hSw; go_split_ands; go_simp; try with_reducible rfl))
                  | (refine takeD (i := 20) (v := undef) (some 146) rfl rfl (by kernel_rfl) (by kernel_rfl) (by kernel_rfl) (fun _ _ _ h => h) (Or.inr ⟨by rfl, rfl⟩) (by assumption) ?_)
                simp only [Act.put, List.setIfInBounds_toArray, List.set_cons_zero, List.set_cons_succ]
                refine wpAnyH_ready (rs := [21]) (by kernel_rfl) (by simp) ?_
                refine AllReadyH.cons rfl (fun K hK => ?_) AllReadyH.nil
                go_simp
                first
                  | (go_at_call 13; go_split_ands; ((with_reducible refine (pre_any N1 S1 T1 A1 n1 c1 l1 _ n1 _ X _ _ (HAA.out _ (by assumption)) HCK.out (HXX.out _ (by assumption)) (by omega) HPF.out.iff).mono ?_); rintro e W4 ⟨rfl, B4⟩); refine hK.out _ _ (adds_keep HKK.out (by refine below_step ?_ B4; assumption)) (fun hS22 => ?_))
                  | (go_at_call 13; go_split_ands; ((with_reducible refine (pre_any N1 S1 T1 A1 n1 c1 l1 _ n1 _ Y _ _ (HAA.out _ (by assumption)) HCK.out (HYY.out _ (by assumption)) (by omega) HPG.out.iff).mono ?_); rintro e W4 ⟨rfl, B4⟩); refine hK.out _ _ (adds_keep HKK.out (by refine below_step ?_ B4; assumption)) (fun hS22 => ?_))
                  | (go_at_call 13; go_split_ands; ((with_reducible refine (pre_any N1 S1 T1 A1 n1 c1 l1 _ n1 _ _ _ _ (HAA.out _ (by assumption)) HCK.out (HZZ.out _ (by assumption)) (by omega) HPB.out.iff).mono ?_); rintro e W4 ⟨rfl, B4⟩); refine hK.out _ _ (adds_keep HKK.out (by refine below_step ?_ B4; assumption)) (fun hS22 => ?_))
                  | (refine hK.out _ _ (by assumption) (fun hS22 => ?_))
                clear hK K
                try simp only [Act.put, List.setIfInBounds_toArray, List.set_cons_zero, List.set_cons_succ]
                first
                  | (refine takeD (i := 22) (v := ?_) (some 148) rfl rfl (by kernel_rfl) (by kernel_rfl) (by kernel_rfl) (fun _ _ _ h => h) (Or.inl ⟨by rfl, ?_⟩) (by assumption) ?_
                     rotate_left
                     · (intro W hSw; go_split_ands; go_simp; try with_reducible rfl))
                  | (refine takeD (i := 22) (v := undef) (some 148) rfl rfl (by kernel_rfl) (by kernel_rfl) (by kernel_rfl) (fun _ _ _ h => h) (Or.inr ⟨by rfl, rfl⟩) (by assumption) ?_)
                simp only [Act.put, List.setIfInBounds_toArray, List.set_cons_zero, List.set_cons_succ]
                first
                  | (refine takeD (i := 23) (v := ?_) (some 149) rfl rfl (by kernel_rfl) (by kernel_rfl) (by kernel_rfl) (fun _ _ _ h => h) (Or.inl ⟨by rfl, ?_⟩) (by assumption) ?_
                     rotate_left
                     · (intro W hSw; go_split_ands; go_simp; try with_reducible rfl))
                  | (refine takeD (i := 23) (v := undef) (some 149) rfl rfl (by kernel_rfl) (by kernel_rfl) (by kernel_rfl) (fun _ _ _ h => h) (Or.inr ⟨by rfl, rfl⟩) (by assumption) ?_)
                simp only [Act.put, List.setIfInBounds_toArray, List.set_cons_zero, List.set_cons_succ]
                first
                  | (refine takeD (i := 24) (v := ?_) (some 150) rfl rfl (by kernel_rfl) (by kernel_rfl) (by kernel_rfl) (fun _ _ _ h => h) (Or.inl ⟨by rfl, ?_⟩) (by assumption) ?_
                     rotate_left
                     · (intro W hSw; go_split_ands; go_simp; try with_reducible rfl))
                  | (refine takeD (i := 24) (v := undef) (some 150) rfl rfl (by kernel_rfl) (by kernel_rfl) (by kernel_rfl) (fun _ _ _ h => h) (Or.inr ⟨by rfl, rfl⟩) (by assumption) ?_)
                simp only [Act.put, List.setIfInBounds_toArray, List.set_cons_zero, List.set_cons_succ]
                first
                  | (refine takeD (i := 25) (v := ?_) (some 151) rfl rfl (by kernel_rfl) (by kernel_rfl) (by kernel_rfl) (fun _ _ _ h => h) (Or.inl ⟨by rfl, ?_⟩) (by assumption) ?_
                     rotate_left
                     · (intro W hSw; go_split_ands; go_simp; try with_reducible rfl))
                  | (refine takeD (i := 25) (v := undef) (some 151) rfl rfl (by kernel_rfl) (by kernel_rfl) (by kernel_rfl) (fun _ _ _ h => h) (Or.inr ⟨by rfl, rfl⟩) (by assumption) ?_)
                simp only [Act.put, List.setIfInBounds_toArray, List.set_cons_zero, List.set_cons_succ]
                first
                  | (refine takeD (i := 26) (v := ?_) (some 152) rfl rfl (by kernel_rfl) (by kernel_rfl) (by kernel_rfl) (fun _ _ _ h => h) (Or.inl ⟨by rfl, ?_⟩) (by assumption) ?_
                     rotate_left
                     · (intro W hSw; go_split_ands; go_simp; try with_reducible rfl))
                  | (refine takeD (i := 26) (v := undef) (some 152) rfl rfl (by kernel_rfl) (by kernel_rfl) (by kernel_rfl) (fun _ _ _ h => h) (Or.inr ⟨by rfl, rfl⟩) (by assumption) ?_)
                simp only [Act.put, List.setIfInBounds_toArray, List.set_cons_zero, List.set_cons_succ]
                refine wpAnyH_ready (rs := [27]) (by kernel_rfl) (by simp) ?_
                refine AllReadyH.cons rfl (fun K hK => ?_) AllReadyH.nil
                go_simp
                first
                  | (go_at_call 13; go_split_ands; ((with_reducible refine (pre_any N1 S1 T1 A1 n1 c1 l1 _ n1 _ X _ _ (HAA.out _ (by assumption)) HCK.out (HXX.out _ (by assumption)) (by omega) HPF.out.iff).mono ?_); rintro e W4 ⟨rfl, B4⟩); refine hK.out _ _ (adds_keep HKK.out (by refine below_step ?_ B4; assumption)) (fun hS28 => ?_))
                  | (go_at_call 13; go_split_ands; ((with_reducible refine (pre_any N1 S1 T1 A1 n1 c1 l1 _ n1 _ Y _ _ (HAA.out _ (by assumption)) HCK.out (HYY.out _ (by assumption)) (by omega) HPG.out.iff).mono ?_); rintro e W4 ⟨rfl, B4⟩); refine hK.out _ _ (adds_keep HKK.out (by refine below_step ?_ B4; assumption)) (fun hS28 => ?_))
                  | (go_at_call 13; go_split_ands; ((with_reducible refine (pre_any N1 S1 T1 A1 n1 c1 l1 _ n1 _ _ _ _ (HAA.out _ (by assumption)) HCK.out (HZZ.out _ (by assumption)) (by omega) HPB.out.iff).mono ?_); rintro e W4 ⟨rfl, B4⟩); refine hK.out _ _ (adds_keep HKK.out (by refine below_step ?_ B4; assumption)) (fun hS28 => ?_))
                  | (refine hK.out _ _ (by assumption) (fun hS28 => ?_))
                clear hK K
                try simp only [Act.put, List.setIfInBounds_toArray, List.set_cons_zero, List.set_cons_succ]
                first
                  | (refine takeD (i := 28) (v := ?_) (some 154) rfl rfl (by kernel_rfl) (by kernel_rfl) (by kernel_rfl) (fun _ _ _ h => h) (Or.inl ⟨by rfl, ?_⟩) (by assumption) ?_
                     rotate_left
                     · (intro W hSw; go_split_ands; go_simp; try with_reducible rfl))
                  | (refine takeD (i := 28) (v := undef) (some 154) rfl rfl (by kernel_rfl) (by kernel_rfl) (by kernel_rfl) (fun _ _ _ h => h) (Or.inr ⟨by rfl, rfl⟩) (by assumption) ?_)
                simp only [Act.put, List.setIfInBounds_toArray, List.set_cons_zero, List.set_cons_succ]
                refine takeD (i := 29) (v := ?_) (some 155) rfl rfl (by kernel_rfl) (by kernel_rfl) (by kernel_rfl) (fun _ _ _ h => h) (Or.inl ⟨by rfl, ?_⟩) (by assumption) ?_
                rotate_left
                · (intro W hSw; go_split_ands; go_simp; try with_reducible rfl)
                simp only [Act.put, List.setIfInBounds_toArray, List.set_cons_zero, List.set_cons_succ]
                refine takeD (i := 30) (v := ?_) (some 156) rfl rfl (by kernel_rfl) (by kernel_rfl) (by kernel_rfl) (fun _ _ _ h => h) (Or.inl ⟨by rfl, ?_⟩) (by assumption) ?_
                rotate_left
                · (intro W hSw; go_split_ands; go_simp; try with_reducible rfl)
                simp only [Act.put, List.setIfInBounds_toArray, List.set_cons_zero, List.set_cons_succ]
                refine wpAnyH_ready (rs := [31]) (by kernel_rfl) (by simp) ?_
                refine AllReadyH.cons rfl (fun K hK => ?_) AllReadyH.nil
                go_simp
                first
                  | (go_at_call 15; go_split_ands; ((with_reducible refine (awake3_any _).mono ?_); rintro e W4 ⟨rfl, B4⟩); refine hK.out _ _ (adds_keep HKK.out (by refine below_step ?_ B4; assumption)) (fun hS32 => ?_))
                  | (refine hK.out _ _ (by assumption) (fun hS32 => ?_))
                clear hK K
                try simp only [Act.put, List.setIfInBounds_toArray, List.set_cons_zero, List.set_cons_succ]
                refine takeD (i := 32) (v := ?_) (some 158) rfl rfl (by kernel_rfl) (by kernel_rfl) (by kernel_rfl) (fun _ _ _ h => h) (Or.inl ⟨by rfl, ?_⟩) (by assumption) ?_
                rotate_left
                · (intro W hSw; go_split_ands; go_simp; try with_reducible rfl)
                simp only [Act.put, List.setIfInBounds_toArray, List.set_cons_zero, List.set_cons_succ]
                refine takeD (i := 33) (v := ?_) (some 6) rfl rfl (by kernel_rfl) (by kernel_rfl) (by kernel_rfl) (fun _ _ _ h => h) (Or.inl ⟨by rfl, ?_⟩) (by assumption) ?_
                rotate_left
                · (intro W hSw; go_split_ands; go_simp; try with_reducible rfl)
                simp only [Act.put, List.setIfInBounds_toArray, List.set_cons_zero, List.set_cons_succ]
                refine wpAnyH_done (by kernel_rfl) ?_ _
                go_split_ands
                go_wp2_with fail
                go_ret
                exact ⟨rfl, below_step Bd (by assumption)⟩

end Go.Proofs.Ytmmafibeciaghaa
