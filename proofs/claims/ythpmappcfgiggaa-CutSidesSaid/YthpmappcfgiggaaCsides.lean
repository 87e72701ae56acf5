/- CutSides: the walk. -/
import Derived.Test.YthpmappcfgiggaaCutlaw
import Derived.Test.YthpmappcfgiggaaSomes
import Derived.Test.YthpmappcfgiggaaFlows
import Derived.Deep.DeepCutAuto
import Derived.Deep.CutBlock
import Derived.Deep.RegionLawGrows
import Derived.Deep.AppendLies
import Derived.Deep.Slices
import Derived.ArgAppend
namespace Go.Proofs.Ythpmappcfgiggaa
open Go.RowKit
set_option maxRecDepth 100000

theorem addr_same (a : Addr) : a.add 0 = a := by
  unfold Addr.add
  split <;> simp_all
theorem side_part (A : Option Addr) (n c q : Nat) (hq : q ≤ c) (W : World) : (Instr.sliceAt 26 (.slice A n c) none (some (.int .i64 (q : Int))) none).run Try.prog W = .ok (.slice A q c) W := by
  have ht : Try.prog.underlying 26 = some (.slice (Try.prog.elem 26)) := by kernel_rfl
  have hs : ∃ s, ∀ W, (sizeOf (Try.prog.elem 26)).run Try.prog W = .ok s W := ⟨1, fun W => by kernel_rfl⟩
  obtain ⟨s, hs⟩ := hs
  rw [run_sliceAt_slice _ _ _ _ _ _ ht, run_slice_h _ _ _ _ _ ht _ _ (by omega) (by omega), hs]
  simp [Result.andThen, sliced, addr_same]

theorem side_take {w : World} {B n : Nat} {A : Option Addr} {K : List Bool} (h : Bools w B A n K) {k : Nat} (hk : k ≤ n) : Bools w B A k (K.take k) := by
  have hl := h.len
  refine ⟨by simp; omega, fun h0 => ?_⟩
  obtain ⟨b, off, e, hb, hc⟩ := h.2 (by omega)
  refine ⟨b, off, e, hb, fun i a hi j u hu => hc i a ?_ j u hu⟩
  have hil := (List.getElem?_eq_some_iff.1 hi).1
  simp at hil
  rw [← hi, List.getElem?_take_of_lt (by omega)]
theorem blk_src {W : World} {g : Nat} {t : TypeId} {cs : Array Value} (h : Blk W g t cs) : ∀ j u, cs.toList[j]? = some u → W.cell? ((⟨g, 0, none⟩ : Addr).add j) = some u := World.news_of_block h
theorem new_src (W : World) (cs : Array Value) (t : TypeId) : ∀ j u, cs.toList[j]? = some u → (W.alloc (.cells cs t)).cell? ((⟨W.heap.size, 0, none⟩ : Addr).add j) = some u := blk_src (Blk.new rfl)
theorem bools_flat : ∀ (K : List Bool), K.flatMap boolCells = K.map Value.bool
  | [] => rfl
  | a :: K => by simp [boolCells, bools_flat K]
theorem zero_flow {l : List ArcN} (h : NonNeg l) : FlowIn l (List.replicate l.length 0) := by
  refine ⟨by simp, fun i a x ha hx => ?_⟩
  rw [List.getElem?_replicate] at hx
  split at hx
  · injection hx with hx
    subst hx
    exact ⟨Int.le_refl _, h a (mem_at ha)⟩
  · cases hx
theorem long_put {w : World} {base c n : Nat} {A : Option Addr} (h : w.ownsRow base 2 1 (.slice A (n + 1) c) (n + 1) ((ivs (List.replicate n 0)).toList ++ [.int .i64 0])) : Ints w w.heap.size A (n + 1) (List.replicate n 0 ++ [0]) :=
  RdBy.of_own (c := c) (base := base) (by simp) (int_len _) (by
    rw [← ivs_flat, List.map_append]
    exact h)
theorem long_flow {l : List ArcN} {F : List Int} (h : F.length = l.length + 1) : ¬ FlowIn l F := fun hf => by
  have := hf.len
  omega

set_option maxHeartbeats 8000000 in
theorem csides_walk (N S T : Int) (A : Option Addr) (n c : Nat) (l : List ArcN) (AK : Option Addr) (nk ck : Nat) (KK : List Bool) (which : Nat) (w : World) (hA : Arcs w w.heap.size A n l) (hf : FitsAll l) (hnc : n ≤ c)
    (hKK : Bools w w.heap.size AK nk KK) (hwh : which < 256) :
    Calls Try.prog 7 #[.agg #[.int .i64 N, .int .i64 S, .int .i64 T, .slice A n c], .slice AK nk ck, .int .u8 which] w fun e w' => e = .returned (.bool true) ∧ Below w.heap.size w w' := by
  have hso := fun W hW => some_any N S T A n c 30 60 l W hW hf hnc (by omega) (by omega) (by omega)
  obtain ⟨N1, hN1, hN2, hN3, hck, hln, hmem⟩ := some_net N S T 30 60 l (by omega) (by omega) (by omega)
  have hN4 : N1 ≤ 30 := by
    have := Int.emod_lt_of_pos N (show (0 : Int) < ((30 : Nat) : Int) - 1 by omega)
    unfold someN at hN1
    omega
  rw [hN1] at hso hck hln hmem
  generalize S % (N1 : Int) = S1 at *
  generalize someT (N1 : Int) S T = T1 at *
  generalize someL (N1 : Int) 60 l = l1 at *
  have hend := ends_in hck
  obtain ⟨-, -, -, -, hS0, hS1, hT0, hT1, hST, hnn, -⟩ := hend
  obtain ⟨s, rfl⟩ := Int.eq_ofNat_of_zero_le hS0
  obtain ⟨t, rfl⟩ := Int.eq_ofNat_of_zero_le hT0
  have HSO := Lib.hid hso; have HCK := Lib.hid hck; have HNN := Lib.hid hnn
  clear hso hck hmem hN1 hnn
  obtain ⟨i0, hi, hz0, hz1, hz2⟩ := info_parts long_info
  have hml := fun (k : Nat) (hk : k ≤ 60) W => run_make_lit (P := Try.prog) 25 2 i0 _ Try.underlying25 hi hz0 k (by rw [hz2]; omega) (by omega) W
  simp only [hz1, ivs_made] at hml
  have HI := Lib.hid hi; have HZ0 := Lib.hid hz0; have HZ1 := Lib.hid hz1; have HZ2 := Lib.hid hz2
  clear hi hz0 hz1 hz2
  have HML := Lib.hid hml; clear hml
  obtain ⟨i1, hi, hz0, hz1, hz2⟩ := info_parts bool_info
  have HJ := Lib.hid hi; have HY0 := Lib.hid hz0; have HY1 := Lib.hid hz1; have HY2 := Lib.hid hz2
  clear hi hz0 hz1 hz2
  go_enter Try.func7, Try.ntmps7
  go_wp2_with fail
  refine (HSO.out _ (hA.onAlloc _)).mono ?_
  rintro e w1 ⟨A1, n1, c1, rfl, o1, hl1, B1⟩
  have K1 : Blk w1 w.heap.size 24 #[.int .i64 N, .int .i64 S, .int .i64 T, .slice A n c] := (Blk.new rfl).below B1 (by simp)
  have hz1 := K1.lt
  obtain ⟨r0, r1, r2, r3⟩ := K1.at4
  obtain ⟨f0, f1, f2, f3⟩ := K1.free4
  have ST := some_stored K1 o1 hl1 (below_step (below_alloc _) B1) (.int .i64 (N1 : Int)) (.int .i64 (s : Int)) (.int .i64 (t : Int))
  have hn1 : n1 ≤ 60 := by omega
  go_wp2_with fail
  generalize (((w1.setCell ⟨w.heap.size, 0, none⟩ (.int .i64 (N1 : Int))).setCell ⟨w.heap.size, 1, none⟩ (.int .i64 (s : Int))).setCell ⟨w.heap.size, 2, none⟩ (.int .i64 (t : Int))).setCell ⟨w.heap.size, 3, none⟩ (.slice A1 n1 c1) = w2 at *
  obtain ⟨K2, a2, Bw2⟩ := ST
  clear r0 r1 r2 r3 f0 f1 f2 f3 K1 o1 B1 hz1 HSO
  have hz2 := K2.lt
  obtain ⟨r0, r1, r2, r3⟩ := K2.at4
  refine (side_is N1 s t A1 n1 c1 l1 AK nk ck KK _ HCK.out ((hKK.below Bw2).more Bw2.size)).mono ?_
  rintro e w3 ⟨gK, K, rfl, hgK, P3, hlK, hcut, B3⟩
  have K3 := K2.below B3 K2.lt
  have a3 := a2.on B3
  have Bw3 := below_step Bw2 B3
  have HCUT := Lib.hid hcut
  have hgb : w.heap.size < gK := by omega
  have Bv3 : Below w2.heap.size w2 w3 := B3
  have HA2 := Lib.hid a2
  clear r0 r1 r2 r3 hz2 K2 a2 Bw2 B3 hcut
  obtain ⟨r0, r1, r2, r3⟩ := K3.at4
  have hz3 := K3.lt
  have hm := HML.out n1 hn1
  go_wp2_with fail
  have F4 : Blk (w3.alloc (.cells (ivs (List.replicate n1 0)) 2)) w3.heap.size 2 (ivs (List.replicate n1 0)) := Blk.new rfl
  have K4 := K3.alloc (.cells (ivs (List.replicate n1 0)) 2)
  have P4 := P3.alloc (.cells (ivs (List.replicate n1 0)) 2)
  have a4 := a3.onAlloc (.cells (ivs (List.replicate n1 0)) 2)
  have Bw4 := Bw3.alloc (by omega) (.cells (ivs (List.replicate n1 0)) 2)
  have Bv4 := Bv3.alloc Bv3.size (.cells (ivs (List.replicate n1 0)) 2)
  clear Bv3
  have hgKF : gK ≠ w3.heap.size := Nat.ne_of_lt P3.lt
  clear r0 r1 r2 r3 hz3 K3 P3 a3 Bw3 hm
  generalize hgF : w3.heap.size = gF at *
  generalize w3.alloc (.cells (ivs (List.replicate n1 0)) 2) = w4 at *
  refine (right_is N1 s t A1 n1 c1 l1 _ N1 _ K true _ a4 HCK.out (P4.bools hlK) (by simp; exact HCUT.out)).mono ?_
  rintro e w5 ⟨rfl, B5⟩
  have K5 := K4.below B5 K4.lt
  have a5 := a4.on B5
  have F5 := F4.below B5 F4.lt
  have P5 := P4.below B5 P4.lt
  have Bw5 := below_step Bw4 B5
  have Bv5 := below_step Bv4 B5
  clear K4 a4 F4 P4 Bw4 B5 Bv4
  obtain ⟨r0, r1, r2, r3⟩ := K5.at4
  have hz5 := K5.lt
  go_upto_block 0 with fail
  go_cut [7, 31] (fun s7 _ wx => ∃ (A' : Option Addr) (m cC : Nat) (K' : List Bool), s7 = .slice A' m cC ∧ Bools wx wx.heap.size A' m K' ∧ ¬ IsCut N1 s t K' ∧ Blk wx w.heap.size 24 #[.int .i64 (N1 : Int), .int .i64 (s : Int), .int .i64 (t : Int), .slice A1 n1 c1] ∧ Blk wx gF 2 (ivs (List.replicate n1 0)) ∧ Arcs wx wx.heap.size A1 n1 l1 ∧ Below w.heap.size w wx)
  case first =>
    have hw4 : (which : Int) % 4 = 0 ∨ (which : Int) % 4 = 1 ∨ (which : Int) % 4 = 2 ∨ (which : Int) % 4 = 3 := by omega
    rcases hw4 with h4 | h4 | h4 | h4
    · have hsl : ∀ W, (Instr.sliceAt 26 (.slice (some ⟨gK, 0, none⟩) N1 N1) none (some (.int .i64 ((N1 : Int) - 1))) none).run Try.prog W = .ok (.slice (some ⟨gK, 0, none⟩) (N1 - 1) N1) W := fun W => by
        have e : (N1 : Int) - 1 = ((N1 - 1 : Nat) : Int) := by omega
        rw [e]
        exact side_part _ _ _ _ (by omega) _
      go_wp2_with fail
      go_meet
      exact ⟨_, _, _, _, rfl, side_take (P5.bools hlK) (k := N1 - 1) (by omega), fun h => (by have := h.len; simp [hlK] at this; omega), K5, F5, a5, Bw5⟩
    · go_wp2_with (at_builtin; refine wpList_append_grows _ rfl (.tmp 45) (.tmp 46) _ rfl 4 i1 _ 1 1 Try.underlying26 HJ.out HY0.out HY1.out HY2.out rfl (by omega) (some ⟨gK, 0, none⟩) N1 N1 (bvs K).toList rfl (fun h => by cases h) (by simp [bvs, hlK]) (fun b hb => by injection hb with hb; subst hb; exact blk_src (P5.alloc _)) ⟨w5.heap.size, 0, none⟩ 1 1 [.bool false] rfl rfl (new_src _ #[.bool false] _) (fun u hu => by simp at hu; subst hu; rfl) (by omega) (by unfold maxLen; omega) (by omega) ?_)
      intro v' w6 ho6 hg6
      obtain ⟨A6, c6, rfl⟩ := own_slice ho6
      go_wp2_with fail
      go_meet
      have B6 : Below w5.heap.size w5 w6 := (below_alloc _).grown hg6 (by simp) (fun k hk => by cases hk)
      have h6 : Bools w6 w6.heap.size A6 (N1 + 1) (K ++ [false]) := RdBy.of_own (by simp [hlK]) (bool_len _) (by simpa [bvs, bools_flat, List.flatMap_append, boolCells] using ho6)
      exact ⟨_, _, _, _, rfl, h6, fun h => by have := h.len; simp [hlK] at this, K5.below B6 K5.lt, F5.below B6 F5.lt, a5.on B6, below_step Bw5 B6⟩
    · have cx := P5.bat (at_inS (K := K) (v := s) (by omega))
      have fx := P5.frozen s
      have px := P5.lt
      go_wp2_with fail
      go_meet
      have B6 : Below w2.heap.size w2 (w5.setCell ⟨gK, s, none⟩ (.bool false)) := Bv5.setCell hgK _
      exact ⟨_, _, _, _, rfl, (P5.bset s false).bools (by simp [hlK]), fun h => by have := h.src; rw [inS_put s (by omega)] at this; simp at this, K5.far (Nat.ne_of_lt hgb) _, F5.far (Ne.symm hgKF) _, ((HA2.out.below B6).more B6.size), Bw5.setCell (Nat.le_of_lt hgb) _⟩
    · have cx := P5.bat (at_inS (K := K) (v := t) (by omega))
      have fx := P5.frozen t
      have px := P5.lt
      go_wp2_with fail
      go_meet
      have B6 : Below w2.heap.size w2 (w5.setCell ⟨gK, t, none⟩ (.bool true)) := Bv5.setCell hgK _
      exact ⟨_, _, _, _, rfl, (P5.bset t true).bools (by simp [hlK]), fun h => by have := h.snk; rw [inS_put t (by omega)] at this; simp at this, K5.far (Nat.ne_of_lt hgb) _, F5.far (Ne.symm hgKF) _, ((HA2.out.below B6).more B6.size), Bw5.setCell (Nat.le_of_lt hgb) _⟩
  case rest =>
    obtain ⟨A6, m6, cC, K', rfl, Q6, hno, K6, F6, a6, Bw6⟩ := hcut
    have HNO := Lib.hid hno
    have hfl : FlowIn l1 (List.replicate n1 0) := hl1 ▸ zero_flow HNN.out
    have HFL := Lib.hid hfl
    clear r0 r1 r2 r3 hz5 K5 a5 F5 P5 Bw5 Bv5 HA2 HCUT hno hfl
    obtain ⟨r0, r1, r2, r3⟩ := K6.at4
    have hz6 := K6.lt
    have hlF : (List.replicate n1 (0 : Int)).length = n1 := by simp
    go_wp2_with fail
    refine (cap_bad N1 s t A1 n1 c1 l1 A6 m6 cC K' _ a6 HCK.out Q6 HNO.out).mono ?_
    rintro e w7 ⟨rfl, B7⟩
    have K7 := K6.below B7 K6.lt
    have a7 := a6.on B7
    have F7 := F6.below B7 F6.lt
    have Q7 := Q6.on B7
    have Bw7 := below_step Bw6 B7
    clear r0 r1 r2 r3 hz6 K6 a6 F6 Q6 Bw6 B7
    obtain ⟨r0, r1, r2, r3⟩ := K7.at4
    have hz7 := K7.lt
    go_wp2_with fail
    refine (across_arg N1 s t A1 n1 c1 l1 _ _ _ A6 m6 cC K' _ a7 HCK.out Q7 HNO.out).mono ?_
    rintro e w8 ⟨rfl, B8⟩
    have K8 := K7.below B8 K7.lt
    have a8 := a7.on B8
    have F8 := F7.below B8 F7.lt
    have Q8 := Q7.on B8
    have Bw8 := below_step Bw7 B8
    clear r0 r1 r2 r3 hz7 K7 a7 F7 Q7 Bw7 B8
    obtain ⟨r0, r1, r2, r3⟩ := K8.at4
    have hz8 := K8.lt
    go_wp2_with fail
    refine (right_is N1 s t A1 n1 c1 l1 A6 m6 cC K' false _ a8 HCK.out Q8 (by simp; exact HNO.out)).mono ?_
    rintro e w9 ⟨rfl, B9⟩
    have K9 := K8.below B9 K8.lt
    have a9 := a8.on B9
    have F9 := F8.below B9 F8.lt
    have Q9 := Q8.on B9
    have Bw9 := below_step Bw8 B9
    clear r0 r1 r2 r3 hz8 K8 a8 F8 Q8 Bw8 B9
    obtain ⟨r0, r1, r2, r3⟩ := K9.at4
    have hz9 := K9.lt
    go_wp2_with fail
    refine (tight_bad N1 s t A1 n1 c1 l1 _ _ _ A6 m6 cC K' _ a9 HCK.out Q9 HNO.out).mono ?_
    rintro e w10 ⟨rfl, B10⟩
    have K10 := K9.below B10 K9.lt
    have a10 := a9.on B10
    have F10 := F9.below B10 F9.lt
    have Bw10 := below_step Bw9 B10
    clear r0 r1 r2 r3 hz9 K9 a9 F9 Q9 Bw9 B10 HNO
    obtain ⟨r0, r1, r2, r3⟩ := K10.at4
    have hz10 := K10.lt
    go_upto_region 18 with fail
    have HAA : Hid (∀ W, Below w10.heap.size w10 W → Arcs W W.heap.size A1 n1 l1) := Lib.hid fun W hB => a10.on hB
    have HFF := Lib.hid F10
    have HK := Lib.hid K10
    clear K10 F10
    go_region_held3 (fun W => Below w10.heap.size w10 W ∧ W.cell? ⟨w.heap.size, 0, none⟩ = some (.int .i64 (N1 : Int)) ∧ W.cell? ⟨w.heap.size, 1, none⟩ = some (.int .i64 (s : Int)) ∧ W.cell? ⟨w.heap.size, 2, none⟩ = some (.int .i64 (t : Int)) ∧ W.cell? ⟨w.heap.size, 3, none⟩ = some (.slice A1 n1 c1))
      (first
        | exact room_keep HK.out (Below.refl _ _).drew
        | exact room_keep HK.out (((Below.refl _ _).alloc (Nat.le_refl _) _).drew)
        | exact room_keep HK.out (((Below.refl _ _).drew.alloc (Nat.le_refl _) _))
        | (go_split_ands
           exact room_keep HK.out (by assumption))
        | (go_split_ands
           exact room_keep HK.out (by refine below_step ?_ (by assumption); assumption)))
      (first
        | (refine step_append_grows rfl (.tmp 86) (.tmp 87) _ rfl 2 i0 _ 1 8 Try.underlying25 HI.out HZ0.out HZ1.out HZ2.out rfl (by omega) (some ⟨gF, 0, none⟩) n1 n1 (ivs (List.replicate n1 0)).toList rfl (fun h => by cases h) (by simp [ivs]) (fun b hb => by injection hb with hb; subst hb; exact blk_src ((HFF.out.alloc _).drew)) ⟨w10.heap.size, 0, none⟩ 1 1 [.int .i64 0] rfl rfl (blk_src (cs := #[.int .i64 0]) (Blk.new rfl).drew) (fun u hu => by simp at hu; subst hu; rfl) (by omega) (by unfold maxLen; omega) (by omega) ?_
           intro v8 W8 ho8 hg8
           obtain ⟨A8, c8, rfl⟩ := own_slice ho8
           have B8 := ((((Below.refl w10.heap.size w10).alloc (Nat.le_refl _) (.cells #[.int .i64 0] 2)).drew).grown hg8 (by simp) (fun k hk => by cases hk))
           have X8 : Ints W8 W8.heap.size A8 (n1 + 1) (List.replicate n1 0 ++ [0]) := long_put ho8
           have hx8 : ¬ FlowIn l1 (List.replicate n1 0 ++ [0]) := long_flow (by simp [hl1]))
        | (go_at_call 19; go_split_ands; ((with_reducible refine (from_bad N1 s t A1 n1 c1 l1 _ _ _ _ _ (HAA.out _ (by assumption)) HCK.out (by assumption) (by omega) (by assumption)).mono ?_); rintro e W9 ⟨rfl, B9⟩)))
    go_split_ands
    clear B8 X8 hx8 hg8 ho8 B9
    have Bh : Below w10.heap.size w10 W9 := by assumption
    have K11 := HK.out.below Bh HK.out.lt
    have a11 := HAA.out _ Bh
    have F11 := HFF.out.below Bh HFF.out.lt
    have Bw11 := below_step Bw10 Bh
    clear HK HAA HFF r0 r1 r2 r3 hz10 a10 Bw10 Bh
    obtain ⟨r0, r1, r2, r3⟩ := K11.at4
    have hz11 := K11.lt
    go_upto_region 19 with fail
    have HAA : Hid (∀ W, Below W9.heap.size W9 W → Arcs W W.heap.size A1 n1 l1) := Lib.hid fun W hB => a11.on hB
    have HFF := Lib.hid F11
    have HK := Lib.hid K11
    clear K11 F11
    go_region_held3 (fun W => Below W9.heap.size W9 W ∧ W.cell? ⟨w.heap.size, 0, none⟩ = some (.int .i64 (N1 : Int)) ∧ W.cell? ⟨w.heap.size, 1, none⟩ = some (.int .i64 (s : Int)) ∧ W.cell? ⟨w.heap.size, 2, none⟩ = some (.int .i64 (t : Int)) ∧ W.cell? ⟨w.heap.size, 3, none⟩ = some (.slice A1 n1 c1))
      (first
        | exact room_keep HK.out (Below.refl _ _).drew
        | exact room_keep HK.out (((Below.refl _ _).alloc (Nat.le_refl _) _).drew)
        | exact room_keep HK.out (((Below.refl _ _).drew.alloc (Nat.le_refl _) _))
        | (go_split_ands
           exact room_keep HK.out (by assumption))
        | (go_split_ands
           exact room_keep HK.out (by refine below_step ?_ (by assumption); assumption)))
      (first
        | (refine step_append_grows rfl (.tmp 94) (.tmp 95) _ rfl 2 i0 _ 1 8 Try.underlying25 HI.out HZ0.out HZ1.out HZ2.out rfl (by omega) (some ⟨gF, 0, none⟩) n1 n1 (ivs (List.replicate n1 0)).toList rfl (fun h => by cases h) (by simp [ivs]) (fun b hb => by injection hb with hb; subst hb; exact blk_src ((HFF.out.alloc _).drew)) ⟨W9.heap.size, 0, none⟩ 1 1 [.int .i64 0] rfl rfl (blk_src (cs := #[.int .i64 0]) (Blk.new rfl).drew) (fun u hu => by simp at hu; subst hu; rfl) (by omega) (by unfold maxLen; omega) (by omega) ?_
           intro v11 W11 ho11 hg11
           obtain ⟨A11, c11, rfl⟩ := own_slice ho11
           have B11 := ((((Below.refl W9.heap.size W9).alloc (Nat.le_refl _) (.cells #[.int .i64 0] 2)).drew).grown hg11 (by simp) (fun k hk => by cases hk))
           have X11 : Ints W11 W11.heap.size A11 (n1 + 1) (List.replicate n1 0 ++ [0]) := long_put ho11
           have hx11 : ¬ FlowIn l1 (List.replicate n1 0 ++ [0]) := long_flow (by simp [hl1]))
        | (go_at_call 20; go_split_ands; ((with_reducible refine (to_bad N1 s t A1 n1 c1 l1 _ _ _ _ _ (HAA.out _ (by assumption)) HCK.out (by assumption) (by omega) (by assumption)).mono ?_); rintro e W12 ⟨rfl, B12⟩)))
    go_split_ands
    clear B11 X11 hx11 hg11 ho11 B12
    have Bh : Below W9.heap.size W9 W12 := by assumption
    have Bw12 := below_step Bw11 Bh
    clear HK HAA HFF r0 r1 r2 r3 hz11 a11 Bw11 Bh
    go_wp2_with fail
    refine (awake4_any _).mono ?_
    rintro e w13 ⟨rfl, B13⟩
    go_wp2_with fail
    go_ret
    exact ⟨rfl, below_step Bw12 B13⟩

end Go.Proofs.Ythpmappcfgiggaa
