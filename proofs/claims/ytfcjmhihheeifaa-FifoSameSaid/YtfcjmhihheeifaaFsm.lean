/- FifoSame: the walk. (Written by wip/gen_fsm.py.) -/
import Derived.Test.YtfcjmhihheeifaaFcm2
import Derived.Test.YtfcjmhihheeifaaNete
import Derived.Test.YtfcjmhihheeifaaNeth
import Derived.Test.YtfcjmhihheeifaaSomes
import Derived.Deep.DeepCutAuto
import Derived.Deep.CutBlock
import Derived.Deep.RegionHeld3
namespace Go.Proofs.Ytfcjmhihheeifaa
open Go.RowKit
set_option maxRecDepth 100000

theorem addr_zeroq (a : Addr) : a.add 0 = a := by
  obtain ⟨b, o, s⟩ := a
  cases s <;> simp [Addr.add]
theorem arcs_slice_h (A : Option Addr) (n c q : Nat) (hq : q ≤ c) (W : World) : (Instr.sliceAt 22 (.slice A n c) none (some (.int .i64 (q : Int))) none).run Try.prog W = .ok (.slice A q c) W := by
  have ht : Try.prog.underlying 22 = some (.slice (Try.prog.elem 22)) := by kernel_rfl
  have hs : ∃ s, ∀ W, (sizeOf (Try.prog.elem 22)).run Try.prog W = .ok s W := ⟨3, fun W => by kernel_rfl⟩
  obtain ⟨s, hs⟩ := hs
  rw [run_sliceAt_slice _ _ _ _ _ _ ht, run_slice_h _ _ _ _ _ ht _ _ (by omega) (by omega), hs]
  simp only [Result.andThen, sliced, Nat.zero_mul, Nat.sub_zero, Int.toNat_natCast]
  congr 2
  split
  · rfl
  · cases A with
    | none => rfl
    | some a => simp [addr_zeroq]
theorem arcs_slice_l (g n c q : Nat) (hq : q < c) (hqn : q ≤ n) (W : World) : (Instr.sliceAt 22 (.slice (some ⟨g, 0, none⟩) n c) (some (.int .i64 (q : Int))) none none).run Try.prog W = .ok (.slice (some ⟨g, q * 3, none⟩) (n - q) (c - q)) W := by
  have ht : Try.prog.underlying 22 = some (.slice (Try.prog.elem 22)) := by kernel_rfl
  have hs : ∀ W, (sizeOf (Try.prog.elem 22)).run Try.prog W = .ok 3 W := fun W => by kernel_rfl
  rw [run_sliceAt_slice _ _ _ _ _ _ ht, run_slice_l _ _ _ _ _ ht _ _ (by omega) (by omega), hs]
  have : ¬ c = q := by omega
  simp [Result.andThen, sliced, this, addr_add]
theorem own_cap {w : World} {base n c : Nat} {e : TypeId} {size : Nat} {A : Option Addr} {xs : List Value} (h : w.ownsRow base e size (.slice A n c) n xs) : n ≤ c := by
  rcases h.2 with ⟨h0, h1⟩ | ⟨g, cap, cur, hv, _, _, hc, _⟩
  · injection h0; omega
  · injection hv with h1 h2 h3
    omega
theorem rd_takeq {α : Type} {f : α → List Value} {size : Nat} {w : World} {B n : Nat} {A : Option Addr} {K : List α} (h : RdBy f size w B A n K) {k : Nat} (hk : k ≤ n) : RdBy f size w B A k (K.take k) := by
  have hl := h.len
  refine ⟨by simp; omega, fun h0 => ?_⟩
  obtain ⟨b, off, e, hb, hc⟩ := h.2 (by omega)
  refine ⟨b, off, e, hb, fun i a hi j u hu => hc i a ?_ j u hu⟩
  have hil := (List.getElem?_eq_some_iff.1 hi).1
  rw [List.length_take] at hil
  rwa [List.getElem?_take_of_lt (by omega)] at hi
theorem rd_drop {w : World} {B g n : Nat} {K : List ArcN} (h : Arcs w B (some ⟨g, 0, none⟩) n K) {k : Nat} (hk : k ≤ n) : Arcs w B (some ⟨g, k * 3, none⟩) (n - k) (K.drop k) := by
  have hl := h.len
  refine ⟨by simp; omega, fun h0 => ?_⟩
  obtain ⟨b, off, e, hb, hc⟩ := h.2 (by omega)
  injection e with e
  injection e with e1 e2
  subst e1; subst e2
  refine ⟨_, _, rfl, hb, fun i a hi j u hu => ?_⟩
  rw [List.getElem?_drop] at hi
  have := hc (k + i) a hi j u hu
  rwa [show 0 + ((k + i) * 3 + j) = k * 3 + (i * 3 + j) by omega] at this

theorem op_append {P : Program} {o : Oper} {a : Act} {w w' : World} {K : Act → World → Prop} {Q : Exit → Act → World → Prop} (s x : Operand) (t : TypeId) (ho : o.op = .call { callee := .builtin .append, args := #[s, x], argTypes := #[t, t] }) {vs vx v : Value} (hs : a.eval s = vs) (hx : a.eval x = vx)
    (hrun : (Builtin.append_ #[t, t] o.type #[vs, vx]).run P w = .ok v w') (h : K (a.put o.dst v) w') : o.wp P a w K Q := by
  unfold Oper.wp execOp
  simp only [ho, resolve, invoke, builtin, Sem.run_bind, Sem.run_pure, Result.andThen_ok, List.map_toArray, List.map_cons, List.map_nil, hs, hx, hrun]
  exact h

theorem net3_keep {w0 W : World} {g1 g2 g3 : Nat} {a0 a1 a2 a3 b0 b1 b2 b3 c0 c1 c2 c3 : Value} (h1 : Blk w0 g1 24 #[a0, a1, a2, a3]) (h2 : Blk w0 g2 24 #[b0, b1, b2, b3]) (h3 : Blk w0 g3 24 #[c0, c1, c2, c3]) (hb : Below w0.heap.size w0 W) :
    W.cell? ⟨g1, 0, none⟩ = some a0 ∧ W.cell? ⟨g1, 1, none⟩ = some a1 ∧ W.cell? ⟨g1, 2, none⟩ = some a2 ∧ W.cell? ⟨g1, 3, none⟩ = some a3 ∧ W.cell? ⟨g2, 0, none⟩ = some b0 ∧ W.cell? ⟨g2, 1, none⟩ = some b1 ∧ W.cell? ⟨g2, 2, none⟩ = some b2 ∧ W.cell? ⟨g2, 3, none⟩ = some b3 ∧ W.cell? ⟨g3, 0, none⟩ = some c0 ∧ W.cell? ⟨g3, 1, none⟩ = some c1 ∧ W.cell? ⟨g3, 2, none⟩ = some c2 ∧ W.cell? ⟨g3, 3, none⟩ = some c3 := by
  obtain ⟨p0, p1, p2, p3⟩ := (h1.below hb h1.lt).at4
  obtain ⟨q0, q1, q2, q3⟩ := (h2.below hb h2.lt).at4
  obtain ⟨r0, r1, r2, r3⟩ := (h3.below hb h3.lt).at4
  exact ⟨p0, p1, p2, p3, q0, q1, q2, q3, r0, r1, r2, r3⟩

set_option maxHeartbeats 16000000 in
theorem fsame_walk (N S T : Int) (A : Option Addr) (n c : Nat) (l : List ArcN) (xb : Nat) (hxb : xb ≤ 255) (w : World) (hA : Arcs w w.heap.size A n l) (hf : FitsAll l) (hnc : n ≤ c) :
    Calls Try.prog 5 #[.agg #[.int .i64 N, .int .i64 S, .int .i64 T, .slice A n c], .int .u8 (xb : Int)] w fun e w' => e = .returned (.bool true) ∧ Below w.heap.size w w' := by
  obtain ⟨i0, hi, hz0, hz1, hz2⟩ := info_parts arc_info
  have HI := Lib.hid hi; have HZ0 := Lib.hid hz0; have HZ1 := Lib.hid hz1; have HZ2 := Lib.hid hz2
  clear hi hz0 hz1 hz2
  have hso := fun W hW => some_any N S T A n c 20 50 l W hW hf hnc (by omega) (by omega) (by omega)
  obtain ⟨N1, hN1, hN2, hN3, hck, hln, hmem⟩ := some_net N S T 20 50 l (by omega) (by omega) (by omega)
  rw [hN1] at hso hck hln hmem
  generalize S % (N1 : Int) = S1 at *
  generalize someT (N1 : Int) S T = T1 at *
  generalize someL (N1 : Int) 50 l = l1 at *
  obtain ⟨-, hN, -, hE, hs0, hs1, ht0, ht1, hst, hnn, -⟩ := ends_in hck
  obtain ⟨s, rfl⟩ := Int.eq_ofNat_of_zero_le hs0
  obtain ⟨t, rfl⟩ := Int.eq_ofNat_of_zero_le ht0
  have hfit : FitsAll l1 := fun a ha => by
    have := hmem a ha
    refine ⟨?_, ?_, ?_⟩ <;> (unfold InR; omega)
  have hsol := fun A n c W hA => solve_least N1 s t n c A l1 W hA hck
  have hsR := fun i A n c W hA => solve_least N1 s t n c A (rotL l1 i) W hA (rot_check i hck)
  have hsJ := fun A n c W hA => solve_least N1 s t n c A (joinOf l1).1 W hA (join_check hck)
  have hsT := fun A n c W hA => solve_least N1 t s n c A (l1.map turnArc) W hA (turn_check hck)
  have hjl := join_len l1 hck
  have hjc := fun K => capX_join K hnn hE
  have hju := fun A n c W hA (hn : n ≤ 1000000000000) => join_good N1 s t A n c l1 W hA hn hfit hck
  have htn : ∀ v v', LeastCut N1 s t l1 v → LeastCut N1 t s (l1.map turnArc) v' → v' = v := fun v v' h h' => h.turn hE (by omega) (by omega) h'
  have HSO := Lib.hid hso; have HSOL := Lib.hid hsol; have HSR := Lib.hid hsR; have HSJ := Lib.hid hsJ; have HST := Lib.hid hsT; have HJC := Lib.hid hjc; have HJU := Lib.hid hju; have HTN := Lib.hid htn
  clear hso hsol hsR hsJ hsT hjc hju htn hck hN1 hmem hs0 hs1 ht0 ht1 hst hnn hE hfit
  go_enter Try.func5, Try.ntmps5
  go_wp2_with fail
  refine (HSO.out _ (hA.onAlloc _)).mono ?_
  rintro e w1 ⟨A1, n1, c1, rfl, o1, hl1, B1⟩
  have K1 : Blk w1 w.heap.size 24 #[.int .i64 N, .int .i64 S, .int .i64 T, .slice A n c] := (Blk.new rfl).below B1 (by simp)
  have hz1 := K1.lt
  obtain ⟨r0, r1, r2, r3⟩ := K1.at4
  obtain ⟨f0, f1, f2, f3⟩ := K1.free4
  have ST := some_stored K1 o1 hl1 (below_step (below_alloc _) B1) (.int .i64 (N1 : Int)) (.int .i64 (s : Int)) (.int .i64 (t : Int))
  have hnc1 := own_cap o1
  have hfm : 0 < n1 → ∃ g, A1 = some ⟨g, 0, none⟩ := fun h => by obtain ⟨g, e, -⟩ := own_form o1 h; exact ⟨g, e⟩
  have HFM := Lib.hid hfm
  clear hfm
  go_upto_region 2 with fail
  generalize (((w1.setCell ⟨w.heap.size, 0, none⟩ (.int .i64 (N1 : Int))).setCell ⟨w.heap.size, 1, none⟩ (.int .i64 (s : Int))).setCell ⟨w.heap.size, 2, none⟩ (.int .i64 (t : Int))).setCell ⟨w.heap.size, 3, none⟩ (.slice A1 n1 c1) = w0 at *
  obtain ⟨K0, a0, Bw0⟩ := ST
  clear r0 r1 r2 r3 f0 f1 f2 f3 K1 o1 B1 hz1 HSO hA hf
  obtain ⟨r0, r1, r2, r3⟩ := K0.at4
  have hz0 := K0.lt
  go_wp2_with fail
  refine (HSOL.out A1 n1 c1 w0 a0).mono ?_
  rintro e w2 ⟨gf, gs, v, P1, L1, rfl, hv, B2⟩
  have HV := Lib.hid hv
  have K2 := K0.below B2 K0.lt; have a2 := a0.on B2; have Bw2 := below_step Bw0 B2
  clear hv K0 a0 Bw0 B2 r0 r1 r2 r3 hz0
  go_upto_region 3 with fail
  obtain ⟨w3, hw3⟩ : ∃ w3, ((w2.alloc (.cells #[.slice (some ⟨gf, 0, none⟩) n1 n1, .slice (some ⟨gs, 0, none⟩) N1 N1, .int .i64 v] 29)).alloc (.cells #[.int .i64 (P1 : Int), .int .i64 (L1 : Int)] 31)) = w3 := ⟨_, rfl⟩
  have X2 : Below w2.heap.size w2 w3 := by rw [← hw3]; exact (below_alloc _).alloc (by simp) _
  obtain ⟨ga, hga⟩ : ∃ g, w2.heap.size = g := ⟨_, rfl⟩
  have Q3 : Blk w3 ga 29 #[.slice (some ⟨gf, 0, none⟩) n1 n1, .slice (some ⟨gs, 0, none⟩) N1 N1, .int .i64 v] := by rw [← hw3, ← hga]; exact (Blk.new rfl).alloc _
  have K3 := K2.below X2 K2.lt; have a3 := a2.on X2; have Bw3 := below_step Bw2 X2
  have hga1 : w.heap.size < ga := by rw [← hga]; exact K2.lt
  rw [hw3, hga]
  clear hw3 hga X2 K2 a2 Bw2
  obtain ⟨r0, r1, r2, r3⟩ := K3.at4
  have hz3 := K3.lt
  go_wp2_with fail
  refine (copy_any N1 s t A1 n1 c1 l1 _ a3 (by omega)).mono ?_
  rintro e w4 ⟨A3, n3, c3, rfl, o3, hl3, B4⟩
  obtain rfl : n1 = n3 := hl1.symm.trans hl3
  clear hl3
  have a4 : Arcs w4 w4.heap.size A3 n1 l1 := arcs_own o3 hl1
  have HK4 := Lib.hid (K3.below B4 K3.lt); have HQ4 := Lib.hid (Q3.below B4 Q3.lt); have HA4 := Lib.hid (a3.on B4); have HB4 := Lib.hid (below_step Bw3 B4)
  have hgq : ga < w4.heap.size := HQ4.out.lt
  clear o3 B4 K3 a3 Bw3 Q3 r0 r1 r2 r3 hz3
  go_upto_region 4 with fail
  obtain ⟨gn, hgn⟩ : ∃ g, w4.heap.size = g := ⟨_, rfl⟩
  obtain ⟨w5, hw5⟩ : ∃ w5, w4.alloc (.cells #[.int .i64 (N1 : Int), .int .i64 (s : Int), .int .i64 (t : Int), .slice A3 n1 c3] 24) = w5 := ⟨_, rfl⟩
  have H5 : Blk w5 gn 24 #[.int .i64 (N1 : Int), .int .i64 (s : Int), .int .i64 (t : Int), .slice A3 n1 c3] := by rw [← hw5, ← hgn]; exact Blk.new rfl
  have X5 : Below w4.heap.size w4 w5 := by rw [← hw5]; exact below_alloc _
  have HK5 := Lib.hid (HK4.out.below X5 HK4.out.lt); have HQ5 := Lib.hid (HQ4.out.below X5 HQ4.out.lt); have HA5 := Lib.hid (HA4.out.on X5); have HC5 := Lib.hid (a4.on X5); have HB5 := Lib.hid (below_step HB4.out X5); have HH5 := Lib.hid H5
  rw [hgn] at hgq
  have X5g : Below gn w4 w5 := by rw [← hgn]; exact X5
  have HAG := Lib.hid (show Arcs w4 gn A1 n1 l1 by rw [← hgn]; exact HA4.out)
  have HXG := Lib.hid X5g
  rw [hw5, hgn]
  clear hw5 X5 HK4 HQ4 HA4 HB4 a4 H5
  obtain ⟨r0, r1, r2, r3⟩ := HH5.out.at4
  have hzh := HH5.out.lt
  by_cases hn0 : 0 < n1
  case' pos =>
    obtain ⟨g1, rfl⟩ := HFM.out hn0
    have hn0' : (0 : Int) < (n1 : Int) := by omega
    obtain ⟨i, hi⟩ : ∃ i : Nat, xb % n1 = i := ⟨_, rfl⟩
    have him : (xb : Int).tmod (n1 : Int) = (i : Int) := by rw [Int.tmod_eq_emod_of_nonneg (by omega), ← hi]; omega
    have hwxb : IntKind.i64.wrap (xb : Int) = (xb : Int) := wrap_in (by omega) (by omega)
    have hilt : i < n1 := by rw [← hi]; exact Nat.mod_lt _ (by omega)
    go_upto_region 6 with fail
    clear r0 r1 r2 r3
    have hslo := arcs_slice_l g1 n1 c1 i (by omega) (by omega)
    have hshi := arcs_slice_h (some ⟨g1, 0, none⟩) n1 c1 i (by omega)
    obtain ⟨w6, hw6⟩ : ∃ W, w5.drew = W := ⟨_, rfl⟩
    have X6 : Below w5.heap.size w5 w6 := by rw [← hw6]; exact (Below.refl _ _).drew
    have HK6 := Lib.hid (HK5.out.below X6 HK5.out.lt); have HQ6 := Lib.hid (HQ5.out.below X6 HQ5.out.lt); have HA6 := Lib.hid (HA5.out.on X6); have HB6 := Lib.hid (below_step HB5.out X6); have HH6 := Lib.hid (HH5.out.below X6 HH5.out.lt)
    have X6G := Lib.hid (show Below gn w5 w6 from X6.mono (by omega))
    refine wp_region_held_drew (S := fun W' => W'.cell? ⟨w.heap.size, 3, none⟩ = some (.slice (some ⟨g1, 0, none⟩) n1 c1)) (by kernel_rfl) (by rw [hw6]; exact HK6.out.cell 3) (fun hS0 => ?_)
    rw [hw6] at hS0 ⊢
    clear hw6 X6 HK5 HQ5 HA5 HB5 HH5 HC5
    refine tk (v := ?_) 1 38 rfl ?_ ?_
    rotate_left
    · (intro W hSw; go_simp; try with_reducible rfl)
    simp only [Act.put, pa, pz, ps]
    refine tk (v := ?_) 2 39 rfl ?_ ?_
    rotate_left
    · (intro W hSw; go_simp; try with_reducible rfl)
    simp only [Act.put, pa, pz, ps]
    refine tk (v := ?_) 3 40 rfl ?_ ?_
    rotate_left
    · (intro W hSw; go_simp; try with_reducible rfl)
    simp only [Act.put, pa, pz, ps]
    refine tk (v := ?_) 4 41 rfl ?_ ?_
    rotate_left
    · (intro W hSw; go_simp; try with_reducible rfl)
    simp only [Act.put, pa, pz, ps]
    refine tk (v := ?_) 6 43 rfl ?_ ?_
    rotate_left
    · (intro W hSw; go_simp; try with_reducible rfl)
    simp only [Act.put, pa, pz, ps]
    refine tk (v := ?_) 7 44 rfl ?_ ?_
    rotate_left
    · (intro W hSw; go_simp; try with_reducible rfl)
    simp only [Act.put, pa, pz, ps]
    refine tk (v := ?_) 8 45 rfl ?_ ?_
    rotate_left
    · (intro W hSw; go_simp; try with_reducible rfl)
    simp only [Act.put, pa, pz, ps]
    refine tk (v := ?_) 9 46 rfl ?_ ?_
    rotate_left
    · (intro W hSw; go_simp; try with_reducible rfl)
    simp only [Act.put, pa, pz, ps]
    refine wpAnyH_ready (rs := [0]) (by kernel_rfl) (by simp) ?_
    refine AllReadyH.cons rfl (fun K hK => ?_) AllReadyH.nil
    go_simp
    obtain ⟨w7, hw7⟩ : ∃ W, w6.alloc (.cells #[] 64) = W := ⟨_, rfl⟩
    obtain ⟨g7, hg7⟩ : ∃ g, w6.heap.size = g := ⟨_, rfl⟩
    have X7 : Below w6.heap.size w6 w7 := by rw [← hw7]; exact below_alloc _
    have o7 : w7.ownsRow g7 64 3 (.slice (some ⟨g7, 0, none⟩) 0 0) 0 [] := by rw [← hw7, ← hg7]; exact World.ownsRow_made w6 #[] 0 (Nat.le_refl _) (Nat.zero_le _) rfl
    rw [hw7, hg7]
    refine hK.out _ _ ((HK6.out.below X7 HK6.out.lt).cell 3) (fun hSm => ?_)
    clear hK K hSm hS0
    have hS7 := (HK6.out.below X7 HK6.out.lt).cell 3
    have h67 : g7 ≤ w7.heap.size := by have := X7.size; omega
    clear hw7
    try simp only [Act.put, pa, pz, ps]
    have hl1d : (l1.drop i).length = n1 - i := by simp; omega
    have hl1t : (l1.take i).length = i := by simp; omega
    obtain ⟨A8, c8, w8, hrun8, o8, hg8, -⟩ := run_append_row (P := Try.prog) (w := w7) g7 22 22 64 i0 _ 3 24 Try.underlying22 HI.out HZ0.out HZ1.out HZ2.out rfl (by omega) (some ⟨g7, 0, none⟩) 0 0 [] o7 (some ⟨g1, i * 3, none⟩) (n1 - i) (c1 - i) ((l1.drop i).flatMap arcCells) (by rw [flat_len (arc_len _), hl1d]) (fun h => RdBy.src (arc_len _) (rd_drop (HA6.out.on X7) (by omega)) h) arc_one (by unfold maxLen; omega) (by omega) h67
    refine wpAnyH_ready (rs := [5]) (by kernel_rfl) (by simp) ?_
    refine AllReadyH.cons rfl (fun K hK => ?_) AllReadyH.nil
    refine Eq.mpr (if_pos (by rfl)) ?_
    refine op_append (.tmp 37) (.tmp 41) _ rfl rfl rfl hrun8 ?_
    have X8 : Below w6.heap.size w6 w8 := X7.grown hg8 (by have := X7.size; omega) (fun k hk => by have hk' : some g7 = some k := hk; injection hk' with hk'; omega)
    have h68 : g7 ≤ w8.heap.size := by have := X8.size; omega
    refine hK.out _ _ ((HK6.out.below X8 HK6.out.lt).cell 3) (fun hSm => ?_)
    clear hK K hSm hS7 o7 hrun8
    have hS8 := (HK6.out.below X8 HK6.out.lt).cell 3
    try simp only [Act.put, pa]
    rw [Nat.zero_add, List.nil_append] at o8
    have hsum : n1 - i + i = n1 := by omega
    obtain ⟨A9, c9, w9, hrun9, o9, hg9, -⟩ := run_append_row (P := Try.prog) (w := w8) g7 22 22 64 i0 _ 3 24 Try.underlying22 HI.out HZ0.out HZ1.out HZ2.out rfl (by omega) A8 (n1 - i) c8 ((l1.drop i).flatMap arcCells) o8 (some ⟨g1, 0, none⟩) i c1 ((l1.take i).flatMap arcCells) (by rw [flat_len (arc_len _), hl1t]) (fun h => RdBy.src (arc_len _) (rd_takeq (HA6.out.on X8) (by omega)) h) arc_one (by unfold maxLen; omega) (by omega) h68
    rw [Nat.zero_add] at *
    rw [hsum, ← List.flatMap_append] at o9
    rw [hsum] at hrun9
    refine wpAnyH_ready (rs := [10]) (by kernel_rfl) (by simp) ?_
    refine AllReadyH.cons rfl (fun K hK => ?_) AllReadyH.nil
    refine Eq.mpr (if_pos (by rfl)) ?_
    refine op_append (.tmp 42) (.tmp 46) _ rfl rfl rfl hrun9 ?_
    have X9 : Below w6.heap.size w6 w9 := X8.grown hg9 (by have := X8.size; omega) (fun k hk => by have := (o8.lt k hk).1; omega)
    refine hK.out _ _ ((HK6.out.below X9 HK6.out.lt).cell 3) (fun hSm => ?_)
    clear hK K hSm hS8 hrun9 hg8 hg9 o8 X7 X8
    have hS9 := (HK6.out.below X9 HK6.out.lt).cell 3
    try simp only [Act.put]
    have H9 := HH6.out.below X9 HH6.out.lt
    obtain ⟨s0, s1, s2, s3⟩ := H9.at4
    obtain ⟨f0, f1, f2, f3⟩ := H9.free4
    have hz9 := H9.lt
    have H10 := H9.set4' (.slice A9 n1 c9)
    have a10 := arcs_own (own_far (p := ⟨gn, 3, none⟩) o9 (own_ne o9 H9 (by decide)) (.slice A9 n1 c9)) (rot_len l1 i ▸ hl1)
    have K10 := (HK6.out.below X9 HK6.out.lt).far (p := ⟨gn, 3, none⟩) (by show w.heap.size ≠ gn; omega) (.slice A9 n1 c9)
    have Q10 := (HQ6.out.below X9 HQ6.out.lt).far (p := ⟨gn, 3, none⟩) (by show ga ≠ gn; omega) (.slice A9 n1 c9)
    have B10 := (below_step HB6.out X9).setCell (p := ⟨gn, 3, none⟩) (by show w.heap.size ≤ gn; omega) (.slice A9 n1 c9)
    have hgn6 : gn ≤ w6.heap.size := by have := HH6.out.lt; omega
    have X10 : Below gn w4 (w9.setCell ⟨gn, 3, none⟩ (.slice A9 n1 c9)) := ((HXG.out.trans (X6G.out)).trans (X9.mono hgn6)).setCell (by show gn ≤ gn; omega) _
    have A10 : Arcs (w9.setCell ⟨gn, 3, none⟩ (.slice A9 n1 c9)) (w9.setCell ⟨gn, 3, none⟩ (.slice A9 n1 c9)).heap.size (some ⟨g1, 0, none⟩) n1 l1 := (HAG.out.below X10).more (by have := H10.lt; omega)
    refine tk (v := ?_) 11 48 rfl ?_ ?_
    rotate_left
    · (intro W hSw; go_simp; try with_reducible rfl)
    simp only [Act.put]
    refine wpAnyH_ready (rs := [12]) (by kernel_rfl) (by simp) ?_
    refine AllReadyH.cons rfl (fun K hK => ?_) AllReadyH.nil
    go_simp
    refine hK.out _ _ (K10.cell 3) (fun hSm => ?_)
    clear hK K hSm hS9
    refine wpAnyH_done (by kernel_rfl) ?_ _
    go_upto_region 7 with fail
    generalize w9.setCell ⟨gn, 3, none⟩ (.slice A9 n1 c9) = wx at *
    have hA10 := A10
    generalize (some ⟨g1, 0, none⟩ : Option Addr) = A1 at *
    have HKX := Lib.hid K10; have HQX := Lib.hid Q10; have HBX := Lib.hid B10; have HHX := Lib.hid H10; have HAX := Lib.hid hA10; have HRX := Lib.hid a10
    have HXX : Hid (∃ i, Arcs wx wx.heap.size A9 n1 (rotL l1 i)) := Lib.hid ⟨i, a10⟩
    clear K10 Q10 B10 H10 A10 hA10 a10 X10 X9 s0 s1 s2 s3 f0 f1 f2 f3 hz9 o9 HK6 HQ6 HA6 HB6 HH6 HRX hslo hshi him hwxb hilt hi hl1d hl1t hsum X6G hgn6
  case' neg =>
    have hn00 : n1 = 0 := by omega
    have hlt0 : ¬ (0 : Int) < (n1 : Int) := by omega
    go_upto_region 7 with fail
    clear r0 r1 r2 r3 hzh
    have HKX := HK5; have HQX := HQ5; have HBX := HB5; have HHX := HH5
    have HAX := HA5
    have HXX : Hid (∃ i, Arcs w5 w5.heap.size A3 n1 (rotL l1 i)) := Lib.hid ⟨0, by simpa [rotL] using HC5.out⟩
    clear HK5 HQ5 HA5 HB5 HH5 HC5 HAG HXG X5g hn00 hlt0 hn0
    generalize A3 = A9 at *
    generalize c3 = c9 at *
    generalize w5 = wx at *
  all_goals
    obtain ⟨r0, r1, r2, r3⟩ := HKX.out.at4
    have hzk := HKX.out.lt
    go_wp2_with fail
    refine (HJU.out A1 n1 c1 wx HAX.out (by omega)).mono ?_
    rintro e w11 ⟨AJ, nJ, cJ, Ap, np, cp, rfl, oJ, hlJ, -, -, B11⟩
    have HK11 := Lib.hid (HKX.out.below B11 HKX.out.lt); have HQ11 := Lib.hid (HQX.out.below B11 HQX.out.lt); have HB11 := Lib.hid (below_step HBX.out B11); have HH11 := Lib.hid (HHX.out.below B11 HHX.out.lt); have HA11 := Lib.hid (HAX.out.on B11)
    have HR11 : Hid (∃ i, Arcs w11 w11.heap.size A9 n1 (rotL l1 i)) := Lib.hid (by obtain ⟨i, h⟩ := HXX.out; exact ⟨i, h.on B11⟩)
    have HJ11 := Lib.hid (arcs_own oJ hlJ)
    clear oJ B11 HKX HQX HBX HHX HAX HXX r0 r1 r2 r3 hzk
    go_upto_region 8 with fail
    obtain ⟨w12, hw12⟩ : ∃ w12, w11.alloc (.cells #[.int .i64 (N1 : Int), .int .i64 (s : Int), .int .i64 (t : Int), .slice AJ nJ cJ] 24) = w12 := ⟨_, rfl⟩
    obtain ⟨gj, hgj⟩ : ∃ g, w11.heap.size = g := ⟨_, rfl⟩
    have J12 : Blk w12 gj 24 #[.int .i64 (N1 : Int), .int .i64 (s : Int), .int .i64 (t : Int), .slice AJ nJ cJ] := by rw [← hw12, ← hgj]; exact Blk.new rfl
    have X12 : Below w11.heap.size w11 w12 := by rw [← hw12]; exact below_alloc _
    rw [hw12, hgj]
    obtain ⟨w13, hw13⟩ : ∃ w13, w12.drew = w13 := ⟨_, rfl⟩
    have X13 : Below w12.heap.size w12 w13 := by rw [← hw13]; exact (Below.refl _ _).drew
    have X123 := below_step X12 X13
    have HK13 := Lib.hid (HK11.out.below X123 HK11.out.lt); have HQ13 := Lib.hid (HQ11.out.below X123 HQ11.out.lt); have HB13 := Lib.hid (below_step HB11.out X123); have HH13 := Lib.hid (HH11.out.below X123 HH11.out.lt); have HA13 := Lib.hid (HA11.out.on X123); have HJ13 := Lib.hid (HJ11.out.on X123)
    have HR13 : Hid (∃ i, Arcs w13 w13.heap.size A9 n1 (rotL l1 i)) := Lib.hid (by obtain ⟨i, h⟩ := HR11.out; exact ⟨i, h.on X123⟩)
    have HJB := Lib.hid (J12.below X13 J12.lt)
    clear hw12 hgj J12 X12 X13 X123 HK11 HQ11 HB11 HH11 HA11 HJ11 HR11
    refine wp_region_held_drew (S := fun W' => W'.cell? ⟨w.heap.size, 0, none⟩ = some (.int .i64 (N1 : Int)) ∧ W'.cell? ⟨w.heap.size, 1, none⟩ = some (.int .i64 (s : Int)) ∧ W'.cell? ⟨w.heap.size, 2, none⟩ = some (.int .i64 (t : Int)) ∧ W'.cell? ⟨w.heap.size, 3, none⟩ = some (.slice A1 n1 c1) ∧ W'.cell? ⟨gn, 0, none⟩ = some (.int .i64 (N1 : Int)) ∧ W'.cell? ⟨gn, 1, none⟩ = some (.int .i64 (s : Int)) ∧ W'.cell? ⟨gn, 2, none⟩ = some (.int .i64 (t : Int)) ∧ W'.cell? ⟨gn, 3, none⟩ = some (.slice A9 n1 c9) ∧ W'.cell? ⟨gj, 0, none⟩ = some (.int .i64 (N1 : Int)) ∧ W'.cell? ⟨gj, 1, none⟩ = some (.int .i64 (s : Int)) ∧ W'.cell? ⟨gj, 2, none⟩ = some (.int .i64 (t : Int)) ∧ W'.cell? ⟨gj, 3, none⟩ = some (.slice AJ nJ cJ)) (by kernel_rfl) (by rw [hw13]; exact net3_keep HK13.out HH13.out HJB.out (Below.refl _ _)) (fun hS0 => ?_)
    rw [hw13] at hS0 ⊢
    clear hw13
    refine tk (v := ?_) 0 54 rfl ?_ ?_
    rotate_left
    · (intro W hSw; obtain ⟨t0, t1, t2, t3, t4, t5, t6, t7, t8, t9, t10, t11⟩ := hSw; go_simp; try with_reducible rfl)
    simp only [Act.put, pa, pz, ps]
    refine tk (v := ?_) 1 55 rfl ?_ ?_
    rotate_left
    · (intro W hSw; obtain ⟨t0, t1, t2, t3, t4, t5, t6, t7, t8, t9, t10, t11⟩ := hSw; go_simp; try with_reducible rfl)
    simp only [Act.put, pa, pz, ps]
    refine tk (v := ?_) 2 56 rfl ?_ ?_
    rotate_left
    · (intro W hSw; obtain ⟨t0, t1, t2, t3, t4, t5, t6, t7, t8, t9, t10, t11⟩ := hSw; go_simp; try with_reducible rfl)
    simp only [Act.put, pa, pz, ps]
    refine tk (v := ?_) 6 60 rfl ?_ ?_
    rotate_left
    · (intro W hSw; obtain ⟨t0, t1, t2, t3, t4, t5, t6, t7, t8, t9, t10, t11⟩ := hSw; go_simp; try with_reducible rfl)
    simp only [Act.put, pa, pz, ps]
    refine wpAnyH_ready (rs := [3]) (by kernel_rfl) (by simp) ?_
    refine AllReadyH.cons rfl (fun K hK => ?_) AllReadyH.nil
    go_simp
    refine (turn_any N1 s t A1 n1 c1 l1 w13 HA13.out (by omega)).mono ?_
    rintro e w14 ⟨AT, nT, cT, rfl, oT, hlT, B14⟩
    obtain rfl : n1 = nT := by rw [← hl1, ← hlT]; simp
    refine hK.out _ _ (net3_keep HK13.out HH13.out HJB.out B14) (fun hSm => ?_)
    clear hK K hS0
    have hS0 := hSm
    clear hSm
    try simp only [Act.put, pa, pz, ps]
    have HQ14 := Lib.hid (HQ13.out.below B14 HQ13.out.lt); have HB14 := Lib.hid (below_step HB13.out B14); have HJ14 := Lib.hid (HJ13.out.on B14); have HT14 := Lib.hid (arcs_own oT hlT)
    have HR14 : Hid (∃ i, Arcs w14 w14.heap.size A9 n1 (rotL l1 i)) := Lib.hid (by obtain ⟨i, h⟩ := HR13.out; exact ⟨i, h.on B14⟩)
    have HKE := Lib.hid (fun (W : World) (h : Below w14.heap.size w14 W) => net3_keep HK13.out HH13.out HJB.out (below_step B14 h))
    clear B14 oT HQ13 HB13 HJ13 HR13 HK13 HH13 HA13 HJB
    refine wpAnyH_ready (rs := [4]) (by kernel_rfl) (by simp) ?_
    refine AllReadyH.cons rfl (fun K hK => ?_) AllReadyH.nil
    go_simp
    obtain ⟨w15, hw15⟩ : ∃ w15, w14.alloc (.cells #[.int .i64 (N1 : Int), .int .i64 (s : Int), .int .i64 (t : Int), .slice A9 n1 c9, .int .i64 (N1 : Int), .int .i64 (s : Int), .int .i64 (t : Int), .slice AJ nJ cJ, .int .i64 (N1 : Int), .int .i64 (t : Int), .int .i64 (s : Int), .slice AT n1 cT] 24) = w15 := ⟨_, rfl⟩
    obtain ⟨gl, hgl⟩ : ∃ g, w14.heap.size = g := ⟨_, rfl⟩
    have L15 : Blk w15 gl 24 #[.int .i64 (N1 : Int), .int .i64 (s : Int), .int .i64 (t : Int), .slice A9 n1 c9, .int .i64 (N1 : Int), .int .i64 (s : Int), .int .i64 (t : Int), .slice AJ nJ cJ, .int .i64 (N1 : Int), .int .i64 (t : Int), .int .i64 (s : Int), .slice AT n1 cT] := by rw [← hw15, ← hgl]; exact Blk.new rfl
    have X15 : Below w14.heap.size w14 w15 := by rw [← hw15]; exact below_alloc _
    rw [hw15, hgl]
    refine hK.out _ _ (HKE.out _ X15) (fun hSm => ?_)
    clear hK K hS0
    try simp only [Act.put, pa, pz, ps]
    have HL15 := Lib.hid L15; have HQ15 := Lib.hid (HQ14.out.below X15 HQ14.out.lt); have HB15 := Lib.hid (below_step HB14.out X15); have HJ15 := Lib.hid (HJ14.out.on X15); have HT15 := Lib.hid (HT14.out.on X15)
    have HR15 : Hid (∃ i, Arcs w15 w15.heap.size A9 n1 (rotL l1 i)) := Lib.hid (by obtain ⟨i, h⟩ := HR14.out; exact ⟨i, h.on X15⟩)
    clear hw15 hgl X15 L15 HQ14 HB14 HJ14 HT14 HR14 HKE
    refine tk (v := ?_) 5 59 rfl ?_ ?_
    rotate_left
    · (intro W hSw; obtain ⟨t0, t1, t2, t3, t4, t5, t6, t7, t8, t9, t10, t11⟩ := hSw; go_simp; try with_reducible rfl)
    simp only [Act.put, pa, pz, ps]
    clear hSm
    refine wpAnyH_done (by kernel_rfl) ?_ _
    go_upto_region 9 with fail
    go_loopw [13, 14, 15, 16, 60] (fun _ _ _ _ i wr => ∃ k : Nat, k ≤ 3 ∧ i = .int .i64 k ∧ Below w15.heap.size w15 wr) (fun _ _ _ _ i _ => 3 - (intOf i).toNat)
    case atStart => exact ⟨0, by omega, rfl, Below.refl _ _⟩
    case round =>
      obtain ⟨k, hk, rfl, hb⟩ := hrel
      have HL := Lib.hid (HL15.out.below hb HL15.out.lt); have HQ := Lib.hid (HQ15.out.below hb HQ15.out.lt)
      have HJ := Lib.hid (HJ15.out.on hb); have HT := Lib.hid (HT15.out.on hb)
      have HR : Hid (∃ i, Arcs wr wr.heap.size A9 n1 (rotL l1 i)) := Lib.hid (by obtain ⟨i, h⟩ := HR15.out; exact ⟨i, h.on hb⟩)
      have HBR := Lib.hid (below_step HB15.out hb); have HXX := Lib.hid hb
      clear hb
      have hzl := HL.out.lt
      by_cases hlt : k < 3
      · have hk3 : k = 0 ∨ k = 1 ∨ k = 2 := by omega
        rcases hk3 with rfl | rfl | rfl
        · have q0 := HL.out.cell 0
          have q1 := HL.out.cell 1
          have q2 := HL.out.cell 2
          have q3 := HL.out.cell 3
          simp only [List.getElem?_toArray, List.getElem?_cons_zero, List.getElem?_cons_succ] at q0 q1 q2 q3
          obtain ⟨i0', hR⟩ := HR.out
          go_upto_region 11 with fail
          obtain ⟨wa, hwa⟩ : ∃ wa, wr.alloc (.cells #[.int .i64 (N1 : Int), .int .i64 (s : Int), .int .i64 (t : Int), .slice A9 n1 c9] 24) = wa := ⟨_, rfl⟩
          obtain ⟨gk, hgk⟩ : ∃ g, wr.heap.size = g := ⟨_, rfl⟩
          have Xa : Below wr.heap.size wr wa := by rw [← hwa]; exact below_alloc _
          have Na : Blk wa gk 24 #[.int .i64 (N1 : Int), .int .i64 (s : Int), .int .i64 (t : Int), .slice A9 n1 c9] := by rw [← hwa, ← hgk]; exact Blk.new rfl
          have hcall := HSR.out i0' A9 n1 c9 wa (hR.on Xa)
          have HCALL := Lib.hid hcall
          have HQa := Lib.hid (HQ.out.below Xa HQ.out.lt); have HXa := Lib.hid (below_step HXX.out Xa)
          rw [hwa, hgk]
          clear hwa hgk hcall q0 q1 q2 q3
          obtain ⟨r0, r1, r2, r3⟩ := Na.at4
          have hza := Na.lt
          go_wp2_with fail
          refine HCALL.out.mono ?_
          rintro e wb ⟨gf', gs', v', P', L', rfl, hv', Bb⟩
          obtain rfl := HV.out.same hv' (fun K => capX_rot K l1 i0')
          have HQb := Lib.hid (HQa.out.below Bb HQa.out.lt); have HXb := Lib.hid (below_step HXa.out Bb)
          clear r0 r1 r2 r3 hza Bb hv' Na
          go_upto_region 12 with fail
          obtain ⟨wc, hwc⟩ : ∃ wc, ((wb.alloc (.cells #[.slice (some ⟨gf', 0, none⟩) n1 n1, .slice (some ⟨gs', 0, none⟩) N1 N1, .int .i64 v'] 29)).alloc (.cells #[.int .i64 (P' : Int), .int .i64 (L' : Int)] 31)) = wc := ⟨_, rfl⟩
          have Xc : Below wb.heap.size wb wc := by rw [← hwc]; exact (below_alloc _).alloc (by simp) _
          obtain ⟨gd, hgd⟩ : ∃ g, wb.heap.size = g := ⟨_, rfl⟩
          have D7 : Blk wc gd 29 #[.slice (some ⟨gf', 0, none⟩) n1 n1, .slice (some ⟨gs', 0, none⟩) N1 N1, .int .i64 v'] := by rw [← hwc, ← hgd]; exact (Blk.new rfl).alloc _
          rw [hwc, hgd]
          have HQc := Lib.hid (HQb.out.below Xc HQb.out.lt); have HXc := Lib.hid (below_step HXb.out Xc)
          clear hwc hgd Xc
          obtain ⟨⟨q0, q1, q2⟩, -, hzq⟩ := HQc.out.full3
          obtain ⟨⟨d0, d1, d2⟩, -, hzd⟩ := D7.full3
          have hvn : (v' != v') = false := by simp
          go_wp2_with fail
          go_roundw
          case rel => exact ⟨1, by omega, by go_num, HXc.out⟩
          case measure => simp [intOf]
        · have q0 := HL.out.cell 4
          have q1 := HL.out.cell 5
          have q2 := HL.out.cell 6
          have q3 := HL.out.cell 7
          simp only [List.getElem?_toArray, List.getElem?_cons_zero, List.getElem?_cons_succ] at q0 q1 q2 q3
          go_upto_region 11 with fail
          obtain ⟨wa, hwa⟩ : ∃ wa, wr.alloc (.cells #[.int .i64 (N1 : Int), .int .i64 (s : Int), .int .i64 (t : Int), .slice AJ nJ cJ] 24) = wa := ⟨_, rfl⟩
          obtain ⟨gk, hgk⟩ : ∃ g, wr.heap.size = g := ⟨_, rfl⟩
          have Xa : Below wr.heap.size wr wa := by rw [← hwa]; exact below_alloc _
          have Na : Blk wa gk 24 #[.int .i64 (N1 : Int), .int .i64 (s : Int), .int .i64 (t : Int), .slice AJ nJ cJ] := by rw [← hwa, ← hgk]; exact Blk.new rfl
          have hcall := HSJ.out AJ nJ cJ wa (HJ.out.on Xa)
          have HCALL := Lib.hid hcall
          have HQa := Lib.hid (HQ.out.below Xa HQ.out.lt); have HXa := Lib.hid (below_step HXX.out Xa)
          rw [hwa, hgk]
          clear hwa hgk hcall q0 q1 q2 q3
          obtain ⟨r0, r1, r2, r3⟩ := Na.at4
          have hza := Na.lt
          go_wp2_with fail
          refine HCALL.out.mono ?_
          rintro e wb ⟨gf', gs', v', P', L', rfl, hv', Bb⟩
          obtain rfl := HV.out.same hv' HJC.out
          have HQb := Lib.hid (HQa.out.below Bb HQa.out.lt); have HXb := Lib.hid (below_step HXa.out Bb)
          clear r0 r1 r2 r3 hza Bb hv' Na
          go_upto_region 12 with fail
          obtain ⟨wc, hwc⟩ : ∃ wc, ((wb.alloc (.cells #[.slice (some ⟨gf', 0, none⟩) nJ nJ, .slice (some ⟨gs', 0, none⟩) N1 N1, .int .i64 v'] 29)).alloc (.cells #[.int .i64 (P' : Int), .int .i64 (L' : Int)] 31)) = wc := ⟨_, rfl⟩
          have Xc : Below wb.heap.size wb wc := by rw [← hwc]; exact (below_alloc _).alloc (by simp) _
          obtain ⟨gd, hgd⟩ : ∃ g, wb.heap.size = g := ⟨_, rfl⟩
          have D7 : Blk wc gd 29 #[.slice (some ⟨gf', 0, none⟩) nJ nJ, .slice (some ⟨gs', 0, none⟩) N1 N1, .int .i64 v'] := by rw [← hwc, ← hgd]; exact (Blk.new rfl).alloc _
          rw [hwc, hgd]
          have HQc := Lib.hid (HQb.out.below Xc HQb.out.lt); have HXc := Lib.hid (below_step HXb.out Xc)
          clear hwc hgd Xc
          obtain ⟨⟨q0, q1, q2⟩, -, hzq⟩ := HQc.out.full3
          obtain ⟨⟨d0, d1, d2⟩, -, hzd⟩ := D7.full3
          have hvn : (v' != v') = false := by simp
          go_wp2_with fail
          go_roundw
          case rel => exact ⟨2, by omega, by go_num, HXc.out⟩
          case measure => simp [intOf]
        · have q0 := HL.out.cell 8
          have q1 := HL.out.cell 9
          have q2 := HL.out.cell 10
          have q3 := HL.out.cell 11
          simp only [List.getElem?_toArray, List.getElem?_cons_zero, List.getElem?_cons_succ] at q0 q1 q2 q3
          go_upto_region 11 with fail
          obtain ⟨wa, hwa⟩ : ∃ wa, wr.alloc (.cells #[.int .i64 (N1 : Int), .int .i64 (t : Int), .int .i64 (s : Int), .slice AT n1 cT] 24) = wa := ⟨_, rfl⟩
          obtain ⟨gk, hgk⟩ : ∃ g, wr.heap.size = g := ⟨_, rfl⟩
          have Xa : Below wr.heap.size wr wa := by rw [← hwa]; exact below_alloc _
          have Na : Blk wa gk 24 #[.int .i64 (N1 : Int), .int .i64 (t : Int), .int .i64 (s : Int), .slice AT n1 cT] := by rw [← hwa, ← hgk]; exact Blk.new rfl
          have hcall := HST.out AT n1 cT wa (HT.out.on Xa)
          have HCALL := Lib.hid hcall
          have HQa := Lib.hid (HQ.out.below Xa HQ.out.lt); have HXa := Lib.hid (below_step HXX.out Xa)
          rw [hwa, hgk]
          clear hwa hgk hcall q0 q1 q2 q3
          obtain ⟨r0, r1, r2, r3⟩ := Na.at4
          have hza := Na.lt
          go_wp2_with fail
          refine HCALL.out.mono ?_
          rintro e wb ⟨gf', gs', v', P', L', rfl, hv', Bb⟩
          obtain rfl := HTN.out v v' HV.out hv'
          have HQb := Lib.hid (HQa.out.below Bb HQa.out.lt); have HXb := Lib.hid (below_step HXa.out Bb)
          clear r0 r1 r2 r3 hza Bb hv' Na
          go_upto_region 12 with fail
          obtain ⟨wc, hwc⟩ : ∃ wc, ((wb.alloc (.cells #[.slice (some ⟨gf', 0, none⟩) n1 n1, .slice (some ⟨gs', 0, none⟩) N1 N1, .int .i64 v'] 29)).alloc (.cells #[.int .i64 (P' : Int), .int .i64 (L' : Int)] 31)) = wc := ⟨_, rfl⟩
          have Xc : Below wb.heap.size wb wc := by rw [← hwc]; exact (below_alloc _).alloc (by simp) _
          obtain ⟨gd, hgd⟩ : ∃ g, wb.heap.size = g := ⟨_, rfl⟩
          have D7 : Blk wc gd 29 #[.slice (some ⟨gf', 0, none⟩) n1 n1, .slice (some ⟨gs', 0, none⟩) N1 N1, .int .i64 v'] := by rw [← hwc, ← hgd]; exact (Blk.new rfl).alloc _
          rw [hwc, hgd]
          have HQc := Lib.hid (HQb.out.below Xc HQb.out.lt); have HXc := Lib.hid (below_step HXb.out Xc)
          clear hwc hgd Xc
          obtain ⟨⟨q0, q1, q2⟩, -, hzq⟩ := HQc.out.full3
          obtain ⟨⟨d0, d1, d2⟩, -, hzd⟩ := D7.full3
          have hvn : (v' != v') = false := by simp
          go_wp2_with fail
          go_roundw
          case rel => exact ⟨3, by omega, by go_num, HXc.out⟩
          case measure => simp [intOf]
      · obtain rfl : k = 3 := by omega
        go_wp2_with fail
        refine (awake8_is wr).mono ?_
        rintro e w20 ⟨rfl, X2⟩
        go_wp2_with fail
        go_ret
        exact ⟨rfl, below_step HBR.out X2⟩

end Go.Proofs.Ytfcjmhihheeifaa
