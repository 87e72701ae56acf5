/- Layer 8: Most. -/
import Derived.Test.YtfcjmhihheeifaaFfp
import Derived.Test.YtfcjmhihheeifaaCsrm
import Derived.Test.YtfcjmhihheeifaaCsrr
import Derived.Deep.QuietTactic
import Derived.BigQuiet
import Derived.Deep.DeepCutAuto
import Derived.Deep.CutBlock
import Derived.Deep.RegionHeld3
namespace Go.Proofs.Ytfcjmhihheeifaa
open Go.RowKit
set_option maxRecDepth 100000
attribute [local go_sem] Oper.semAt_some

/-- As many lifts, and pushes, as there may be. -/
def mostL (N : Nat) : Int := ((N : Int) - 2) * (2 * (N : Int) - 1)
def mostP (N M : Nat) : Int := (M : Int) * (N : Int) + (N : Int) * (2 * mostL N + 1)
theorem mostL_bd {N : Nat} (h2 : 2 ≤ N) (hN : N ≤ 4096) : 0 ≤ mostL N ∧ mostL N ≤ 40000000 := by
  unfold mostL
  have h1 : (0 : Int) ≤ (N : Int) - 2 := by omega
  have h3 : (0 : Int) ≤ 2 * (N : Int) - 1 := by omega
  have h4 := Int.mul_nonneg h1 h3
  have h5 : ((N : Int) - 2) * (2 * (N : Int) - 1) ≤ 4094 * 8191 := Int.mul_le_mul (by omega) (by omega) h3 (by omega)
  omega
set_option maxHeartbeats 4000000 in
theorem fmost_is (N M : Nat) (S T : Int) (A : Option Addr) (n c : Nat) (l : List ArcN) (w : World) (hA : Arcs w w.heap.size A n l) (hc : checkF N S T l = 0) (hMe : firstOf l N = M) (hM : M ≤ 32768) :
    Calls Try.prog 16 #[.agg #[.int .i64 (N : Int), .int .i64 S, .int .i64 T, .slice A n c]] w fun e w' => e = .returned (.tuple #[.agg #[.int .i64 (mostP N M), .int .i64 (mostL N)], .int .i64 0]) ∧ Below w.heap.size w w' := by
  have hmk := fun W (hb : Below w.heap.size w W) => make_good N S T A n c l W (hA.on hb) hc
  have h2 := (ends_in hc).1; have hN := (ends_in hc).2.1
  obtain ⟨hl0, hl1⟩ := mostL_bd h2 hN
  have HMK := Lib.hid hmk; have HME := Lib.hid hMe
  clear hmk hA hc hMe
  have hpe : mostP N M = (M : Int) * (N : Int) + (N : Int) * (2 * mostL N + 1) := rfl
  have hle : ((N : Int) - 2) * (2 * (N : Int) - 1) = mostL N := rfl
  obtain ⟨L, hL⟩ : ∃ L, mostL N = L := ⟨_, rfl⟩
  rw [hL] at hpe hle hl0 hl1 ⊢
  obtain ⟨x, hx⟩ : ∃ x, (M : Int) * (N : Int) = x := ⟨_, rfl⟩
  obtain ⟨y, hy⟩ : ∃ y, (N : Int) * (2 * L + 1) = y := ⟨_, rfl⟩
  have hx0 : 0 ≤ x := by rw [← hx]; exact Int.mul_nonneg (by omega) (by omega)
  have hx1 : x ≤ 32768 * 4096 := by rw [← hx]; exact Int.mul_le_mul (by omega) (by omega) (by omega) (by omega)
  have hy0 : 0 ≤ y := by rw [← hy]; exact Int.mul_nonneg (by omega) (by omega)
  have hy1 : y ≤ 4096 * 80000001 := by rw [← hy]; exact Int.mul_le_mul (by omega) (by omega) (by omega) (by omega)
  rw [hx, hy] at hpe
  have w1 : IntKind.i64.wrap x = x := wrap_in (by omega) (by omega)
  have w2 : IntKind.i64.wrap y = y := wrap_in (by omega) (by omega)
  have w3 : IntKind.i64.wrap (2 * L) = 2 * L := wrap_in (by omega) (by omega)
  have w4 : IntKind.i64.wrap (2 * L + 1) = 2 * L + 1 := wrap_in (by omega) (by omega)
  have w5 : IntKind.i64.wrap (x + y) = x + y := wrap_in (by omega) (by omega)
  have HPE := Lib.hid hpe; have HLL := Lib.hid hL
  clear hpe hL
  go_enter Try.func16, Try.ntmps16
  go_wp2_with fail
  obtain ⟨w0, hw0⟩ : ∃ w0, ((w.alloc (.cells #[.int .i64 (N : Int), .int .i64 S, .int .i64 T, .slice A n c] 24)).alloc (.cells #[.int .i64 0, .int .i64 0] 31)) = w0 := ⟨_, rfl⟩
  have B0 : Below w.heap.size w w0 := by rw [← hw0]; exact (below_alloc _).alloc (by simp) _
  have K0 : Blk w0 w.heap.size 24 #[.int .i64 (N : Int), .int .i64 S, .int .i64 T, .slice A n c] := by rw [← hw0]; exact (Blk.new rfl).alloc _
  have W0 : Blk w0 (w.heap.size + 1) 31 #[.int .i64 0, .int .i64 0] := by rw [← hw0]; exact Blk.new (by simp)
  rw [hw0]
  clear hw0
  refine (HMK.out _ B0).mono ?_
  rintro e w1 ⟨gF, gHd, gR, gC, gA, gB, rfl, hgs, C1, X1⟩
  rw [HME.out]
  have B1 := below_step B0 X1; have K1 := K0.below X1 K0.lt; have W1 := W0.below X1 W0.lt
  have hz1 := W1.lt
  have hz0 := K1.lt
  obtain ⟨a0, a1, a2, a3⟩ := K1.at4
  clear B0 K0 W0 X1 hgs C1
  go_upto_region 5 with fail
  obtain ⟨w2, hw2⟩ : ∃ w2, w1.alloc (.cells #[.int .i64 (N : Int), .int .i64 S, .int .i64 T, .slice (some ⟨gF, 0, none⟩) (N + 1) (N + 1), .slice (some ⟨gHd, 0, none⟩) M M, .slice (some ⟨gR, 0, none⟩) M M, .slice (some ⟨gC, 0, none⟩) M M, .slice (some ⟨gA, 0, none⟩) M M, .slice (some ⟨gB, 0, none⟩) M M] 45) = w2 := ⟨_, rfl⟩
  have h12 : Below w1.heap.size w1 w2 := by rw [← hw2]; exact below_alloc _
  have D2 : Blk w2 w1.heap.size 45 #[.int .i64 (N : Int), .int .i64 S, .int .i64 T, .slice (some ⟨gF, 0, none⟩) (N + 1) (N + 1), .slice (some ⟨gHd, 0, none⟩) M M, .slice (some ⟨gR, 0, none⟩) M M, .slice (some ⟨gC, 0, none⟩) M M, .slice (some ⟨gA, 0, none⟩) M M, .slice (some ⟨gB, 0, none⟩) M M] := by rw [← hw2]; exact Blk.new rfl
  rw [hw2]
  clear hw2
  have K2 := K1.below h12 K1.lt; have W2 := W1.below h12 W1.lt
  have HB2 := Lib.hid (below_step B1 h12); have HW2 := Lib.hid W2
  have hlen := fun W => len_any N M S T gF gHd gR gC gA gB W
  have HLEN := Lib.hid hlen
  obtain ⟨w3, hw3⟩ : ∃ w3, w2.drew = w3 := ⟨_, rfl⟩
  have h23 : Below w2.heap.size w2 w3 := by rw [← hw3]; exact (Below.refl _ w2).drew
  have K3 := K2.below h23 K2.lt; have W3 := HW2.out.below h23 HW2.out.lt; have D3 := D2.below h23 D2.lt
  have HB3 := Lib.hid (below_step HB2.out h23); have HW3 := Lib.hid W3
  have hkeep : ∀ W', Below w3.heap.size w3 W' → Below w3.heap.size w3 W' ∧ W'.cell? ⟨w.heap.size, 0, none⟩ = some (.int .i64 (N : Int)) ∧ W'.cell? ⟨w1.heap.size, 0, none⟩ = some (.int .i64 (N : Int)) ∧ W'.cell? ⟨w1.heap.size, 1, none⟩ = some (.int .i64 S) ∧ W'.cell? ⟨w1.heap.size, 2, none⟩ = some (.int .i64 T) ∧ W'.cell? ⟨w1.heap.size, 3, none⟩ = some (.slice (some ⟨gF, 0, none⟩) (N + 1) (N + 1)) ∧ W'.cell? ⟨w1.heap.size, 4, none⟩ = some (.slice (some ⟨gHd, 0, none⟩) M M) ∧ W'.cell? ⟨w1.heap.size, 5, none⟩ = some (.slice (some ⟨gR, 0, none⟩) M M) ∧ W'.cell? ⟨w1.heap.size, 6, none⟩ = some (.slice (some ⟨gC, 0, none⟩) M M) ∧ W'.cell? ⟨w1.heap.size, 7, none⟩ = some (.slice (some ⟨gA, 0, none⟩) M M) ∧ W'.cell? ⟨w1.heap.size, 8, none⟩ = some (.slice (some ⟨gB, 0, none⟩) M M) := fun W' hb => by
    obtain ⟨a0, a1, a2, a3, a4, a5, a6, a7, a8⟩ := (D3.below hb D3.lt).at9
    exact ⟨hb, (K3.below hb K3.lt).at4.1, a0, a1, a2, a3, a4, a5, a6, a7, a8⟩
  have HKEEP := Lib.hid hkeep
  clear h23 hkeep K3 W3 D3 h12 D2 K1 W1 B1 K2 W2 hlen hz1 hz0 a0 a1 a2 a3
  refine wp_region_held_drew (S := fun W' => Below w3.heap.size w3 W' ∧ W'.cell? ⟨w.heap.size, 0, none⟩ = some (.int .i64 (N : Int)) ∧ W'.cell? ⟨w1.heap.size, 0, none⟩ = some (.int .i64 (N : Int)) ∧ W'.cell? ⟨w1.heap.size, 1, none⟩ = some (.int .i64 S) ∧ W'.cell? ⟨w1.heap.size, 2, none⟩ = some (.int .i64 T) ∧ W'.cell? ⟨w1.heap.size, 3, none⟩ = some (.slice (some ⟨gF, 0, none⟩) (N + 1) (N + 1)) ∧ W'.cell? ⟨w1.heap.size, 4, none⟩ = some (.slice (some ⟨gHd, 0, none⟩) M M) ∧ W'.cell? ⟨w1.heap.size, 5, none⟩ = some (.slice (some ⟨gR, 0, none⟩) M M) ∧ W'.cell? ⟨w1.heap.size, 6, none⟩ = some (.slice (some ⟨gC, 0, none⟩) M M) ∧ W'.cell? ⟨w1.heap.size, 7, none⟩ = some (.slice (some ⟨gA, 0, none⟩) M M) ∧ W'.cell? ⟨w1.heap.size, 8, none⟩ = some (.slice (some ⟨gB, 0, none⟩) M M)) (by kernel_rfl) (by rw [hw3]; exact HKEEP.out _ (Below.refl _ _)) (fun hS0 => ?_)
  rw [hw3] at hS0 ⊢
  clear hw3
  refine tk (v := ?_) 0 25 rfl ?_ ?_
  rotate_left
  · (intro W hSw; obtain ⟨-, n0, a0, a1, a2, a3, a4, a5, a6, a7, a8⟩ := hSw; go_simp; try with_reducible rfl)
  simp only [Act.put, pa, pz, ps]
  refine tk (v := ?_) 2 27 rfl ?_ ?_
  rotate_left
  · (intro W hSw; obtain ⟨-, n0, a0, a1, a2, a3, a4, a5, a6, a7, a8⟩ := hSw; go_simp; try with_reducible rfl)
  simp only [Act.put, pa, pz, ps]
  refine tk (v := ?_) 3 28 rfl ?_ ?_
  rotate_left
  · (intro W hSw; obtain ⟨-, n0, a0, a1, a2, a3, a4, a5, a6, a7, a8⟩ := hSw; go_simp; try with_reducible rfl)
  simp only [Act.put, pa, pz, ps]
  refine tk (v := ?_) 5 30 rfl ?_ ?_
  rotate_left
  · (intro W hSw; obtain ⟨-, n0, a0, a1, a2, a3, a4, a5, a6, a7, a8⟩ := hSw; go_simp; try with_reducible rfl)
  simp only [Act.put, pa, pz, ps]
  refine tk (v := ?_) 6 31 rfl ?_ ?_
  rotate_left
  · (intro W hSw; obtain ⟨-, n0, a0, a1, a2, a3, a4, a5, a6, a7, a8⟩ := hSw; go_simp; try with_reducible rfl)
  simp only [Act.put, pa, pz, ps]
  refine tk (v := ?_) 7 32 rfl ?_ ?_
  rotate_left
  · (intro W hSw; obtain ⟨-, n0, a0, a1, a2, a3, a4, a5, a6, a7, a8⟩ := hSw; go_simp; try with_reducible rfl)
  simp only [Act.put, pa, pz, ps]
  refine tk (v := ?_) 8 33 rfl ?_ ?_
  rotate_left
  · (intro W hSw; obtain ⟨-, n0, a0, a1, a2, a3, a4, a5, a6, a7, a8⟩ := hSw; go_simp; try with_reducible rfl)
  simp only [Act.put, pa, pz, ps]
  refine tk (v := ?_) 9 34 rfl ?_ ?_
  rotate_left
  · (intro W hSw; obtain ⟨-, n0, a0, a1, a2, a3, a4, a5, a6, a7, a8⟩ := hSw; go_simp; try with_reducible rfl)
  simp only [Act.put, pa, pz, ps]
  refine tk (v := ?_) 10 35 rfl ?_ ?_
  rotate_left
  · (intro W hSw; obtain ⟨-, n0, a0, a1, a2, a3, a4, a5, a6, a7, a8⟩ := hSw; go_simp; try with_reducible rfl)
  simp only [Act.put, pa, pz, ps]
  refine wpAnyH_ready (rs := [1]) (by kernel_rfl) (by simp) ?_
  refine AllReadyH.cons rfl (fun K hK => ?_) AllReadyH.nil
  go_simp
  (with_reducible refine (HLEN.out _).mono ?_); rintro e W1 ⟨rfl, hB0⟩
  refine hK.out _ _ (HKEEP.out _ hB0) (fun hSm => ?_)
  clear hK K hS0
  have hS0 := hSm
  clear hSm
  try simp only [Act.put, pa, pz, ps]
  refine tk (v := ?_) 4 29 rfl ?_ ?_
  rotate_left
  · (intro W hSw; obtain ⟨-, n0, a0, a1, a2, a3, a4, a5, a6, a7, a8⟩ := hSw; go_simp; try with_reducible rfl)
  simp only [Act.put, pa, pz, ps]
  refine tk (v := ?_) 11 36 rfl ?_ ?_
  rotate_left
  · (intro W hSw; obtain ⟨-, n0, a0, a1, a2, a3, a4, a5, a6, a7, a8⟩ := hSw; go_simp; try with_reducible rfl)
  simp only [Act.put, pa, pz, ps]
  refine tk (v := ?_) 12 7 rfl ?_ ?_
  rotate_left
  · (intro W hSw; obtain ⟨-, n0, a0, a1, a2, a3, a4, a5, a6, a7, a8⟩ := hSw; go_simp; try with_reducible rfl)
  simp only [Act.put, pa, pz, ps]
  have W4 := HW3.out.below hB0 HW3.out.lt
  have hB4 := below_step HB3.out hB0
  have f0 := W4.frozen 0; have f1 := W4.frozen 1
  have p0 := W4.cell 0; have p1 := W4.cell 1
  simp only [List.getElem?_toArray, List.getElem?_cons_zero, List.getElem?_cons_succ] at p0 p1
  have hzw := W4.lt
  have HW4 := Lib.hid W4; have HB4 := Lib.hid hB4
  clear W4 hB4 hS0 hB0
  refine wpAnyH_done (by kernel_rfl) ?_ _
  go_wp2_with fail
  have q := (HW4.out.set 0 (.int .i64 (x + y))).set 1 (.int .i64 L)
  have e0 := q.cell 0; have e1 := q.cell 1
  simp only [List.setIfInBounds_toArray, List.set_cons_zero, List.set_cons_succ, List.getElem?_toArray, List.getElem?_cons_zero, List.getElem?_cons_succ] at e0 e1
  refine bodyPost_ret (v := .tuple #[.agg #[.int .i64 (x + y), .int .i64 L], .int .i64 0]) (by simp [results, Try.results16, go_sem, e0, e1]) rfl ?_
  exact ⟨by rw [HPE.out], (HB4.out.setCell (by simp) _).setCell (by simp) _⟩

end Go.Proofs.Ytfcjmhihheeifaa
