/- Layer 2: where rows begin. -/
import Derived.Test.YtbmndghgmndgmaaCsra
import Derived.RegionTactic
namespace Go.Proofs.Ytbmndghgmndgmaa
open Go.RowKit

/-- The counts, while the arcs are gone through. -/
def cntTo (l : List ArcN) (k : Nat) : Nat → Int
  | 0 => 0
  | v + 1 => (deg (l.take k) (v : Int) : Int)
/-- The sums, while the vertices are gone through. -/
def fstTo (l : List ArcN) (k v : Nat) : Int := if v ≤ k then (firstOf l v : Int) else cntTo l l.length v

theorem cnt_zero (l : List ArcN) (n : Nat) : List.replicate n (0 : Int) = tab n (cntTo l 0) := by
  refine tab_ext (by simp) fun i hi => ?_
  cases i with
  | zero => simp [cntTo, hi]
  | succ i => simp [cntTo, deg, hi]
theorem cnt_loop {l : List ArcN} {k : Nat} {a : ArcN} (n : Nat) (h : l[k]? = some a) (he : a.frm = a.to) : tab n (cntTo l k) = tab n (cntTo l (k + 1)) := by
  refine tab_congr fun i _ => ?_
  cases i with
  | zero => rfl
  | succ i => simp [cntTo, deg_take_succ h, touch, he]
theorem cnt_step {l : List ArcN} {k f t : Nat} {c : Int} (n : Nat) (h : l[k]? = some ⟨(f : Int), (t : Int), c⟩) (he : f ≠ t) :
    ((tab n (cntTo l k)).set (f + 1) ((deg (l.take k) f : Int) + 1)).set (t + 1) ((deg (l.take k) t : Int) + 1) = tab n (cntTo l (k + 1)) := by
  rw [tab_set, tab_set]
  refine tab_congr fun i _ => ?_
  have he' : (f : Int) ≠ (t : Int) := by omega
  cases i with
  | zero => simp [cntTo]
  | succ i =>
    simp only [cntTo, deg_take_succ h, touch, Nat.add_right_cancel_iff]
    by_cases h1 : i = t
    · subst h1; simp [he']
    · by_cases h2 : i = f
      · subst h2; simp [he', he]
      · have h3 : (f : Int) ≠ (i : Int) := by omega
        have h4 : (t : Int) ≠ (i : Int) := by omega
        simp [h1, h2, h3, h4]
theorem fst_zero {l : List ArcN} {n m : Nat} (hl : l.length = n) (hk : ¬ m < n) : cntTo l m = fstTo l 0 := by
  funext v
  unfold fstTo
  cases v with
  | zero => simp [cntTo, firstOf]
  | succ v => simp [cntTo, List.take_of_length_le (show l.length ≤ m by omega)]
theorem fst_step (l : List ArcN) (n k : Nat) : (tab n (fstTo l k)).set (k + 1) ((deg l k : Int) + (firstOf l k : Int)) = tab n (fstTo l (k + 1)) := by
  rw [tab_set]
  refine tab_congr fun i _ => ?_
  by_cases h : i = k + 1
  · subst h; simp [fstTo, firstOf]; omega
  · rw [if_neg h]
    unfold fstTo
    by_cases h1 : i ≤ k
    · rw [if_pos h1, if_pos (by omega)]
    · rw [if_neg h1, if_neg (by omega)]
theorem fst_end {l : List ArcN} {N k : Nat} (hk : ¬ k < N) : tab (N + 1) (fstTo l k) = tab (N + 1) (fun v => (firstOf l v : Int)) :=
  tab_congr fun i hi => by unfold fstTo; rw [if_pos (by omega)]

set_option maxHeartbeats 1000000 in
theorem firsts_any (N : Nat) (S T : Int) (A : Option Addr) (n c : Nat) (l : List ArcN) (w : World) (hA : Arcs w w.heap.size A n l) (hn : n ≤ 1000000000) (hN : N ≤ 4096) (hE : EndsIn N l) :
    Calls Try.prog 30 #[.agg #[.int .i64 N, .int .i64 S, .int .i64 T, .slice A n c]] w fun e w' => ∃ g, e = .returned (.slice (some ⟨g, 0, none⟩) (N + 1) (N + 1)) ∧ w.heap.size ≤ g ∧
      Blk w' g 3 (ivs (tab (N + 1) (fun v => (firstOf l v : Int)))) ∧ Below w.heap.size w w' := by
  obtain ⟨i0, hi, hz0, hz1, hz2⟩ := info_parts int_info
  have hmk := fun W => run_make_lit (P := Try.prog) 26 3 i0 _ Try.underlying26 hi hz0 (N + 1) (by rw [hz2]; omega) (by omega) W
  rw [hz1, ivs_made, cnt_zero l] at hmk
  simp only [Int.natCast_add, Int.natCast_one] at hmk
  clear hi hz0 hz1 hz2
  go_enter Try.func30, Try.ntmps30
  go_wp2_with fail
  go_loopw [4, 5, 14] (fun _ _ i wr => ∃ k : Nat, k ≤ n ∧ i = .int .i64 k ∧ Below w.heap.size w wr ∧ Blk wr w.heap.size 24 #[.int .i64 N, .int .i64 S, .int .i64 T, .slice A n c] ∧
    Blk wr (w.heap.size + 1) 3 (ivs (tab (N + 1) (cntTo l k)))) (fun _ _ i _ => n - (intOf i).toNat)
  case atStart =>
    exact ⟨0, Nat.zero_le _, rfl, (below_alloc _).alloc (by simp) _, (Blk.new rfl).alloc _, Blk.new (by simp)⟩
  case round =>
    obtain ⟨k, hk, rfl, hb, K1, K2⟩ := hrel
    have hz1 := K1.lt
    have hz2 := K2.lt
    obtain ⟨r0, r1, r2, r3⟩ := K1.at4
    clear hmk
    by_cases hlt : k < n
    · obtain ⟨b, off, ⟨x, y, z⟩, rfl, hbl, hla, d0, d1, d2⟩ := arcs_at (hA.below hb) hlt
      have hx := hE _ (mem_at hla)
      simp only at d0 d1 d2 hx
      obtain ⟨f, rfl⟩ := Int.eq_ofNat_of_zero_le hx.1
      obtain ⟨t, rfl⟩ := Int.eq_ofNat_of_zero_le hx.2.2.1
      have hf : f < N := by omega
      have ht : t < N := by omega
      have HL := Lib.hid hla; clear hla hx
      by_cases hft : f = t
      · have hloop := fun W => isLoop_any ⟨(f : Int), (t : Int), z⟩ W
        simp only [hft, decide_true] at hloop
        subst hft
        go_wp2_with fail
        refine (hloop _).mono ?_
        rintro e w1 ⟨rfl, B1⟩
        go_wp2_with fail
        go_roundw
        case rel =>
          refine ⟨k + 1, by omega, by go_num, below_step (hb.alloc hb.size _) B1, (K1.alloc _).below B1 (K1.alloc _).lt, ?_⟩
          rw [← cnt_loop _ HL.out rfl]
          exact (K2.alloc _).below B1 (K2.alloc _).lt
        case measure => simp [intOf]; omega
      · have hloop := fun W => isLoop_any ⟨(f : Int), (t : Int), z⟩ W
        simp only [show ¬ (f : Int) = (t : Int) by omega, decide_false] at hloop
        go_wp2_with fail
        refine (hloop _).mono ?_
        rintro e w1 ⟨rfl, B1⟩
        have E : Blk w1 wr.heap.size 38 #[.int .i64 f, .int .i64 t, .int .i64 z] := (Blk.new rfl).below B1 (by simp)
        have e0 := E.cell 0; have e1 := E.cell 1; have e2 := E.cell 2
        simp only [List.getElem?_toArray, List.getElem?_cons_zero, List.getElem?_cons_succ] at e0 e1 e2
        have M1 := (K1.alloc (.cells #[.int .i64 f, .int .i64 t, .int .i64 z] 38)).below B1 (K1.alloc _).lt
        have M2 := (K2.alloc (.cells #[.int .i64 f, .int .i64 t, .int .i64 z] 38)).below B1 (K2.alloc _).lt
        have m0 : w1.cell? ⟨w.heap.size + 1, f + 1, none⟩ = some (.int .i64 (deg (l.take k) f : Int)) := M2.iat (tab_at (g := cntTo l k) (i := f + 1) (by omega))
        have m1 : w1.cell? ⟨w.heap.size + 1, t + 1, none⟩ = some (.int .i64 (deg (l.take k) t : Int)) := M2.iat (tab_at (g := cntTo l k) (i := t + 1) (by omega))
        have n0 := M2.frozen (f + 1); have n1 := M2.frozen (t + 1)
        have g0 : deg (l.take k) f ≤ 1000000000 := by have h1 := deg_take_le l k f; have h2 := deg_le l f; have h3 := hA.len; omega
        have g1 : deg (l.take k) t ≤ 1000000000 := by have h1 := deg_take_le l k t; have h2 := deg_le l t; have h3 := hA.len; omega
        have zz : w.heap.size + 1 < w1.heap.size := M2.lt
        have zy : wr.heap.size < w1.heap.size := E.lt
        have hne : wr.heap.size ≠ w.heap.size + 1 := by omega
        go_wp2_with fail
        go_roundw
        case rel =>
          refine ⟨k + 1, by omega, by go_num, ?_, ?_, ?_⟩
          · exact ((below_step (hb.alloc hb.size _) B1).setCell (by simp) _).setCell (by simp) _
          · exact (M1.far (by simp) _).far (by simp) _
          · rw [← cnt_step _ HL.out hft]
            exact (M2.iset _ _).iset _ _
        case measure => simp [intOf]; omega
    · have K3 := K2
      rw [fst_zero hA.len hlt] at K3
      clear K2
      go_wp2_with fail
      go_loopw [6, 44] (fun _ i wr => ∃ k : Nat, k ≤ N ∧ i = .int .i64 k ∧ Below w.heap.size w wr ∧ Blk wr (w.heap.size + 1) 3 (ivs (tab (N + 1) (fstTo l k)))) (fun _ i _ => N - (intOf i).toNat)
      case atStart => exact ⟨0, Nat.zero_le _, rfl, hb, K3⟩
      case round =>
        obtain ⟨j, hj, rfl, hb2, K4⟩ := hrel
        by_cases hlt2 : j < N
        · have m0 : wr.cell? ⟨w.heap.size + 1, j, none⟩ = some (.int .i64 (firstOf l j : Int)) := by
            have := K4.iat (tab_at (g := fstTo l j) (i := j) (by omega))
            simpa [fstTo] using this
          have m1 : wr.cell? ⟨w.heap.size + 1, j + 1, none⟩ = some (.int .i64 (deg l j : Int)) := by
            have := K4.iat (tab_at (g := fstTo l j) (i := j + 1) (by omega))
            simpa [fstTo, cntTo, show ¬ j + 1 ≤ j by omega] using this
          have n1 := K4.frozen (j + 1)
          have g0 : firstOf l j ≤ 5000000000000 := by
            have h1 := firstOf_le l j; have h3 := hA.len
            have h4 := Nat.mul_le_mul (show j ≤ 4096 by omega) (show l.length ≤ 1000000000 by omega)
            omega
          have g1 : deg l j ≤ 1000000000 := by have h2 := deg_le l j; have h3 := hA.len; omega
          go_wp2_with fail
          go_region
          go_wp2_with fail
          go_roundw
          case rel =>
            refine ⟨j + 1, by omega, by go_num, (hb2.setCell (by simp) _).drew, ?_⟩
            rw [← fst_step]
            exact (K4.iset _ _).drew
          case measure => simp [intOf]; omega
        · go_wp2_with fail
          go_ret
          exact ⟨_, rfl, by omega, by rw [← fst_end hlt2]; exact K4, hb2⟩

end Go.Proofs.Ytbmndghgmndgmaa
