/- math/bits.Mul, slices.Repeat of one number, cmp.Less, slices.IsSorted. -/
import Derived.Test.YtnhfdmfciddmaaaGridp
import Derived.Test.YtnhfdmfciddmaaaRefc
import Derived.Lib.Mul64
import Derived.Laws.Bits64b
import Derived.Laws.CopyOwn
import Derived.Shelf.Bits.Mul64
import Derived.Deep.QuietTactic
import Derived.BigQuiet
namespace Go.Proofs.Ytnhfdmfciddmaaa
open Go.RowKit
set_option maxRecDepth 100000

set_option maxHeartbeats 1000000 in
theorem mul64_any (x y : Nat) (hx : x < 18446744073709551616) (hy : y < 18446744073709551616) (w : World) :
    Calls Try.prog 59 #[.int .u64 x, .int .u64 y] w fun e w' => e = .returned (.tuple #[.int .u64 ((x * y / 18446744073709551616 : Nat) : Int), .int .u64 ((x * y % 18446744073709551616 : Nat) : Int)]) ∧ w' = w := by
  obtain ⟨bd, bt, bw, hhi⟩ := Lib.mul64_hi x y hx hy
  have ba := Lib.half_mul_le (a := x / 4294967296) (b := y / 4294967296) (by omega) (by omega)
  have bb := Lib.half_mul_le (a := x / 4294967296) (b := y % 4294967296) (by omega) (by omega)
  have bc := Lib.half_mul_le (a := x % 4294967296) (b := y / 4294967296) (by omega) (by omega)
  have ba' : x / 4294967296 * (y / 4294967296) < 18446744073709551616 := by omega
  have bb' : x / 4294967296 * (y % 4294967296) < 18446744073709551616 := by omega
  have bc' : x % 4294967296 * (y / 4294967296) < 18446744073709551616 := by omega
  have bh1 : x / 4294967296 * (y / 4294967296) + (x / 4294967296 * (y % 4294967296) + x % 4294967296 * (y % 4294967296) / 4294967296) / 4294967296 < 18446744073709551616 := by omega
  have bh : x / 4294967296 * (y / 4294967296) + (x / 4294967296 * (y % 4294967296) + x % 4294967296 * (y % 4294967296) / 4294967296) / 4294967296 + ((x / 4294967296 * (y % 4294967296) + x % 4294967296 * (y % 4294967296) / 4294967296) % 4294967296 + x % 4294967296 * (y / 4294967296)) / 4294967296 < 18446744073709551616 := by omega
  go_enter Try.func59, Try.ntmps59
  go_wp2
  simp only [Mul64.maskN x hx, Mul64.maskN y hy, Mul64.divN, Mul64.mulN, Mul64.addN, Mul64.wrapN _ bd, Mul64.wrapN _ bb', Mul64.wrapN _ bt, Mul64.maskN _ bt, Mul64.wrapN _ bc', Mul64.wrapN _ bw, Mul64.wrapN _ ba', Mul64.wrapN _ bh1, Mul64.wrapN _ bh, Mul64.wrapM (x * y)]
  rw [hhi]
  go_ret2
  exact ⟨rfl, rfl⟩

set_option maxHeartbeats 1000000 in
theorem mul_one (y : Nat) (hy : y ≤ 1000000) (w : World) :
    Calls Try.prog 56 #[.int .u64 1, .int .u64 y] w fun e w' => e = .returned (.tuple #[.int .u64 0, .int .u64 y]) ∧ w' = w := by
  have c64 := fun W => mul64_any 1 y (by omega) (by omega) W
  have e1 : 1 * y / 18446744073709551616 = 0 := by omega
  have e2 : 1 * y % 18446744073709551616 = y := by omega
  rw [e1, e2] at c64
  have HC := Lib.hid c64; clear c64 e1 e2
  go_enter Try.func56, Try.ntmps56
  go_wp2_with (go_at_call 59; refine (HC.out _).mono ?_; rintro e w' ⟨rfl, rfl⟩)
  go_ret2
  exact ⟨rfl, rfl⟩

set_option maxHeartbeats 400000 in
theorem less_any (x y : Int) (w : World) :
    Calls Try.prog 54 #[.int .i64 x, .int .i64 y] w fun e w' => e = .returned (.bool (decide (x < y))) ∧ w' = w := by
  have hn : ∀ x W, Calls Try.prog 57 #[.int .i64 x] W fun e w' => e = .returned (.bool false) ∧ w' = W := fun x W => by
    go_enter Try.func57, Try.ntmps57
    go_wp2
    go_ret
    exact ⟨ret_bool (by simp), rfl⟩
  have HN := Lib.hid hn; clear hn
  by_cases h : x < y
  · go_enter Try.func54, Try.ntmps54
    go_wp2_with (go_at_call 57; refine (HN.out _ _).mono ?_; rintro e w' ⟨rfl, rfl⟩)
    go_ret
    exact ⟨ret_bool (by simp [h]), rfl⟩
  · go_enter Try.func54, Try.ntmps54
    go_wp2_with (go_at_call 57; refine (HN.out _ _).mono ?_; rintro e w' ⟨rfl, rfl⟩)
    go_ret
    exact ⟨ret_bool (by simp), rfl⟩

set_option maxHeartbeats 1000000 in
theorem sorted_yes (A : Option Addr) (n c : Nat) (g : Nat → Nat) (w : World) (hA : Ints w w.heap.size A (n + 1) (tab (n + 1) fun v => (g v : Int))) (hn : n ≤ 1000000) (hm : ∀ v, v < n → g v ≤ g (v + 1)) :
    Calls Try.prog 46 #[.slice A (n + 1) c] w fun e w' => e = .returned (.bool true) ∧ Below w.heap.size w w' := by
  obtain ⟨b, off, rfl⟩ : ∃ b off, A = some ⟨b, off, none⟩ := by
    obtain ⟨b, off, e, _⟩ := hA.2 (by omega)
    exact ⟨b, off, e⟩
  have HA := Lib.hid hA; have HM := Lib.hid hm
  clear hA hm
  go_enter Try.func46, Try.ntmps46
  go_wp2_with fail
  go_loopw [3] (fun i wr => ∃ k : Nat, k ≤ n ∧ i = .int .i64 k ∧ Below w.heap.size w wr) (fun i _ => (intOf i).toNat)
  case atStart => exact ⟨n, Nat.le_refl _, by go_num, Below.refl _ _⟩
  case round =>
    obtain ⟨k, hk, rfl, Bw⟩ := hrel
    cases k with
    | zero =>
      go_wp2_with fail
      go_ret
      exact ⟨rfl, Bw⟩
    | succ k =>
      have e1 := tab_at (g := fun v => (g v : Int)) (show k < n + 1 by omega)
      have e2 := tab_at (g := fun v => (g v : Int)) (show k + 1 < n + 1 by omega)
      obtain ⟨hb, c1⟩ := (HA.out.below Bw).cel e1
      obtain ⟨_, c2⟩ := (HA.out.below Bw).cel e2
      have hle : ¬ (g (k + 1) : Int) < (g k : Int) := by have := HM.out k (by omega); omega
      have hl := fun W => less_any (g (k + 1) : Int) (g k : Int) W
      rw [decide_eq_false hle] at hl
      have HL := Lib.hid hl
      have hi0 : (0 : Int) ≤ (k : Int) + 1 := by omega
      have hi1 : ((k : Int) + 1).toNat = k + 1 := by omega
      have hi2 : (k : Int) + 1 < (n : Int) + 1 := by omega
      have hi3 : (k : Int) < (n : Int) + 1 := by omega
      have hi4 : (0 : Int) < (k : Int) + 1 := by omega
      have hw1 : IntKind.i64.wrap (k : Int) = (k : Int) := by rw [IntKind.wrap_i64]; omega
      have hw2 : IntKind.i64.wrap ((k : Int) + 1) = (k : Int) + 1 := by rw [IntKind.wrap_i64]; omega
      clear e1 e2 hl hle
      go_wp2_with fail
      go_quiet ((go_at_call 54; exact Calls.quiet_of_same (HL.out _)))
      clear hw1 hw2 hi1
      go_wp2_with fail
      go_roundw
      case rel => exact ⟨k, by omega, by go_num, below_drewN' Bw _⟩
      case measure => simp [intOf]
theorem splice_at {n m : Nat} {x : Int} {L : List Int} (h : ∀ j, j < n → L[j]? = some x) (hn : n + m ≤ L.length) : ∃ L' : List Int, splice (L.map (Value.int .i64)) n ((List.replicate m x).map (Value.int .i64)) = L'.map (Value.int .i64) ∧ L'.length = L.length ∧ ∀ j, j < n + m → L'[j]? = some x := by
  refine ⟨L.take n ++ (List.replicate m x ++ L.drop (n + m)), ?_, ?_, fun j hj => ?_⟩
  · simp [splice, List.map_take, List.map_drop]
  · simp; omega
  · by_cases h1 : j < n
    · rw [List.getElem?_append_left (by simp; omega), List.getElem?_take, if_pos h1]
      exact h j h1
    · rw [List.getElem?_append_right (by simp; omega), List.getElem?_append_left (by simp; omega)]
      rw [List.getElem?_replicate, if_pos (by simp only [List.length_take]; omega)]
theorem int_size : (Try.prog.info? 3).map (·.size) = some 1 := by
  have h := int_info
  obtain ⟨i, hi, h2⟩ := Option.map_eq_some_iff.1 h
  simp only [Prod.mk.injEq] at h2
  rw [hi]; simp [h2.2.1]

theorem from_slice (g N k : Nat) (hk : k < N) (W : World) : (Instr.sliceAt 26 (.slice (some ⟨g, 0, none⟩) N N) (some (.int .i64 (k : Int))) none none).run Try.prog W = .ok (.slice (some ⟨g, k, none⟩) (N - k) (N - k)) W := by
  have ht : Try.prog.underlying 26 = some (.slice (Try.prog.elem 26)) := by kernel_rfl
  have hs : ∀ W, (sizeOf (Try.prog.elem 26)).run Try.prog W = .ok 1 W := fun W => by kernel_rfl
  rw [run_sliceAt_slice _ _ _ _ _ _ ht, run_slice_l _ _ _ _ _ ht _ _ (by omega) (by omega), hs]
  have h1 : ¬ N = k := by omega
  simp [Result.andThen, sliced, addr_add, h1]
theorem to_slice (g N k : Nat) (hk : k ≤ N) (W : World) : (Instr.sliceAt 26 (.slice (some ⟨g, 0, none⟩) N N) none (some (.int .i64 (k : Int))) none).run Try.prog W = .ok (.slice (some ⟨g, 0, none⟩) k N) W := by
  have ht : Try.prog.underlying 26 = some (.slice (Try.prog.elem 26)) := by kernel_rfl
  have hs : ∀ W, (sizeOf (Try.prog.elem 26)).run Try.prog W = .ok 1 W := fun W => by kernel_rfl
  rw [run_sliceAt_slice _ _ _ _ _ _ ht, run_slice_h _ _ _ _ _ ht _ _ (by omega) (by omega), hs]
  simp [Result.andThen, sliced, addr_add]

set_option maxHeartbeats 2000000 in
theorem repeat_one (x : Int) (A : Option Addr) (c N : Nat) (w : World) (hA : Ints w w.heap.size A 1 [x]) (hN : 1 ≤ N) (hN2 : N ≤ 1000000) :
    Calls Try.prog 51 #[.slice A 1 c, .int .i64 N] w fun e w' => ∃ g, e = .returned (.slice (some ⟨g, 0, none⟩) N N) ∧ w.heap.size ≤ g ∧ Blk w' g 3 (ivs (List.replicate N x)) ∧ Below w.heap.size w w' := by
  obtain ⟨i1, hi, hz0, hz1, hz2⟩ := info_parts int_info
  have hml := fun W => run_make_lit (P := Try.prog) 26 3 i1 _ Try.underlying26 hi hz0 N (by rw [hz2]; omega) (by omega) W
  rw [hz1, ivs_made] at hml
  obtain ⟨b, off, rfl⟩ := hA.adr (by omega)
  have HSZ := Lib.hid int_size
  have HMU := Lib.hid fun W => mul_one N hN2 W
  have hd1 : decide ((N : Int) < 0) = false := decide_eq_false (by omega)
  have hd2 : decide (9223372036854775807 < (N : Int)) = false := decide_eq_false (by omega)
  clear hi hz0 hz1 hz2
  have K0 : Blk (w.alloc (.cells (ivs (List.replicate N 0)) 3)) w.heap.size 3 (ivs (List.replicate N 0)) := Blk.new rfl
  obtain ⟨hbl, hc0⟩ := hA.cel (k := 0) rfl
  obtain ⟨L1, hL1, hL2, hL3⟩ := splice_at (n := 0) (m := 1) (x := x) (L := List.replicate N 0) (fun j hj => absurd hj (by omega)) (by simp; omega)
  have HL1 := Lib.hid hL1; have HL2 := Lib.hid hL2; have HL3 := Lib.hid hL3; have HK0 := Lib.hid K0; have HC0 := Lib.hid hc0
  clear hL1 hL2 hL3 K0 hc0 hA
  go_enter Try.func51, Try.ntmps51
  go_wp2_with (first
    | (go_at_call 56; refine (HMU.out _).mono ?_; rintro e w' ⟨rfl, hw⟩; obtain rfl : _ = w' := hw.symm)
    | (refine wpList_copy_splice (o := ⟨some 33, _, _, _, _, _⟩) rfl (.tmp 31) (.tmp 32) 26 26 rfl 3 Try.underlying26 HSZ.out _ _ N N 1 c rfl rfl w.heap.size 0 ((List.replicate N (0 : Int)).map (Value.int .i64)) 3 HK0.out [.int .i64 x] ?hn ?hpos ?hfit ?h1 w.heap.size w (below_alloc _) (Nat.le_refl _) ?hgo))
  case hn => simp [Nat.min_def]; omega
  case hpos =>
    intro j v hj
    cases j with
    | zero =>
      simp at hj; subst hj
      exact HC0.out
    | succ j => simp at hj
  case hfit => simp; omega
  case h1 => simp [Value.oneCell']
  case hgo =>
    intro w1 HG1 hB1
    clear hml
    have K1 : Hid (Blk w1 w.heap.size 3 (ivs L1)) := by
      have h := HG1.out
      have e := HL1.out
      simp only [List.replicate_one, List.map_cons, List.map_nil, List.map_replicate] at e
      rw [e] at h
      exact Lib.hid h
    have hl1 : L1.length = N := HL2.out.trans (by simp)
    clear HG1
    go_wp2_with fail
    go_loopw [8] (fun i wr => ∃ (k : Nat) (L : List Int), 1 ≤ k ∧ k ≤ N ∧ i = .int .i64 k ∧ L.length = N ∧ (∀ j, j < k → L[j]? = some x) ∧ Blk wr w.heap.size 3 (ivs L) ∧ Below w.heap.size w wr) (fun i _ => N - (intOf i).toNat)
    case atStart => exact ⟨1, L1, Nat.le_refl _, hN, by go_num, hl1, HL3.out, K1.out, hB1⟩
    case round =>
      clear hB1
      obtain ⟨k, L, hk1, hk, rfl, hl, hx, K, Bw⟩ := hrel
      by_cases hlt : k < N
      · have s1 := from_slice w.heap.size N k hlt
        have s2 := to_slice w.heap.size N k hk
        obtain ⟨m, hm⟩ : ∃ m, m = Nat.min k (N - k) := ⟨_, rfl⟩
        have hm1 : 1 ≤ m := by rw [hm]; simp only [Nat.min_def]; split <;> omega
        have hm2 : k + m ≤ N := by rw [hm]; simp only [Nat.min_def]; split <;> omega
        have hm3 : m ≤ k := by rw [hm]; exact Nat.min_le_left _ _
        obtain ⟨L', e1, e2, e3⟩ := splice_at (n := k) (m := m) hx (by omega)
        have hcp : ∃ W', (Builtin.copy_ #[26, 26] 3 #[.slice (some ⟨w.heap.size, k, none⟩) (N - k) (N - k), .slice (some ⟨w.heap.size, 0, none⟩) k N]).run Try.prog wr.drew = .ok (.int .i64 (m : Int)) W' ∧ Blk W' w.heap.size 3 (ivs L') ∧ Below w.heap.size w W' := by
          have hr := run_copy_row (P := Try.prog) wr.drew 26 26 3 3 w.heap.size k (N - k) (N - k) ⟨w.heap.size, 0, none⟩ k N (ivs L) 3 ((List.replicate m x).map (Value.int .i64)) Try.underlying26 HSZ.out K.drew (by rw [List.length_map, List.length_replicate, hm]) (fun j v hj => by
            rw [addr_add, Nat.zero_add]
            have hjm : j < m := by have := (List.getElem?_eq_some_iff.1 hj).1; simpa using this
            rw [List.getElem?_map, List.getElem?_replicate, if_pos hjm] at hj
            injection hj with hj
            rw [← hj]
            exact K.drew.iat (hx j (by omega))) (by simp [ivs]; omega) (by
            intro v hv
            simp only [List.map_replicate, List.mem_replicate] at hv
            rw [hv.2]; rfl)
          rw [List.length_map, List.length_replicate] at hr
          refine ⟨_, hr, ?_, below_setRow Bw.drew (Nat.le_refl _) _⟩
          unfold Blk
          refine (setRow_heap wr.drew w.heap.size (ivs L) _ 3 _ K.drew).trans ?_
          rw [show ivs L' = (L'.map (Value.int .i64)).toArray from rfl, ← e1]
          simp [splice, ivs]
        obtain ⟨W', hc, K', B'⟩ := hcp
        have hw0 : IntKind.i64.wrap ((k : Int) + (m : Int)) = (k : Int) + (m : Int) := by rw [IntKind.wrap_i64]; omega
        have HE1 := Lib.hid e1; have HE2 := Lib.hid e2; have HE3 := Lib.hid e3; have HK' := Lib.hid K'; have HB' := Lib.hid B'
        clear e1 e2 e3 K' B' hx K Bw hm
        go_wp2_with fail
        go_region
        go_wp2_with fail
        go_roundw
        case rel => exact ⟨k + m, L', by omega, hm2, by go_num, HE2.out.trans hl, HE3.out, HK'.out, HB'.out⟩
        case measure => simp [intOf]; omega
      · obtain rfl : N = k := by omega
        have e : L = List.replicate N x := by
          apply List.ext_getElem?
          intro j
          by_cases hj : j < N
          · rw [hx j hj, List.getElem?_replicate, if_pos hj]
          · rw [List.getElem?_eq_none (by omega), List.getElem?_eq_none (by simp; omega)]
        subst e
        clear hx hl
        go_wp2_with fail
        go_ret
        exact ⟨_, rfl, Nat.le_refl _, K, Bw⟩
end Go.Proofs.Ytnhfdmfciddmaaa
