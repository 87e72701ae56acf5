/- math/bits.Mul, slices.Repeat of one number, cmp.Less, slices.IsSorted. Layer 5: fit. -/
import Derived.Test.YtgjokddcaadjdaaGridp
import Derived.Test.YtgjokddcaadjdaaRefb
import Derived.Lib.Mul64
import Derived.Laws.Bits64b
import Derived.Laws.CopyOwn
import Derived.Shelf.Bits.Mul64
import Derived.Deep.QuietTactic
import Derived.BigQuiet
import Derived.Deep.DeepCutAuto
import Derived.Deep.CutBlock
import Derived.Deep.RegionHeld3
/-! Repeat -/
namespace Go.Proofs.Ytgjokddcaadjdaa
open Go.RowKit
set_option maxRecDepth 100000



set_option maxHeartbeats 400000 in
theorem less_any (x y : Int) (w : World) :
    Calls Try.prog 94 #[.int .i64 x, .int .i64 y] w fun e w' => e = .returned (.bool (decide (x < y))) ∧ w' = w := by
  have hn : ∀ x W, Calls Try.prog 103 #[.int .i64 x] W fun e w' => e = .returned (.bool false) ∧ w' = W := fun x W => by
    go_enter Try.func103, Try.ntmps103
    go_wp2
    go_ret
    exact ⟨ret_bool (by simp), rfl⟩
  have HN := Lib.hid hn; clear hn
  by_cases h : x < y
  · go_enter Try.func94, Try.ntmps94
    go_wp2_with (go_at_call 103; refine (HN.out _ _).mono ?_; rintro e w' ⟨rfl, rfl⟩)
    go_ret
    exact ⟨ret_bool (by simp [h]), rfl⟩
  · go_enter Try.func94, Try.ntmps94
    go_wp2_with (go_at_call 103; refine (HN.out _ _).mono ?_; rintro e w' ⟨rfl, rfl⟩)
    go_ret
    exact ⟨ret_bool (by simp), rfl⟩

set_option maxHeartbeats 1000000 in
theorem sorted_yes (A : Option Addr) (n c : Nat) (g : Nat → Nat) (w : World) (hA : Ints w w.heap.size A (n + 1) (tab (n + 1) fun v => (g v : Int))) (hn : n ≤ 1000000) (hm : ∀ v, v < n → g v ≤ g (v + 1)) :
    Calls Try.prog 81 #[.slice A (n + 1) c] w fun e w' => e = .returned (.bool true) ∧ Below w.heap.size w w' := by
  obtain ⟨b, off, rfl⟩ : ∃ b off, A = some ⟨b, off, none⟩ := by
    obtain ⟨b, off, e, _⟩ := hA.2 (by omega)
    exact ⟨b, off, e⟩
  have HA := Lib.hid hA; have HM := Lib.hid hm
  clear hA hm
  go_enter Try.func81, Try.ntmps81
  go_wp2_with fail
  go_loopw [3] (fun i wr => ∃ k : Nat, k ≤ n ∧ i = .int .i64 k ∧ Below w.heap.size w wr) (fun i _ => (intOf i).toNat)
  case atStart => exact ⟨n, Nat.le_refl _, by go_num, Below.refl _ _⟩
  case round =>
    obtain ⟨k, hk, rfl, Bw⟩ := hrel
    cases k with
    | zero =>
      go_wp2_with fail
      go_ret
      exact ⟨rfl, Bw⟩
    | succ k =>
      have e1 := tab_at (g := fun v => (g v : Int)) (show k < n + 1 by omega)
      have e2 := tab_at (g := fun v => (g v : Int)) (show k + 1 < n + 1 by omega)
      obtain ⟨hb, c1⟩ := (HA.out.below Bw).cel e1
      obtain ⟨_, c2⟩ := (HA.out.below Bw).cel e2
      have hle : ¬ (g (k + 1) : Int) < (g k : Int) := by have := HM.out k (by omega); omega
      have hl := fun W => less_any (g (k + 1) : Int) (g k : Int) W
      rw [decide_eq_false hle] at hl
      have HL := Lib.hid hl
      have hi0 : (0 : Int) ≤ (k : Int) + 1 := by omega
      have hi1 : ((k : Int) + 1).toNat = k + 1 := by omega
      have hi2 : (k : Int) + 1 < (n : Int) + 1 := by omega
      have hi3 : (k : Int) < (n : Int) + 1 := by omega
      have hi4 : (0 : Int) < (k : Int) + 1 := by omega
      have hw1 : IntKind.i64.wrap (k : Int) = (k : Int) := by rw [IntKind.wrap_i64]; omega
      have hw2 : IntKind.i64.wrap ((k : Int) + 1) = (k : Int) + 1 := by rw [IntKind.wrap_i64]; omega
      clear e1 e2 hl hle
      go_wp2_with fail
      go_quiet ((go_at_call 94; exact Calls.quiet_of_same (HL.out _)))
      clear hw1 hw2 hi1
      go_wp2_with fail
      go_roundw
      case rel => exact ⟨k, by omega, by go_num, below_drewN' Bw _⟩
      case measure => simp [intOf]
theorem splice_at {n m : Nat} {x : Int} {L : List Int} (h : ∀ j, j < n → L[j]? = some x) (hn : n + m ≤ L.length) : ∃ L' : List Int, splice (L.map (Value.int .i64)) n ((List.replicate m x).map (Value.int .i64)) = L'.map (Value.int .i64) ∧ L'.length = L.length ∧ ∀ j, j < n + m → L'[j]? = some x := by
  refine ⟨L.take n ++ (List.replicate m x ++ L.drop (n + m)), ?_, ?_, fun j hj => ?_⟩
  · simp [splice, List.map_take, List.map_drop]
  · simp; omega
  · by_cases h1 : j < n
    · rw [List.getElem?_append_left (by simp; omega), List.getElem?_take, if_pos h1]
      exact h j h1
    · rw [List.getElem?_append_right (by simp; omega), List.getElem?_append_left (by simp; omega)]
      rw [List.getElem?_replicate, if_pos (by simp only [List.length_take]; omega)]
theorem int_size : (Try.prog.info? 3).map (·.size) = some 1 := by
  have h := int_info
  obtain ⟨i, hi, h2⟩ := Option.map_eq_some_iff.1 h
  simp only [Prod.mk.injEq] at h2
  rw [hi]; simp [h2.2.1]

theorem from_slice (g N k : Nat) (hk : k < N) (W : World) : (Instr.sliceAt 27 (.slice (some ⟨g, 0, none⟩) N N) (some (.int .i64 (k : Int))) none none).run Try.prog W = .ok (.slice (some ⟨g, k, none⟩) (N - k) (N - k)) W := by
  have ht : Try.prog.underlying 27 = some (.slice (Try.prog.elem 27)) := by kernel_rfl
  have hs : ∀ W, (sizeOf (Try.prog.elem 27)).run Try.prog W = .ok 1 W := fun W => by kernel_rfl
  rw [run_sliceAt_slice _ _ _ _ _ _ ht, run_slice_l _ _ _ _ _ ht _ _ (by omega) (by omega), hs]
  have h1 : ¬ N = k := by omega
  simp [Result.andThen, sliced, addr_add, h1]
theorem to_slice (g N k : Nat) (hk : k ≤ N) (W : World) : (Instr.sliceAt 27 (.slice (some ⟨g, 0, none⟩) N N) none (some (.int .i64 (k : Int))) none).run Try.prog W = .ok (.slice (some ⟨g, 0, none⟩) k N) W := by
  have ht : Try.prog.underlying 27 = some (.slice (Try.prog.elem 27)) := by kernel_rfl
  have hs : ∀ W, (sizeOf (Try.prog.elem 27)).run Try.prog W = .ok 1 W := fun W => by kernel_rfl
  rw [run_sliceAt_slice _ _ _ _ _ _ ht, run_slice_h _ _ _ _ _ ht _ _ (by omega) (by omega), hs]
  simp [Result.andThen, sliced, addr_add]

end Go.Proofs.Ytgjokddcaadjdaa

/-! Fit -/
namespace Go.Proofs.Ytgjokddcaadjdaa
open Go.RowKit
set_option maxRecDepth 100000

/-- The rows that distances are told by. -/
structure GridIn (w : World) (x N M : Nat) (K : CsrS) (fst hd rv : Nat → Nat) : Prop where
  iF : Ints w x K.AF (N + 1) (tab (N + 1) fun v => (fst v : Int))
  iH : Ints w x K.AH M (tab M fun a => (hd a : Int))
  iR : Ints w x K.AR M (tab M fun a => (rv a : Int))
section
variable {w w' : World} {x y N M : Nat} {K : CsrS} {fst hd rv : Nat → Nat}
theorem GridIn.below (h : GridIn w x N M K fst hd rv) (hb : Below x w w') : GridIn w' x N M K fst hd rv := ⟨h.iF.below hb, h.iH.below hb, h.iR.below hb⟩
theorem GridIn.more (h : GridIn w x N M K fst hd rv) (hb : x ≤ y) : GridIn w y N M K fst hd rv := ⟨h.iF.more hb, h.iH.more hb, h.iR.more hb⟩
theorem GridIn.on (h : GridIn w w.heap.size N M K fst hd rv) (hb : Below w.heap.size w w') : GridIn w' w'.heap.size N M K fst hd rv := (h.below hb).more hb.size
theorem GridIn.onAlloc (h : GridIn w w.heap.size N M K fst hd rv) (o : Obj) : GridIn (w.alloc o) (w.alloc o).heap.size N M K fst hd rv := h.on (below_alloc o)
end
theorem tab_cell {w : World} {B n b off k : Nat} {g : Nat → Nat} (h : Ints w B (some ⟨b, off, none⟩) n (tab n fun a => (g a : Int))) (hk : k < n) : b < B ∧ w.cell? ⟨b, off + k, none⟩ = some (.int .i64 (g k : Int)) := RdBy.cel h (tab_at hk)

set_option maxHeartbeats 400000 in
theorem len2_any (N M : Nat) (S T : Int) (K : CsrS) (w : World) :
    Calls Try.prog 67 #[csrW N M S T K] w fun e w' => e = .returned (.int .i64 M) ∧ Below w.heap.size w w' := by
  obtain ⟨AF, cF, AH, cH, AR, cR, AC, cC, AA, cA, AB, cB⟩ := K
  dsimp only [csrW]
  go_enter Try.func67, Try.ntmps67
  go_wp2
  go_ret
  exact ⟨rfl, below_alloc _⟩



end Go.Proofs.Ytgjokddcaadjdaa
