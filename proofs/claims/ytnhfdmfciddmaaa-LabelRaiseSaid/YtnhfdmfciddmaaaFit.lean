/- Layer 5: fit. -/
import Derived.Test.YtnhfdmfciddmaaaRepeat
import Derived.Deep.DeepCutAuto
import Derived.Deep.CutBlock
import Derived.Deep.RegionHeld3
namespace Go.Proofs.Ytnhfdmfciddmaaa
open Go.RowKit
set_option maxRecDepth 100000

/-- The rows that distances are told by. -/
structure GridIn (w : World) (x N M : Nat) (K : CsrS) (fst hd rv : Nat → Nat) : Prop where
  iF : Ints w x K.AF (N + 1) (tab (N + 1) fun v => (fst v : Int))
  iH : Ints w x K.AH M (tab M fun a => (hd a : Int))
  iR : Ints w x K.AR M (tab M fun a => (rv a : Int))
section
variable {w w' : World} {x y N M : Nat} {K : CsrS} {fst hd rv : Nat → Nat}
theorem GridIn.below (h : GridIn w x N M K fst hd rv) (hb : Below x w w') : GridIn w' x N M K fst hd rv := ⟨h.iF.below hb, h.iH.below hb, h.iR.below hb⟩
theorem GridIn.more (h : GridIn w x N M K fst hd rv) (hb : x ≤ y) : GridIn w y N M K fst hd rv := ⟨h.iF.more hb, h.iH.more hb, h.iR.more hb⟩
theorem GridIn.on (h : GridIn w w.heap.size N M K fst hd rv) (hb : Below w.heap.size w w') : GridIn w' w'.heap.size N M K fst hd rv := (h.below hb).more hb.size
theorem GridIn.onAlloc (h : GridIn w w.heap.size N M K fst hd rv) (o : Obj) : GridIn (w.alloc o) (w.alloc o).heap.size N M K fst hd rv := h.on (below_alloc o)
end
theorem tab_cell {w : World} {B n b off k : Nat} {g : Nat → Nat} (h : Ints w B (some ⟨b, off, none⟩) n (tab n fun a => (g a : Int))) (hk : k < n) : b < B ∧ w.cell? ⟨b, off + k, none⟩ = some (.int .i64 (g k : Int)) := RdBy.cel h (tab_at hk)

set_option maxHeartbeats 400000 in
theorem len2_any (N M : Nat) (S T : Int) (K : CsrS) (w : World) :
    Calls Try.prog 45 #[csrW N M S T K] w fun e w' => e = .returned (.int .i64 M) ∧ Below w.heap.size w w' := by
  obtain ⟨AF, cF, AH, cH, AR, cR, AC, cC, AA, cA, AB, cB⟩ := K
  dsimp only [csrW]
  go_enter Try.func45, Try.ntmps45
  go_wp2
  go_ret
  exact ⟨rfl, below_alloc _⟩
set_option maxHeartbeats 400000 in
theorem dindex_yes {i n : Int} (h : 0 ≤ i ∧ i < n) (w : World) :
    Calls Try.prog 40 #[.int .i64 i, .int .i64 n] w fun e w' => e = .returned (.bool true) ∧ w' = w := by
  obtain ⟨h1, h2⟩ := h
  go_enter Try.func40, Try.ntmps40
  go_wp2
  go_ret
  exact ⟨ret_bool (by simp), rfl⟩
set_option maxHeartbeats 400000 in
theorem dindex_no {i n : Int} (h : ¬ (0 ≤ i ∧ i < n)) (w : World) :
    Calls Try.prog 40 #[.int .i64 i, .int .i64 n] w fun e w' => e = .returned (.bool false) ∧ w' = w := by
  by_cases h1 : 0 ≤ i
  · have h2 : ¬ i < n := fun h2 => h ⟨h1, h2⟩
    go_enter Try.func40, Try.ntmps40
    go_wp2
    go_ret
    exact ⟨rfl, rfl⟩
  · go_enter Try.func40, Try.ntmps40
    go_wp2
    go_ret
    exact ⟨rfl, rfl⟩

set_option maxHeartbeats 4000000 in
theorem fit_yes (N M : Nat) (S T : Int) (K : CsrS) (fst hd rv : Nat → Nat) (AX : Option Addr) (cX : Nat) (w : World) (hG : Grid N M fst hd rv) (hI : GridIn w w.heap.size N M K fst hd rv) (hN : N ≤ 4096) (hM : M ≤ 100000000) :
    Calls Try.prog 39 #[csrW N M S T K, .slice AX M cX] w fun e w' => e = .returned (.bool true) ∧ Below w.heap.size w w' := by
  obtain ⟨AF, cF, AH, cH, AR, cR, AC, cC, AA, cA, AB, cB⟩ := K
  dsimp only [csrW]
  obtain ⟨bF, oF, hF⟩ := hI.iF.adr (by omega)
  dsimp only at hF
  subst hF
  have HG := Lib.hid hG; have HI := Lib.hid hI
  have hf0 : ((fst 0 : Nat) : Int) = 0 := by rw [hG.f0]; rfl
  have hfN : ((fst N : Nat) : Int) = (M : Int) := by rw [hG.fN]
  have HF0 := Lib.hid hf0; have HFN := Lib.hid hfN
  clear hG hI hf0 hfN
  go_enter Try.func39, Try.ntmps39
  go_wp2_with fail
  refine (len2_any N M S T ⟨some ⟨bF, oF, none⟩, cF, AH, cH, AR, cR, AC, cC, AA, cA, AB, cB⟩ _).mono ?_
  rintro e w1 ⟨rfl, B1⟩
  have K1 : Blk w1 w.heap.size 29 _ := (Blk.new rfl).below B1 (by simp)
  have I1 := (HI.out.onAlloc _).on B1
  have Bw1 := below_step (below_alloc _) B1
  clear B1
  obtain ⟨a0, a1, a2, a3, a4, a5, a6, a7, a8⟩ := K1.at9
  have hz1 := K1.lt
  have c0 := tab_cell I1.iF (k := 0) (by omega)
  have cN := tab_cell I1.iF (k := N) (by omega)
  rw [HF0.out] at c0
  rw [HFN.out] at cN
  obtain ⟨hzb, c0⟩ := c0
  rw [Nat.add_zero] at c0
  obtain ⟨-, cN⟩ := cN
  have hn1 : ¬ (N : Int) + 1 = 0 := by omega
  have hn2 : decide (M < M) = false := by simp
  go_wp2_with fail
  refine (sorted_yes _ N _ fst _ I1.iF (by omega) HG.out.mono).mono ?_
  rintro e w2 ⟨rfl, B2⟩
  have K2 := K1.below B2 K1.lt
  have I2 := I1.on B2
  have Bw2 := below_step Bw1 B2
  clear B2 K1 I1 Bw1 a0 a1 a2 a3 a4 a5 a6 a7 a8 hz1 c0 cN hn1
  go_wp2_with fail
  go_loopw [6, 57] (fun _ i wr => ∃ k : Nat, k ≤ M ∧ i = .int .i64 k ∧ Below w.heap.size w wr ∧ Blk wr w.heap.size 29 #[.int .i64 N, .int .i64 S, .int .i64 T, .slice (some ⟨bF, oF, none⟩) (N + 1) cF, .slice AH M cH, .slice AR M cR, .slice AC M cC, .slice AA M cA, .slice AB M cB]) (fun _ i _ => M - (intOf i).toNat)
  case atStart => exact ⟨0, Nat.zero_le _, rfl, Bw2, K2⟩
  case round =>
    clear K2 I2 Bw2
    obtain ⟨k, hk, rfl, Bw, K⟩ := hrel
    by_cases hlt : k < M
    · obtain ⟨a0, a1, a2, a3, a4, a5, a6, a7, a8⟩ := K.at9
      have hz := K.lt
      have I := HI.out.below Bw
      obtain ⟨bH, oH, hH⟩ := I.iH.adr (by omega)
      obtain ⟨bR, oR, hR⟩ := I.iR.adr (by omega)
      dsimp only at hH hR
      subst hH; subst hR
      obtain ⟨hbH, c1⟩ := tab_cell I.iH hlt
      obtain ⟨hbR, c2⟩ := tab_cell I.iR hlt
      have h1 := HG.out.hdl k hlt
      have h2 := HG.out.rvl k hlt
      have hBw := Lib.hid Bw; have hK := Lib.hid K
      clear I Bw K
      go_wp2_with fail
      go_quiet ((go_at_call 40; exact Calls.quiet_of_same (dindex_yes (by omega) _)))
      go_wp2_with fail
      go_roundw
      case rel => exact ⟨k + 1, by omega, by go_num, below_drewN' hBw.out _, hK.out⟩
      case measure => simp [intOf]; omega
    · go_wp2_with fail
      go_ret
      exact ⟨rfl, Bw⟩

/-- Another number of residual capacities does not fit. -/
theorem fit_no (N M : Nat) (S T : Int) (K : CsrS) (AX : Option Addr) (nX cX : Nat) (w : World) (hne : nX ≠ M) :
    Calls Try.prog 39 #[csrW N M S T K, .slice AX nX cX] w fun e w' => e = .returned (.bool false) ∧ Below w.heap.size w w' := by
  obtain ⟨AF, cF, AH, cH, AR, cR, AC, cC, AA, cA, AB, cB⟩ := K
  dsimp only [csrW]
  have hne' : ¬ (nX : Int) = (M : Int) := by omega
  have hne2 : ((nX : Int) == (M : Int)) = false := beq_false_of_ne hne'
  go_enter Try.func39, Try.ntmps39
  go_wp2_with fail
  refine (len2_any N M S T ⟨AF, cF, AH, cH, AR, cR, AC, cC, AA, cA, AB, cB⟩ _).mono ?_
  rintro e w1 ⟨rfl, B1⟩
  have Bw1 := below_step (below_alloc _) B1
  clear B1
  go_wp2_with fail
  go_ret
  exact ⟨rfl, Bw1⟩

end Go.Proofs.Ytnhfdmfciddmaaa
