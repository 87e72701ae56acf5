/- Layer 7: within (csr.Flow, wherever the rows lie). -/
import Derived.Test.YtgjokddcaadjdaaPino
namespace Go.Proofs.Ytgjokddcaadjdaa
open Go.RowKit
set_option maxRecDepth 100000

set_option maxHeartbeats 4000000 in
theorem flow2 (N M s t n : Nat) (K : CsrS) (fst hd rv ai : Nat → Nat) (cp : Nat → Int) (bk : Nat → Bool) (AX : Option Addr) (cX : Nat) (X : List Int) (r : Bool) (w : World) (hG : PNet N M s t fst hd rv ai cp bk) (hI : PIn w w.heap.size N M K fst hd rv ai cp bk)
    (hX : Ints w w.heap.size AX M X) (hXR : ∀ x ∈ X, InR x) (hr : r = true ↔ BalN M rv cp bk X M) (hn : n ≤ 16384) (ha : ∀ a, a < M → ai a < n) :
    Calls Try.prog 35 #[csrW N M s t K, .slice AX M cX, .int .i64 n] w fun e w' => (∃ v, e = .returned (.tuple #[v, .int .i64 (if r then 0 else 20)])) ∧ Below w.heap.size w w' := by
  have hct := fun W => isCount_any (n : Int) W
  rw [decide_eq_true (show 0 ≤ (n : Int) ∧ (n : Int) ≤ 16384 by omega)] at hct
  have HCT := Lib.hid hct; clear hct
  have hlen := fun W => len2_any N M s t K W
  have HL := Lib.hid hlen; clear hlen
  have hM := hG.nM
  have hwf := fun W (h : PIn W W.heap.size N M K fst hd rv ai cp bk) => wf2 N M s t K fst hd rv ai cp bk W hG.g h (by omega)
  have HWF := Lib.hid hwf; clear hwf
  have hba := fun W (h : PIn W W.heap.size N M K fst hd rv ai cp bk) (hX : Ints W W.heap.size AX M X) => bal2 N M s t K fst hd rv ai cp bk AX cX X r W hG h hX hXR hr
  have HBA := Lib.hid hba; clear hba hr hXR
  obtain ⟨i1, hi, hz0, hz1, hz2⟩ := info_parts long_info
  have hml := fun W => run_make_lit (P := Try.prog) 26 2 i1 _ Try.underlying26 hi hz0 n (by rw [hz2]; omega) (by omega) W
  rw [hz1, ivs_made] at hml
  clear hi hz0 hz1 hz2
  have HIC := Lib.hid ha; clear ha
  have HI := Lib.hid hI; have HX := Lib.hid hX
  clear hI hX hG
  obtain ⟨AF, cF, AH, cH, AR, cR, AC, cC, AA, cA, AB, cB⟩ := K
  dsimp only [csrW] at HL HWF HBA ⊢
  go_enter Try.func35, Try.ntmps35
  go_wp2_with fail
  refine (HWF.out _ (HI.out.onAlloc _)).mono ?_
  rintro e w1 ⟨rfl, B1⟩
  have K1 : Blk w1 w.heap.size 32 _ := (Blk.new rfl).below B1 (by simp)
  have Bw := below_step (below_alloc _) B1
  have C1 := (HI.out.onAlloc _).on B1
  have X1 := (HX.out.onAlloc _).on B1
  obtain ⟨a0, a1, a2, a3, a4, a5, a6, a7, a8⟩ := K1.at9
  clear B1
  go_wp2_with fail
  refine (HL.out _).mono ?_
  rintro e w2 ⟨rfl, B2⟩
  have K2 := K1.below B2 K1.lt
  have C2 := C1.on B2
  have X2 := X1.on B2
  have Bw2 := below_step Bw B2
  clear a0 a1 a2 a3 a4 a5 a6 a7 a8 K1 C1 X1 Bw B2
  obtain ⟨a0, a1, a2, a3, a4, a5, a6, a7, a8⟩ := K2.at9
  go_wp2_with fail
  refine (HCT.out _).mono ?_
  rintro e w3 ⟨rfl, B3⟩
  have K3 := K2.below B3 K2.lt
  have C3 := C2.on B3
  have X3 := X2.on B3
  have Bw3 := below_step Bw2 B3
  clear a0 a1 a2 a3 a4 a5 a6 a7 a8 K2 C2 X2 Bw2 B3
  obtain ⟨a0, a1, a2, a3, a4, a5, a6, a7, a8⟩ := K3.at9
  go_wp2_with fail
  refine (below2 AA M cA _ n _ C3.iA (by omega) ?_).mono ?_
  · intro x hx
    obtain ⟨k, hk⟩ := List.getElem?_of_mem hx
    have hkM : k < M := by have := (List.getElem?_eq_some_iff.1 hk).1; rw [tab_len] at this; exact this
    rw [tab_at hkM] at hk
    injection hk with hk
    have := HIC.out k hkM
    omega
  rintro e w4 ⟨rfl, rfl⟩
  go_wp2_with fail
  refine (HBA.out _ C3 X3).mono ?_
  rintro e w5 ⟨rfl, B5⟩
  cases r with
  | false =>
    go_wp2_with fail
    go_ret2
    exact ⟨⟨_, rfl⟩, below_step Bw3 B5⟩
  | true =>
  have K5 := K3.below B5 K3.lt
  have C5 := C3.on B5
  have X5 := X3.on B5
  have Bw5 := below_step Bw3 B5
  have hz5 := K5.lt
  clear a0 a1 a2 a3 a4 a5 a6 a7 a8 K3 C3 X3 Bw3 B5
  obtain ⟨a0, a1, a2, a3, a4, a5, a6, a7, a8⟩ := K5.at9
  go_wp2_with fail
  have Y5 : Blk (w5.alloc (.cells (ivs (List.replicate n 0)) 2)) w5.heap.size 2 (ivs (List.replicate n 0)) := Blk.new rfl
  refine (HL.out _).mono ?_
  rintro e w6 ⟨rfl, B6⟩
  have K6 := (K5.alloc (.cells (ivs (List.replicate n 0)) 2)).below B6 (K5.alloc _).lt
  have B56 : Below w5.heap.size w5 w6 := (below_alloc _).trans (B6.mono (by simp))
  have C6 := C5.below B56
  have X6 := X5.below B56
  have Y6 := Y5.below B6 Y5.lt
  have Bw6 := below_step Bw5 B56
  clear a0 a1 a2 a3 a4 a5 a6 a7 a8 K5 C5 X5 Bw5 B6 Y5 B56
  go_wp2_with fail
  go_loopw [9, 40] (fun _ i wr => ∃ (k : Nat) (F : List Int), k ≤ M ∧ i = .int .i64 k ∧ F.length = n ∧ Blk wr w5.heap.size 2 (ivs F) ∧ PIn wr w5.heap.size N M ⟨AF, cF, AH, cH, AR, cR, AC, cC, AA, cA, AB, cB⟩ fst hd rv ai cp bk ∧ Ints wr w5.heap.size AX M X ∧
      Blk wr w.heap.size 32 #[.int .i64 N, .int .i64 s, .int .i64 t, .slice AF (N + 1) cF, .slice AH M cH, .slice AR M cR, .slice AC M cC, .slice AA M cA, .slice AB M cB] ∧ Below w.heap.size w wr) (fun _ i _ => M - (intOf i).toNat)
  case atStart => exact ⟨0, _, Nat.zero_le _, rfl, List.length_replicate, Y6, C6, X6, K6, Bw6⟩
  case round =>
    clear Y6 C6 X6 K6 Bw6
    obtain ⟨k, F, hk, rfl, hFl, Y6, C6, X6, K6, Bw6⟩ := hrel
    obtain ⟨a0, a1, a2, a3, a4, a5, a6, a7, a8⟩ := K6.at9
    by_cases hlt : k < M
    · obtain ⟨bf, off, x, rfl, hbf, hfx, hcx⟩ := intl_at X6 (k := k) hlt
      obtain ⟨bA, oA, hA⟩ := C6.iA.adr (by omega)
      obtain ⟨bB, oB, hB, hbB, cb⟩ := tab_bool C6.iB hlt
      dsimp only at hA hB
      subst hA; subst hB
      obtain ⟨hbA, ca⟩ := tab_cell C6.iA hlt
      have hil := HIC.out k hlt
      clear hfx
      obtain ⟨i, hi⟩ : ∃ i, ai k = i := ⟨_, rfl⟩
      obtain ⟨b, hb⟩ : ∃ b, bk k = b := ⟨_, rfl⟩
      rw [hi] at ca hil
      rw [hb] at cb
      clear hi hb
      have hin : (i : Int) < (n : Int) := by omega
      cases b with
      | false =>
        go_wp2_with fail
        go_roundw
        case rel => exact ⟨k + 1, F, by omega, by go_num, hFl, Y6, C6, X6, K6, Bw6⟩
        case measure => simp [intOf]; omega
      | true =>
        obtain ⟨y1, hy1⟩ : ∃ y, F[i]? = some y := ⟨_, List.getElem?_eq_getElem (by omega)⟩
        have c1 := Y6.iat hy1
        have d1 := Y6.frozen i
        have n1 : w5.heap.size ≠ w.heap.size := by omega
        have n2 : w5.heap.size ≠ bA := by omega
        have n3 : w5.heap.size ≠ bf := by omega
        have HX4 := Lib.hid Y6; have HC := Lib.hid C6; have HF := Lib.hid X6; have HK := Lib.hid K6; have HB := Lib.hid Bw6; have HFL := Lib.hid hFl
        clear Y6 C6 X6 K6 Bw6 hy1 hFl
        go_wp2_with fail
        go_region_held3 (fun W => W.cell? ⟨w.heap.size, 7, none⟩ = some (.slice (some ⟨bA, oA, none⟩) M cA) ∧ W.cell? ⟨bA, oA + k, none⟩ = some (.int .i64 (i : Int)) ∧ W.cell? ⟨bf, off + k, none⟩ = some (.int .i64 x)) (go_keep) (first | fail)
        go_wp2_with fail
        go_roundw
        case rel =>
          have hb2 : Below w5.heap.size wr (wr.setCell ⟨w5.heap.size, i, none⟩ (.int .i64 x)).drew := ((Below.refl _ _).setCell (by simp) _).drew
          exact ⟨k + 1, F.set i x, by omega, by go_num, by simp [HFL.out], (HX4.out.iset i x).drew, HC.out.below hb2, HF.out.below hb2, HK.out.below hb2 (by omega), HB.out.trans (hb2.mono (by omega))⟩
        case measure => simp [intOf]; omega
    · go_wp2_with fail
      go_ret2
      exact ⟨⟨_, rfl⟩, Bw6⟩

set_option maxHeartbeats 4000000 in
theorem within_is (N M s t : Nat) (K : CsrS) (fst hd rv ai : Nat → Nat) (cp : Nat → Int) (bk : Nat → Bool) (AX : Option Addr) (cX : Nat) (X : List Int) (r : Bool) (w : World) (hG : PNet N M s t fst hd rv ai cp bk) (hI : PIn w w.heap.size N M K fst hd rv ai cp bk)
    (hX : Ints w w.heap.size AX M X) (hXR : ∀ x ∈ X, InR x) (hr : r = true ↔ Bal M rv cp X) :
    Calls Try.prog 49 #[csrW N M s t K, .slice AX M cX] w fun e w' => e = .returned (.bool r) ∧ Below w.heap.size w w' := by
  have hr2 : r = true ↔ BalN M rv cp bk X M := hr.trans (balN_iff hG hX.len).symm
  have hM := hG.nM
  have hai := hG.aib
  have hfl := fun (n : Nat) W (h : PIn W W.heap.size N M K fst hd rv ai cp bk) (hX : Ints W W.heap.size AX M X) => flow2 N M s t n K fst hd rv ai cp bk AX cX X r W hG h hX hXR hr2
  have HFL := Lib.hid hfl; have HAI := Lib.hid hai; have HI := Lib.hid hI; have HX := Lib.hid hX
  clear hfl hai hr hr2 hXR hG hI hX
  obtain ⟨AF, cF, AH, cH, AR, cR, AC, cC, AA, cA, AB, cB⟩ := K
  dsimp only [csrW] at HFL ⊢
  go_enter Try.func49, Try.ntmps49
  go_wp2_with fail
  obtain ⟨w1, hw1⟩ : ∃ w1, w.alloc (.cells #[.int .i64 (N : Int), .int .i64 (s : Int), .int .i64 (t : Int), .slice AF (N + 1) cF, .slice AH M cH, .slice AR M cR, .slice AC M cC, .slice AA M cA, .slice AB M cB] 32) = w1 := ⟨_, rfl⟩
  have K1 : Blk w1 w.heap.size 32 #[.int .i64 N, .int .i64 s, .int .i64 t, .slice AF (N + 1) cF, .slice AH M cH, .slice AR M cR, .slice AC M cC, .slice AA M cA, .slice AB M cB] := by rw [← hw1]; exact Blk.new rfl
  have Bw : Below w.heap.size w w1 := by rw [← hw1]; exact below_alloc _
  have C1 := HI.out.on Bw
  have X1 := HX.out.on Bw
  rw [hw1]
  clear hw1
  obtain ⟨a0, a1, a2, a3, a4, a5, a6, a7, a8⟩ := K1.at9
  go_wp2_with fail
  go_loopw [5, 7, 13] (fun x _ i wr => ∃ (k n : Nat), k ≤ M ∧ i = .int .i64 k ∧ x = .int .i64 n ∧ n ≤ 16384 ∧ (∀ a, a < k → ai a < n) ∧ wr = w1) (fun _ _ i _ => M - (intOf i).toNat)
  case atStart => exact ⟨0, 0, Nat.zero_le _, rfl, rfl, Nat.zero_le _, fun a h => absurd h (by omega), rfl⟩
  case round =>
    obtain ⟨k, n, hk, rfl, rfl, hn, hal, rfl⟩ := hrel
    have HAL := Lib.hid hal; clear hal
    by_cases hlt : k < M
    · obtain ⟨bA, oA, hA⟩ := C1.iA.adr (by omega)
      dsimp only at hA
      subst hA
      obtain ⟨hbA, ca⟩ := tab_cell C1.iA hlt
      have hil := HAI.out k hlt
      go_wp2_with fail
      go_roundw
      case rel => exact ⟨k + 1, max n (ai k + 1), by omega, by go_num, by go_num, by omega, fun a h => by
          by_cases e : a = k
          · subst e; omega
          · have := HAL.out a (by omega); omega, trivial⟩
      case measure => simp [intOf]; omega
    · obtain rfl : k = M := by omega
      go_wp2_with fail
      refine (HFL.out n _ C1 X1 hn HAL.out).mono ?_
      rintro e w2 ⟨⟨v, rfl⟩, B2⟩
      have Bw2 := below_step Bw B2
      cases r with
      | false =>
        go_wp2_with fail
        go_ret
        exact ⟨rfl, Bw2⟩
      | true =>
        go_wp2_with fail
        go_ret
        exact ⟨rfl, Bw2⟩

end Go.Proofs.Ytgjokddcaadjdaa
