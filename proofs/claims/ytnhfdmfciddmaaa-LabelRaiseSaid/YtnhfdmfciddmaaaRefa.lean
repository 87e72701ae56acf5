/- The document's own answer for layer 1: vertex, Sum, Check of a right net. -/
import Derived.Test.YtnhfdmfciddmaaaChecks
import Derived.Test.YtnhfdmfciddmaaaFacts
namespace Go.Proofs.Ytnhfdmfciddmaaa
open Go.RowKit
set_option maxRecDepth 100000

set_option maxHeartbeats 400000 in
theorem rvertex_any (N S T v : Int) (A : Option Addr) (n c : Nat) (w : World) :
    Calls Try.prog 52 #[.agg #[.int .i64 N, .int .i64 S, .int .i64 T, .slice A n c], .int .i64 v] w fun e w' => e = .returned (.bool (isVertB N v)) ∧ Below w.heap.size w w' := by
  go_enter Try.func52, Try.ntmps52
  go_wp2
  all_goals go_ret
  all_goals refine ⟨ret_bool ?_, below_alloc _⟩
  all_goals (simp [isVertB]; try omega)

theorem rvertex_yes {N S T v : Int} {A : Option Addr} {n c : Nat} (h : 0 ≤ v ∧ v < N) (w : World) :
    Calls Try.prog 52 #[.agg #[.int .i64 N, .int .i64 S, .int .i64 T, .slice A n c], .int .i64 v] w fun e w' => e = .returned (.bool true) ∧ Below w.heap.size w w' :=
  (rvertex_any N S T v A n c w).mono fun e w' ⟨h1, h2⟩ => ⟨by rw [h1]; simp [isVertB, h], h2⟩

set_option maxHeartbeats 1000000 in
theorem rsum_any (N S T : Int) (A : Option Addr) (n c : Nat) (l : List ArcN) (w : World) (hA : Arcs w w.heap.size A n l) (hn : n ≤ 1000000000000) :
    Calls Try.prog 53 #[.agg #[.int .i64 N, .int .i64 S, .int .i64 T, .slice A n c]] w fun e w' => e = .returned (.tuple #[.int .i64 (sumV l), .bool (sumB l)]) ∧ Below w.heap.size w w' := by
  go_enter Try.func53, Try.ntmps53
  go_wp2
  go_loopw [4, 5, 6] (fun t i v wr => ∃ (k : Nat) (s : Int), k ≤ n ∧ i = .int .i64 k ∧ t = .int .i64 s ∧ 0 ≤ s ∧ s ≤ 4611686018427387904 ∧ sumOf l = sumFrom s (l.drop k) ∧ Below w.heap.size w wr ∧ wr.cell? ⟨w.heap.size, 3, none⟩ = some (.slice A n c) ∧ w.heap.size < wr.heap.size) (fun _ i _ _ => n - (intOf i).toNat)
  case atStart => exact ⟨0, 0, Nat.zero_le _, rfl, rfl, by omega, by omega, rfl, below_alloc _, by simp, by simp⟩
  case round =>
    obtain ⟨k, s, hk, rfl, rfl, hs0, hs1, hp, hb, h3, hz⟩ := hrel
    have HP := Lib.hid hp; clear hp
    by_cases hlt : k < n
    · obtain ⟨b, off, a, rfl, hbl, hla, c0, c1, c2⟩ := arcs_at (hA.below hb) hlt
      have HL := Lib.hid hla; clear hla
      by_cases hc : a.cap < 0
      · go_wp2
        go_ret2
        have h := sum_stop HL.out HP.out (.inl hc)
        exact ⟨ret_int_bool h.1.symm h.2.symm, hb⟩
      · by_cases hc' : 4611686018427387904 - s < a.cap
        · go_wp2
          go_ret2
          have h := sum_stop HL.out HP.out (.inr hc')
          exact ⟨ret_int_bool h.1.symm h.2.symm, hb⟩
        · go_wp2
          go_roundw
          case rel => exact ⟨k + 1, s + a.cap, by omega, by go_num, rfl, by omega, by omega, sum_next HL.out HP.out hc hc', hb, h3, hz⟩
          case measure => simp [intOf]; omega
    · go_wp2
      go_ret2
      have h := sum_end hA.len hlt HP.out
      exact ⟨ret_int_bool h.1.symm h.2.symm, hb⟩

set_option maxHeartbeats 4000000 in
theorem rcheck_good (N : Nat) (S T : Int) (A : Option Addr) (n c : Nat) (l : List ArcN) (w : World) (hA : Arcs w w.heap.size A n l) (hck : checkF N S T l = 0) :
    Calls Try.prog 44 #[.agg #[.int .i64 N, .int .i64 S, .int .i64 T, .slice A n c]] w fun e w' => e = .returned (.int .i64 0) ∧ Below w.heap.size w w' := by
  obtain ⟨-, -, -, -, hcb, hsb⟩ := check_ok hck
  obtain ⟨hN2, hN3, hn3, hE, hS0, hS1, hT0, hT1, hST, hnn, -⟩ := ends_in hck
  rw [hA.len] at hn3
  have HE := Lib.hid hE; have HNN := Lib.hid hnn; have HSB := Lib.hid hsb
  have hN2' : ¬ (N : Int) < 2 := by omega
  have hN3' : ¬ (4096 : Int) < (N : Int) := by omega
  have hn3' : ¬ (16384 : Int) < (n : Int) := by omega
  have hdst : (S == T) = false := beq_false_of_ne hST
  clear hE hnn hsb hcb hck
  go_enter Try.func44, Try.ntmps44
  go_wp2_with fail
  refine (rvertex_yes ⟨hS0, hS1⟩ _).mono ?_
  rintro e w1 ⟨rfl, B1⟩
  have K1 : Blk w1 w.heap.size 24 #[.int .i64 N, .int .i64 S, .int .i64 T, .slice A n c] := (Blk.new rfl).below B1 (by simp)
  have Bw1 := below_step (below_alloc _) B1
  clear B1
  obtain ⟨r0, r1, r2, r3⟩ := K1.at4
  have hz1 := K1.lt
  go_wp2_with fail
  refine (rvertex_yes ⟨hT0, hT1⟩ _).mono ?_
  rintro e w2 ⟨rfl, B2⟩
  have K2 := K1.below B2 K1.lt
  have Bw2 := below_step Bw1 B2
  clear B2 Bw1 K1 r0 r1 r2 r3 hz1
  obtain ⟨r0, r1, r2, r3⟩ := K2.at4
  have hz2 := K2.lt
  go_wp2_with fail
  clear r0 r1 r2 r3 hz2
  have hz0 : w.heap.size ≤ w2.heap.size := Bw2.size
  go_loopw [3, 4, 5] (fun t i v wr => ∃ (k : Nat), k ≤ n ∧ i = .int .i64 k ∧ t = .bool false ∧ Below w.heap.size w wr ∧ Blk wr w.heap.size 24 #[.int .i64 N, .int .i64 S, .int .i64 T, .slice A n c]) (fun _ i _ _ => n - (intOf i).toNat)
  case atStart => exact ⟨0, Nat.zero_le _, rfl, rfl, Bw2, K2⟩
  case round =>
    obtain ⟨k, hk, rfl, rfl, hb, K⟩ := hrel
    clear K2 Bw2 hz0
    obtain ⟨r0, r1, r2, r3⟩ := K.at4
    have hzr := K.lt
    by_cases hlt : k < n
    · obtain ⟨b, off, a, rfl, hbl, hla, c0, c1, c2⟩ := arcs_at (hA.below hb) hlt
      have he := HE.out _ (mem_at hla)
      have hc0 := HNN.out _ (mem_at hla)
      have hc0' : decide (a.cap < 0) = false := decide_eq_false (by omega)
      clear hla
      go_wp2_with fail
      refine (rvertex_yes ⟨he.1, he.2.1⟩ _).mono ?_
      rintro e w3 ⟨rfl, B3⟩
      have K3 := (K.alloc (.cells #[.int .i64 a.frm, .int .i64 a.to, .int .i64 a.cap] 59)).below B3 (K.alloc _).lt
      have A3 : Blk w3 wr.heap.size 59 #[.int .i64 a.frm, .int .i64 a.to, .int .i64 a.cap] := (Blk.new rfl).below B3 (by simp)
      have Bw3 := below_step (hb.alloc hb.size (.cells #[.int .i64 a.frm, .int .i64 a.to, .int .i64 a.cap] 59)) B3
      clear B3 K r0 r1 r2 r3
      obtain ⟨r0, r1, r2, r3⟩ := K3.at4
      have q0 := A3.cell 0; have q1 := A3.cell 1; have q2 := A3.cell 2
      simp only [List.getElem?_toArray, List.getElem?_cons_zero, List.getElem?_cons_succ] at q0 q1 q2
      have hz3 := K3.lt; have hz4 := A3.lt
      go_wp2_with fail
      refine (rvertex_yes ⟨he.2.2.1, he.2.2.2⟩ _).mono ?_
      rintro e w4 ⟨rfl, B4⟩
      have K4 := K3.below B4 K3.lt
      have A4 := A3.below B4 A3.lt
      have Bw4 := below_step Bw3 B4
      clear B4 K3 A3 Bw3 r0 r1 r2 r3 q0 q1 q2 hz3 hz4
      have q2 := A4.cell 2
      simp only [List.getElem?_toArray, List.getElem?_cons_zero, List.getElem?_cons_succ] at q2
      have hz4 := A4.lt
      go_wp2_with fail
      go_roundw
      case rel => exact ⟨k + 1, by omega, by go_num, rfl, Bw4, K4⟩
      case measure => simp [intOf]; omega
    · go_wp2_with fail
      refine (rsum_any N S T A n c l _ ((hA.below hb).more hb.size) (by omega)).mono ?_
      rintro e w5 ⟨rfl, B5⟩
      rw [HSB.out]
      go_wp2_with fail
      go_ret
      exact ⟨rfl, below_step hb B5⟩

end Go.Proofs.Ytnhfdmfciddmaaa
