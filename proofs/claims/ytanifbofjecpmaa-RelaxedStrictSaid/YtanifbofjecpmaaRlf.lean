/- Layer 9: relaxed's isIndex, fit, ends: a residual arc's two ends. -/
import Derived.Test.YtanifbofjecpmaaTaio
import Derived.Test.YtanifbofjecpmaaRlp
namespace Go.Proofs.Ytanifbofjecpmaa
open Go.RowKit
set_option maxRecDepth 100000

set_option maxHeartbeats 400000 in
theorem rix_any (i n : Int) (w : World) : Calls Try.prog 67 #[.int .i64 i, .int .i64 n] w fun e w' => e = .returned (.bool (decide (0 ≤ i ∧ i < n))) ∧ w' = w := by
  by_cases h1 : 0 ≤ i
  · by_cases h2 : i < n
    · rw [decide_eq_true (show 0 ≤ i ∧ i < n from ⟨h1, h2⟩)]
      go_enter Try.func67, Try.ntmps67
      go_wp2
      go_ret
      exact ⟨rfl, rfl⟩
    · rw [decide_eq_false (show ¬ (0 ≤ i ∧ i < n) from fun h => h2 h.2)]
      go_enter Try.func67, Try.ntmps67
      go_wp2
      go_ret
      exact ⟨rfl, rfl⟩
  · rw [decide_eq_false (show ¬ (0 ≤ i ∧ i < n) from fun h => h1 h.1)]
    go_enter Try.func67, Try.ntmps67
    go_wp2
    go_ret
    exact ⟨rfl, rfl⟩

set_option maxHeartbeats 2000000 in
theorem rfit_is (N M s t : Nat) (K : CsrS) (nX nE nH : Nat) (Q : PreS) (w : World) (hN : N ≤ 4096) (r : Bool) (hr : decide (nX = M ∧ nE = N ∧ nH = N) = r) :
    Calls Try.prog 31 #[csrW N M s t K, preW nX nE nH Q] w fun e w' => e = .returned (.bool r) ∧ Below w.heap.size w w' := by
  have hlen := fun W => len2_any N M s t K W
  have HL := Lib.hid hlen
  have HR := Lib.hid hr
  obtain ⟨AF, cF, AH, cH, AR, cR, AC, cC, AA, cA, AB, cB⟩ := K
  obtain ⟨AX, cX, AE, cE, AHH, cHH⟩ := Q
  dsimp only [csrW, preW] at HL ⊢
  have h1 : IntKind.i64.wrap ((N : Int) + 1 - 1) = (N : Int) := by rw [IntKind.wrap_i64]; omega
  have h2 : ((M : Int) == (M : Int)) = true := by simp
  clear hlen hr
  obtain ⟨b1, hb1⟩ : ∃ b, decide (nX = M) = b := ⟨_, rfl⟩
  obtain ⟨b2, hb2⟩ : ∃ b, decide (nE = N) = b := ⟨_, rfl⟩
  obtain ⟨b3, hb3⟩ : ∃ b, decide (nH = N) = b := ⟨_, rfl⟩
  have hr : (b1 && b2 && b3) = r := by
    rw [← HR.out, ← hb1, ← hb2, ← hb3]
    by_cases e1 : nX = M <;> by_cases e2 : nE = N <;> by_cases e3 : nH = N <;> simp [e1, e2, e3]
  have i1 : ((nX : Int) == (M : Int)) = b1 := by rw [← hb1]; by_cases e : nX = M <;> simp [e]; omega
  have i2 : ((nE : Int) == (N : Int)) = b2 := by rw [← hb2]; by_cases e : nE = N <;> simp [e]; omega
  have i3 : ((nH : Int) == (N : Int)) = b3 := by rw [← hb3]; by_cases e : nH = N <;> simp [e]; omega
  clear hb1 hb2 hb3
  have HRR := Lib.hid hr
  clear hr HR
  go_enter Try.func31, Try.ntmps31
  go_wp2_with fail
  obtain ⟨w1, hw1⟩ : ∃ w1, ((w.alloc (.cells #[.int .i64 (N : Int), .int .i64 (s : Int), .int .i64 (t : Int), .slice AF (N + 1) cF, .slice AH M cH, .slice AR M cR, .slice AC M cC, .slice AA M cA, .slice AB M cB] 32)).alloc (.cells #[.slice AX nX cX, .slice AE nE cE, .slice AHH nH cHH] 29)) = w1 := ⟨_, rfl⟩
  have B1 : Below w.heap.size w w1 := by rw [← hw1]; exact ((Below.refl _ w).alloc (Nat.le_refl _) _).alloc (by simp) _
  have C1 : Blk w1 w.heap.size 32 #[.int .i64 (N : Int), .int .i64 (s : Int), .int .i64 (t : Int), .slice AF (N + 1) cF, .slice AH M cH, .slice AR M cR, .slice AC M cC, .slice AA M cA, .slice AB M cB] := by rw [← hw1]; exact (Blk.new rfl).alloc _
  have P1 : Blk w1 (w.heap.size + 1) 29 #[.slice AX nX cX, .slice AE nE cE, .slice AHH nH cHH] := by rw [← hw1]; exact Blk.new (by simp)
  rw [hw1]
  clear hw1
  refine (HL.out _).mono ?_
  rintro e w2 ⟨rfl, B2⟩
  have C2 := C1.below B2 C1.lt; have P2 := P1.below B2 P1.lt
  have Bw := below_step B1 B2
  obtain ⟨a0, a1, a2, a3, a4, a5, a6, a7, a8⟩ := C2.at9
  have p0 := P2.cell 0; have p1 := P2.cell 1; have p2 := P2.cell 2
  simp only [List.getElem?_toArray, List.getElem?_cons_zero, List.getElem?_cons_succ] at p0 p1 p2
  have hz1 := C2.lt; have hz2 := P2.lt
  clear C1 P1 C2 P2 B1 B2
  cases b1
  · go_wp2_with fail
    go_ret
    exact ⟨by rw [← HRR.out]; rfl, Bw⟩
  cases b2
  · go_wp2_with fail
    go_ret
    exact ⟨by rw [← HRR.out]; rfl, Bw⟩
  go_wp2_with fail
  go_ret
  exact ⟨by rw [← HRR.out]; simp, Bw⟩


set_option maxHeartbeats 4000000 in
theorem rends_yes (N M s t a : Nat) (K : CsrS) (fst hd rv : Nat → Nat) (w : World) (hG : Grid N M fst hd rv) (hI : GridIn w w.heap.size N M K fst hd rv) (ha : a < M) :
    Calls Try.prog 92 #[csrW N M s t K, .int .i64 (a : Int)] w fun e w' => e = .returned (.tuple #[.int .i64 (hd (rv a) : Int), .int .i64 (hd a : Int), .bool true]) ∧ Below w.heap.size w w' := by
  have htail := fun W hb => tail2_yes N M s t a K fst hd rv W hG (hI.on (w' := W) hb) ha
  have HT := Lib.hid htail
  have hlen := fun W => len2_any N M s t K W
  have HL := Lib.hid hlen
  obtain ⟨bH, oH, hH⟩ := hI.iH.adr (by omega)
  obtain ⟨hbH, ch⟩ := tab_cell (hH ▸ hI.iH) ha
  obtain ⟨v, hv⟩ : ∃ v, hd (rv a) = v := ⟨_, rfl⟩
  obtain ⟨u, hu⟩ : ∃ u, hd a = u := ⟨_, rfl⟩
  have hvN : v < N := by rw [← hv]; exact hG.hdl _ (hG.rvl a ha)
  have huN : u < N := by rw [← hu]; exact hG.hdl _ ha
  have x1 := fun W => rix_any (a : Int) (M : Int) W
  have x2 := fun W => rix_any (v : Int) (N : Int) W
  have x3 := fun W => rix_any (u : Int) (N : Int) W
  rw [decide_eq_true (show 0 ≤ (a : Int) ∧ (a : Int) < (M : Int) by omega)] at x1
  rw [decide_eq_true (show 0 ≤ (v : Int) ∧ (v : Int) < (N : Int) by omega)] at x2
  rw [decide_eq_true (show 0 ≤ (u : Int) ∧ (u : Int) < (N : Int) by omega)] at x3
  have HX1 := Lib.hid x1; have HX2 := Lib.hid x2; have HX3 := Lib.hid x3
  obtain ⟨AF, cF, AH, cH, AR, cR, AC, cC, AA, cA, AB, cB⟩ := K
  dsimp only [csrW] at hH HT HL ⊢
  subst hH
  rw [hv] at HT ⊢
  rw [hu] at ch ⊢
  clear x1 x2 x3 htail hlen hI hG hv hu
  go_enter Try.func92, Try.ntmps92
  go_wp2_with fail
  obtain ⟨w1, hw1⟩ : ∃ w1, (w.alloc (.cells #[.int .i64 (N : Int), .int .i64 (s : Int), .int .i64 (t : Int), .slice AF (N + 1) cF, .slice (some ⟨bH, oH, none⟩) M cH, .slice AR M cR, .slice AC M cC, .slice AA M cA, .slice AB M cB] 32)) = w1 := ⟨_, rfl⟩
  have B1 : Below w.heap.size w w1 := by rw [← hw1]; exact (Below.refl _ w).alloc (Nat.le_refl _) _
  have C1 : Blk w1 w.heap.size 32 #[.int .i64 (N : Int), .int .i64 (s : Int), .int .i64 (t : Int), .slice AF (N + 1) cF, .slice (some ⟨bH, oH, none⟩) M cH, .slice AR M cR, .slice AC M cC, .slice AA M cA, .slice AB M cB] := by rw [← hw1]; exact Blk.new rfl
  rw [hw1]
  clear hw1
  refine (HT.out _ B1).mono ?_
  rintro e w2 ⟨rfl, B2⟩
  have C2 := C1.below B2 C1.lt
  have Bw := below_step B1 B2
  replace ch : w2.cell? ⟨bH, oH + a, none⟩ = some (.int .i64 (u : Int)) := (Bw.cell (p := ⟨bH, oH + a, none⟩) hbH).trans ch
  have hz2 := C2.lt
  have hbz : bH < w2.heap.size := by have := Bw.size; omega
  have hkeep : ∀ W', Below w2.heap.size w2 W' → Below w2.heap.size w2 W' ∧ W'.cell? ⟨w.heap.size, 0, none⟩ = some (.int .i64 (N : Int)) ∧ W'.cell? ⟨w.heap.size, 1, none⟩ = some (.int .i64 (s : Int)) ∧ W'.cell? ⟨w.heap.size, 2, none⟩ = some (.int .i64 (t : Int)) ∧ W'.cell? ⟨w.heap.size, 3, none⟩ = some (.slice AF (N + 1) cF) ∧ W'.cell? ⟨w.heap.size, 4, none⟩ = some (.slice (some ⟨bH, oH, none⟩) M cH) ∧ W'.cell? ⟨w.heap.size, 5, none⟩ = some (.slice AR M cR) ∧ W'.cell? ⟨w.heap.size, 6, none⟩ = some (.slice AC M cC) ∧ W'.cell? ⟨w.heap.size, 7, none⟩ = some (.slice AA M cA) ∧ W'.cell? ⟨w.heap.size, 8, none⟩ = some (.slice AB M cB) ∧ W'.cell? ⟨bH, oH + a, none⟩ = some (.int .i64 (u : Int)) := fun W' hb => by
    obtain ⟨a0, a1, a2, a3, a4, a5, a6, a7, a8⟩ := (C2.below hb C2.lt).at9
    exact ⟨hb, a0, a1, a2, a3, a4, a5, a6, a7, a8, (hb.cell (p := ⟨bH, oH + a, none⟩) hbz).trans ch⟩
  have HKEEP := Lib.hid hkeep
  have HBw := Lib.hid Bw
  clear hkeep C1 C2 B1 B2 HT ch Bw
  go_wp2_with fail

  refine wp_region_held_drew (S := fun W' => Below w2.heap.size w2 W' ∧ W'.cell? ⟨w.heap.size, 0, none⟩ = some (.int .i64 (N : Int)) ∧ W'.cell? ⟨w.heap.size, 1, none⟩ = some (.int .i64 (s : Int)) ∧ W'.cell? ⟨w.heap.size, 2, none⟩ = some (.int .i64 (t : Int)) ∧ W'.cell? ⟨w.heap.size, 3, none⟩ = some (.slice AF (N + 1) cF) ∧ W'.cell? ⟨w.heap.size, 4, none⟩ = some (.slice (some ⟨bH, oH, none⟩) M cH) ∧ W'.cell? ⟨w.heap.size, 5, none⟩ = some (.slice AR M cR) ∧ W'.cell? ⟨w.heap.size, 6, none⟩ = some (.slice AC M cC) ∧ W'.cell? ⟨w.heap.size, 7, none⟩ = some (.slice AA M cA) ∧ W'.cell? ⟨w.heap.size, 8, none⟩ = some (.slice AB M cB) ∧ W'.cell? ⟨bH, oH + a, none⟩ = some (.int .i64 (u : Int))) (by kernel_rfl) (HKEEP.out _ (Below.refl _ _).drew) (fun hS0 => ?_)
  refine tk (v := ?_) 0 15 rfl ?_ ?_
  rotate_left
  · (intro W hSw; obtain ⟨-, a0, a1, a2, a3, a4, a5, a6, a7, a8, ch⟩ := hSw; go_simp; try with_reducible rfl)
  simp only [Act.put, pa, pz, ps]
  refine tk (v := ?_) 1 16 rfl ?_ ?_
  rotate_left
  · (intro W hSw; obtain ⟨-, a0, a1, a2, a3, a4, a5, a6, a7, a8, ch⟩ := hSw; go_simp; try with_reducible rfl)
  simp only [Act.put, pa, pz, ps]
  refine tk (v := ?_) 2 17 rfl ?_ ?_
  rotate_left
  · (intro W hSw; obtain ⟨-, a0, a1, a2, a3, a4, a5, a6, a7, a8, ch⟩ := hSw; go_simp; try with_reducible rfl)
  simp only [Act.put, pa, pz, ps]
  first
    | (refine tk (v := ?_) 3 18 rfl ?_ ?_
       rotate_left
       · (intro W hSw; obtain ⟨-, a0, a1, a2, a3, a4, a5, a6, a7, a8, ch⟩ := hSw; go_simp; try with_reducible rfl))
    | (refine tu 3 18 rfl ?_)
  simp only [Act.put, pa, pz, ps]
  first
    | (refine tk (v := ?_) 4 19 rfl ?_ ?_
       rotate_left
       · (intro W hSw; obtain ⟨-, a0, a1, a2, a3, a4, a5, a6, a7, a8, ch⟩ := hSw; go_simp; try with_reducible rfl))
    | (refine tu 4 19 rfl ?_)
  simp only [Act.put, pa, pz, ps]
  refine wpAnyH_ready (rs := [5]) (by kernel_rfl) (by simp) ?_
  refine AllReadyH.cons rfl (fun K hK => ?_) AllReadyH.nil
  go_simp
  first
    | (go_at_call 66; go_split_ands; ((with_reducible refine (HL.out _).mono ?_); rintro e W8 ⟨rfl, B8⟩); refine hK.out _ _ (by first | assumption | exact HKEEP.out _ (by refine below_step ?_ B8; assumption)) (fun hS6 => ?_))
    | (refine hK.out _ _ (by assumption) (fun hS6 => ?_))
  clear hK K
  try simp only [Act.put, pa, pz, ps]
  refine wpAnyH_ready (rs := [6]) (by kernel_rfl) (by simp) ?_
  refine AllReadyH.cons rfl (fun K hK => ?_) AllReadyH.nil
  go_simp
  first
    | (go_at_call 67; go_split_ands; ((with_reducible refine (HX1.out _).mono ?_); rintro e W8 ⟨rfl, rfl⟩); refine hK.out _ _ (by first | assumption | exact HKEEP.out _ (by refine below_step ?_ B8; assumption)) (fun hS7 => ?_))
    | (go_at_call 67; go_split_ands; ((with_reducible refine (HX2.out _).mono ?_); rintro e W8 ⟨rfl, rfl⟩); refine hK.out _ _ (by first | assumption | exact HKEEP.out _ (by refine below_step ?_ B8; assumption)) (fun hS7 => ?_))
    | (go_at_call 67; go_split_ands; ((with_reducible refine (HX3.out _).mono ?_); rintro e W8 ⟨rfl, rfl⟩); refine hK.out _ _ (by first | assumption | exact HKEEP.out _ (by refine below_step ?_ B8; assumption)) (fun hS7 => ?_))
    | (refine hK.out _ _ (by assumption) (fun hS7 => ?_))
  clear hK K
  try simp only [Act.put, pa, pz, ps]
  first
    | (refine tk (v := ?_) 7 22 rfl ?_ ?_
       rotate_left
       · (intro W hSw; obtain ⟨-, a0, a1, a2, a3, a4, a5, a6, a7, a8, ch⟩ := hSw; go_simp; try with_reducible rfl))
    | (refine tu 7 22 rfl ?_)
  simp only [Act.put, pa, pz, ps]
  refine tk (v := ?_) 8 23 rfl ?_ ?_
  rotate_left
  · (intro W hSw; obtain ⟨-, a0, a1, a2, a3, a4, a5, a6, a7, a8, ch⟩ := hSw; go_simp; try with_reducible rfl)
  simp only [Act.put, pa, pz, ps]
  refine tk (v := ?_) 9 24 rfl ?_ ?_
  rotate_left
  · (intro W hSw; obtain ⟨-, a0, a1, a2, a3, a4, a5, a6, a7, a8, ch⟩ := hSw; go_simp; try with_reducible rfl)
  simp only [Act.put, pa, pz, ps]
  first
    | (refine tk (v := ?_) 10 25 rfl ?_ ?_
       rotate_left
       · (intro W hSw; obtain ⟨-, a0, a1, a2, a3, a4, a5, a6, a7, a8, ch⟩ := hSw; go_simp; try with_reducible rfl))
    | (refine tu 10 25 rfl ?_)
  simp only [Act.put, pa, pz, ps]
  first
    | (refine tk (v := ?_) 11 26 rfl ?_ ?_
       rotate_left
       · (intro W hSw; obtain ⟨-, a0, a1, a2, a3, a4, a5, a6, a7, a8, ch⟩ := hSw; go_simp; try with_reducible rfl))
    | (refine tu 11 26 rfl ?_)
  simp only [Act.put, pa, pz, ps]
  first
    | (refine tk (v := ?_) 12 27 rfl ?_ ?_
       rotate_left
       · (intro W hSw; obtain ⟨-, a0, a1, a2, a3, a4, a5, a6, a7, a8, ch⟩ := hSw; go_simp; try with_reducible rfl))
    | (refine tu 12 27 rfl ?_)
  simp only [Act.put, pa, pz, ps]
  refine wpAnyH_ready (rs := [13]) (by kernel_rfl) (by simp) ?_
  refine AllReadyH.cons rfl (fun K hK => ?_) AllReadyH.nil
  go_simp
  first
    | (go_at_call 67; go_split_ands; ((with_reducible refine (HX1.out _).mono ?_); rintro e W8 ⟨rfl, rfl⟩); refine hK.out _ _ (by first | assumption | exact HKEEP.out _ (by refine below_step ?_ B8; assumption)) (fun hS14 => ?_))
    | (go_at_call 67; go_split_ands; ((with_reducible refine (HX2.out _).mono ?_); rintro e W8 ⟨rfl, rfl⟩); refine hK.out _ _ (by first | assumption | exact HKEEP.out _ (by refine below_step ?_ B8; assumption)) (fun hS14 => ?_))
    | (go_at_call 67; go_split_ands; ((with_reducible refine (HX3.out _).mono ?_); rintro e W8 ⟨rfl, rfl⟩); refine hK.out _ _ (by first | assumption | exact HKEEP.out _ (by refine below_step ?_ B8; assumption)) (fun hS14 => ?_))
    | (refine hK.out _ _ (by assumption) (fun hS14 => ?_))
  clear hK K
  try simp only [Act.put, pa, pz, ps]
  first
    | (refine tk (v := ?_) 14 29 rfl ?_ ?_
       rotate_left
       · (intro W hSw; obtain ⟨-, a0, a1, a2, a3, a4, a5, a6, a7, a8, ch⟩ := hSw; go_simp; try with_reducible rfl))
    | (refine tu 14 29 rfl ?_)
  simp only [Act.put, pa, pz, ps]
  refine tk (v := ?_) 15 30 rfl ?_ ?_
  rotate_left
  · (intro W hSw; obtain ⟨-, a0, a1, a2, a3, a4, a5, a6, a7, a8, ch⟩ := hSw; go_simp; try with_reducible rfl)
  simp only [Act.put, pa, pz, ps]
  refine tk (v := ?_) 16 31 rfl ?_ ?_
  rotate_left
  · (intro W hSw; obtain ⟨-, a0, a1, a2, a3, a4, a5, a6, a7, a8, ch⟩ := hSw; go_simp; try with_reducible rfl)
  simp only [Act.put, pa, pz, ps]
  first
    | (refine tk (v := ?_) 17 32 rfl ?_ ?_
       rotate_left
       · (intro W hSw; obtain ⟨-, a0, a1, a2, a3, a4, a5, a6, a7, a8, ch⟩ := hSw; go_simp; try with_reducible rfl))
    | (refine tu 17 32 rfl ?_)
  simp only [Act.put, pa, pz, ps]
  first
    | (refine tk (v := ?_) 18 33 rfl ?_ ?_
       rotate_left
       · (intro W hSw; obtain ⟨-, a0, a1, a2, a3, a4, a5, a6, a7, a8, ch⟩ := hSw; go_simp; try with_reducible rfl))
    | (refine tu 18 33 rfl ?_)
  simp only [Act.put, pa, pz, ps]
  first
    | (refine tk (v := ?_) 19 34 rfl ?_ ?_
       rotate_left
       · (intro W hSw; obtain ⟨-, a0, a1, a2, a3, a4, a5, a6, a7, a8, ch⟩ := hSw; go_simp; try with_reducible rfl))
    | (refine tu 19 34 rfl ?_)
  simp only [Act.put, pa, pz, ps]
  first
    | (refine tk (v := ?_) 20 35 rfl ?_ ?_
       rotate_left
       · (intro W hSw; obtain ⟨-, a0, a1, a2, a3, a4, a5, a6, a7, a8, ch⟩ := hSw; go_simp; try with_reducible rfl))
    | (refine tu 20 35 rfl ?_)
  simp only [Act.put, pa, pz, ps]
  first
    | (refine tk (v := ?_) 21 36 rfl ?_ ?_
       rotate_left
       · (intro W hSw; obtain ⟨-, a0, a1, a2, a3, a4, a5, a6, a7, a8, ch⟩ := hSw; go_simp; try with_reducible rfl))
    | (refine tu 21 36 rfl ?_)
  simp only [Act.put, pa, pz, ps]
  first
    | (refine tk (v := ?_) 22 37 rfl ?_ ?_
       rotate_left
       · (intro W hSw; obtain ⟨-, a0, a1, a2, a3, a4, a5, a6, a7, a8, ch⟩ := hSw; go_simp; try with_reducible rfl))
    | (refine tu 22 37 rfl ?_)
  simp only [Act.put, pa, pz, ps]
  first
    | (refine tk (v := ?_) 23 38 rfl ?_ ?_
       rotate_left
       · (intro W hSw; obtain ⟨-, a0, a1, a2, a3, a4, a5, a6, a7, a8, ch⟩ := hSw; go_simp; try with_reducible rfl))
    | (refine tu 23 38 rfl ?_)
  simp only [Act.put, pa, pz, ps]
  refine wpAnyH_ready (rs := [24]) (by kernel_rfl) (by simp) ?_
  refine AllReadyH.cons rfl (fun K hK => ?_) AllReadyH.nil
  go_simp
  first
    | (go_at_call 67; go_split_ands; ((with_reducible refine (HX1.out _).mono ?_); rintro e W8 ⟨rfl, rfl⟩); refine hK.out _ _ (by first | assumption | exact HKEEP.out _ (by refine below_step ?_ B8; assumption)) (fun hS25 => ?_))
    | (go_at_call 67; go_split_ands; ((with_reducible refine (HX2.out _).mono ?_); rintro e W8 ⟨rfl, rfl⟩); refine hK.out _ _ (by first | assumption | exact HKEEP.out _ (by refine below_step ?_ B8; assumption)) (fun hS25 => ?_))
    | (go_at_call 67; go_split_ands; ((with_reducible refine (HX3.out _).mono ?_); rintro e W8 ⟨rfl, rfl⟩); refine hK.out _ _ (by first | assumption | exact HKEEP.out _ (by refine below_step ?_ B8; assumption)) (fun hS25 => ?_))
    | (refine hK.out _ _ (by assumption) (fun hS25 => ?_))
  clear hK K
  try simp only [Act.put, pa, pz, ps]
  first
    | (refine tk (v := ?_) 25 40 rfl ?_ ?_
       rotate_left
       · (intro W hSw; obtain ⟨-, a0, a1, a2, a3, a4, a5, a6, a7, a8, ch⟩ := hSw; go_simp; try with_reducible rfl))
    | (refine tu 25 40 rfl ?_)
  simp only [Act.put, pa, pz, ps]
  refine tk (v := ?_) 26 41 rfl ?_ ?_
  rotate_left
  · (intro W hSw; obtain ⟨-, a0, a1, a2, a3, a4, a5, a6, a7, a8, ch⟩ := hSw; go_simp; try with_reducible rfl)
  simp only [Act.put, pa, pz, ps]
  refine wpAnyH_done (by kernel_rfl) ?_ _
  have BF := below_step HBw.out hS25.1
  obtain ⟨-, a0, a1, a2, a3, a4, a5, a6, a7, a8, ch⟩ := hS25
  go_wp2_with fail
  go_quiet (fail)
  go_wp2_with fail
  go_ret3
  exact ⟨rfl, below_drewN' BF _⟩

set_option maxHeartbeats 1000000 in
theorem rends_no (N M s t : Nat) (a : Int) (K : CsrS) (w : World) (ha : ¬ (0 ≤ a ∧ a < (M : Int))) :
    Calls Try.prog 92 #[csrW N M s t K, .int .i64 a] w fun e w' => e = .returned (.tuple #[.int .i64 0, .int .i64 0, .bool false]) ∧ Below w.heap.size w w' := by
  have htail := fun W => tail2_no N M s t a K W ha
  have HT := Lib.hid htail
  obtain ⟨AF, cF, AH, cH, AR, cR, AC, cC, AA, cA, AB, cB⟩ := K
  dsimp only [csrW] at HT ⊢
  clear htail ha
  go_enter Try.func92, Try.ntmps92
  go_wp2_with fail
  refine (HT.out _).mono ?_
  rintro e w2 ⟨rfl, B2⟩
  have Bw := below_step (below_alloc _) B2
  clear B2 HT
  go_wp2_with fail
  go_quiet (fail)
  go_wp2_with fail
  go_ret3
  exact ⟨rfl, below_drewN' Bw _⟩
end Go.Proofs.Ytanifbofjecpmaa
