/- Layer 7: sound, fit. -/
import Derived.Test.YtanifbofjecpmaaVerto
namespace Go.Proofs.Ytanifbofjecpmaa
open Go.RowKit
set_option maxRecDepth 100000

set_option maxHeartbeats 1000000 in
theorem all1 (n g : Nat) (x : Int) (w : World) (K1 : Blk w g 3 #[.int .i64 (n : Int)]) (hx : 0 ≤ x ∧ x < (n : Int)) :
    Calls Try.prog 94 #[.int .i64 x, .pointer (some ⟨g, 0, none⟩)] w fun e w' => e = .returned (.bool false) ∧ Below w.heap.size w w' := by
  have c1 := K1.cell 0
  simp only [List.getElem?_toArray, List.getElem?_cons_zero] at c1
  have hz := K1.lt
  go_enter Try.func94, Try.ntmps94
  go_wp2_with fail
  refine (pindex_yes hx _).mono ?_
  rintro e w' ⟨rfl, hw⟩
  obtain rfl : _ = w' := hw.symm
  go_wp2_with fail
  go_ret
  exact ⟨rfl, Below.refl _ _⟩

set_option maxHeartbeats 1000000 in
theorem all_is (n m c : Nat) (A : Option Addr) (g : Nat → Nat) (w : World) (hA : Ints w w.heap.size A m (tab m fun a => (g a : Int))) (hm : m ≤ 100000000) (hg : ∀ a, a < m → g a < n) :
    Calls Try.prog 77 #[.slice A m c, .int .i64 (n : Int)] w fun e w' => e = .returned (.bool true) ∧ Below w.heap.size w w' := by
  have K1 : Blk (w.alloc (.cells #[.int .i64 (n : Int)] 3)) w.heap.size 3 #[.int .i64 (n : Int)] := Blk.new rfl
  have hcf := enters_of Try.func94 (by kernel_rfl) rfl
  have hcon := lconf_none 94 #[.pointer (some ⟨w.heap.size, 0, none⟩)] A m c (tab m fun a => (g a : Int)) (w.alloc (.cells #[.int .i64 (n : Int)] 3)) (hA.onAlloc _) hm (fun k x W hx hb => by
    have hk : k < m := by have := (List.getElem?_eq_some_iff.1 hx).1; rw [tab_len] at this; exact this
    rw [tab_at hk] at hx
    injection hx with hx
    subst hx
    have := hg k hk
    exact all1 n w.heap.size (g k) W (K1.below hb K1.lt) (by omega)) hcf
  have HC := Lib.hid hcon
  clear hcon hcf hA hg K1
  go_enter Try.func77, Try.ntmps77
  go_wp2_with fail
  refine HC.out.mono ?_
  rintro e w1 ⟨rfl, B1⟩
  go_wp2_with fail
  go_ret
  exact ⟨rfl, below_step (below_alloc _) B1⟩

set_option maxHeartbeats 4000000 in
theorem sound_is (N M s t : Nat) (K : CsrS) (fst hd rv : Nat → Nat) (w : World) (hG : Grid N M fst hd rv) (hI : GridIn w w.heap.size N M K fst hd rv) (hs : s < N) (ht : t < N) (hN : N ≤ 4096) (hM : M ≤ 100000000) :
    Calls Try.prog 45 #[csrW N M s t K] w fun e w' => e = .returned (.bool true) ∧ Below w.heap.size w w' := by
  have hlen := fun W => len2_any N M s t K W
  have HL := Lib.hid hlen
  have HG := Lib.hid hG; have HI := Lib.hid hI
  obtain ⟨bF, oF, hF⟩ := hI.iF.adr (by omega)
  obtain ⟨AF, cF, AH, cH, AR, cR, AC, cC, AA, cA, AB, cB⟩ := K
  dsimp only [csrW] at HL hF ⊢
  subst hF
  have hf0 : ((fst 0 : Nat) : Int) = 0 := by rw [hG.f0]; rfl
  have hfN : ((fst N : Nat) : Int) = (M : Int) := by rw [hG.fN]
  have HF0 := Lib.hid hf0; have HFN := Lib.hid hfN
  have hix : ∀ W, _ := fun W => pindex_yes (i := (s : Int)) (n := (N : Int)) (by omega) W
  have hiy : ∀ W, _ := fun W => pindex_yes (i := (t : Int)) (n := (N : Int)) (by omega) W
  have HIX := Lib.hid hix; have HIY := Lib.hid hiy
  clear hG hI hf0 hfN hlen hix hiy
  go_enter Try.func45, Try.ntmps45
  go_wp2_with fail
  refine (HL.out _).mono ?_
  rintro e w1 ⟨rfl, B1⟩
  have K1 : Blk w1 w.heap.size 32 _ := (Blk.new rfl).below B1 (by simp)
  have I1 := (HI.out.onAlloc _).on B1
  have Bw1 := below_step (below_alloc _) B1
  clear B1
  obtain ⟨a0, a1, a2, a3, a4, a5, a6, a7, a8⟩ := K1.at9
  have hz1 := K1.lt
  have c0 := tab_cell I1.iF (k := 0) (by omega)
  have cN := tab_cell I1.iF (k := N) (by omega)
  rw [HF0.out] at c0
  rw [HFN.out] at cN
  obtain ⟨hzb, c0⟩ := c0
  rw [Nat.add_zero] at c0
  obtain ⟨-, cN⟩ := cN
  have hw1 : IntKind.i64.wrap ((N : Int) + 1 - 1) = (N : Int) := by rw [show (N : Int) + 1 - 1 = N by omega]; exact wrap_in (by omega) (by omega)
  have hsub : (N : Int) + 1 - 1 = (N : Int) := by omega
  go_wp2_with fail
  refine (HIX.out _).mono ?_
  rintro e w2 ⟨rfl, hw⟩
  obtain rfl : _ = w2 := hw.symm
  go_wp2_with fail
  refine (HIY.out _).mono ?_
  rintro e w2 ⟨rfl, hw⟩
  obtain rfl : _ = w2 := hw.symm
  go_wp2_with fail
  refine (sorted_yes _ N _ fst _ I1.iF (by omega) HG.out.mono).mono ?_
  rintro e w2 ⟨rfl, B2⟩
  have K2 := K1.below B2 K1.lt
  have I2 := I1.on B2
  have Bw2 := below_step Bw1 B2
  clear B2 K1 I1 Bw1 a0 a1 a2 a3 a4 a5 a6 a7 a8 hz1 c0 cN
  obtain ⟨a0, a1, a2, a3, a4, a5, a6, a7, a8⟩ := K2.at9
  have hz1 := K2.lt
  go_wp2_with fail
  refine (all_is N M _ _ hd _ I2.iH hM HG.out.hdl).mono ?_
  rintro e w3 ⟨rfl, B3⟩
  have K3 := K2.below B3 K2.lt
  have I3 := I2.on B3
  have Bw3 := below_step Bw2 B3
  clear B3 K2 I2 Bw2 a0 a1 a2 a3 a4 a5 a6 a7 a8 hz1
  obtain ⟨a0, a1, a2, a3, a4, a5, a6, a7, a8⟩ := K3.at9
  have hz1 := K3.lt
  go_wp2_with fail
  refine (all_is M M _ _ rv _ I3.iR hM HG.out.rvl).mono ?_
  rintro e w4 ⟨rfl, B4⟩
  have Bw4 := below_step Bw3 B4
  go_wp2_with fail
  go_ret
  exact ⟨rfl, Bw4⟩

set_option maxHeartbeats 4000000 in
theorem pfit_is (N M s t : Nat) (K : CsrS) (nX nE nH : Nat) (Q : PreS) (fst hd rv : Nat → Nat) (w : World) (hG : Grid N M fst hd rv) (hI : GridIn w w.heap.size N M K fst hd rv) (hs : s < N) (ht : t < N) (hN : N ≤ 4096) (hM : M ≤ 100000000) (r : Bool) (hr : decide (nX = M ∧ nE = N ∧ nH = N) = r) :
    Calls Try.prog 49 #[csrW N M s t K, preW nX nE nH Q] w fun e w' => e = .returned (.bool r) ∧ Below w.heap.size w w' := by
  have hsnd := fun W (hb : Below w.heap.size w W) => sound_is N M s t K fst hd rv W hG (hI.on hb) hs ht hN hM
  have hlen := fun W => len2_any N M s t K W
  have HL := Lib.hid hlen; have HS := Lib.hid hsnd; have HI := Lib.hid hI; have HR := Lib.hid hr
  obtain ⟨AF, cF, AH, cH, AR, cR, AC, cC, AA, cA, AB, cB⟩ := K
  obtain ⟨AX, cX, AE, cE, AHH, cHH⟩ := Q
  dsimp only [csrW, preW] at HL HS ⊢
  clear hI hsnd hlen hr hG
  go_enter Try.func49, Try.ntmps49
  go_wp2_with fail
  obtain ⟨w1, hw1⟩ : ∃ w1, ((w.alloc (.cells #[.int .i64 (N : Int), .int .i64 (s : Int), .int .i64 (t : Int), .slice AF (N + 1) cF, .slice AH M cH, .slice AR M cR, .slice AC M cC, .slice AA M cA, .slice AB M cB] 32)).alloc (.cells #[.slice AX nX cX, .slice AE nE cE, .slice AHH nH cHH] 29)) = w1 := ⟨_, rfl⟩
  have B1 : Below w.heap.size w w1 := by rw [← hw1]; exact ((Below.refl _ w).alloc (Nat.le_refl _) _).alloc (by simp) _
  have C1 : Blk w1 w.heap.size 32 #[.int .i64 (N : Int), .int .i64 (s : Int), .int .i64 (t : Int), .slice AF (N + 1) cF, .slice AH M cH, .slice AR M cR, .slice AC M cC, .slice AA M cA, .slice AB M cB] := by rw [← hw1]; exact (Blk.new rfl).alloc _
  have P1 : Blk w1 (w.heap.size + 1) 29 #[.slice AX nX cX, .slice AE nE cE, .slice AHH nH cHH] := by rw [← hw1]; exact Blk.new (by simp)
  rw [hw1]
  clear hw1
  have hkeep : ∀ W', Below w1.heap.size w1 W' → Below w1.heap.size w1 W' ∧ W'.cell? ⟨w.heap.size, 0, none⟩ = some (.int .i64 (N : Int)) ∧ W'.cell? ⟨w.heap.size, 1, none⟩ = some (.int .i64 (s : Int)) ∧ W'.cell? ⟨w.heap.size, 2, none⟩ = some (.int .i64 (t : Int)) ∧ W'.cell? ⟨w.heap.size, 3, none⟩ = some (.slice AF (N + 1) cF) ∧ W'.cell? ⟨w.heap.size, 4, none⟩ = some (.slice AH M cH) ∧ W'.cell? ⟨w.heap.size, 5, none⟩ = some (.slice AR M cR) ∧ W'.cell? ⟨w.heap.size, 6, none⟩ = some (.slice AC M cC) ∧ W'.cell? ⟨w.heap.size, 7, none⟩ = some (.slice AA M cA) ∧ W'.cell? ⟨w.heap.size, 8, none⟩ = some (.slice AB M cB) ∧ W'.cell? ⟨w.heap.size + 1, 0, none⟩ = some (.slice AX nX cX) ∧ W'.cell? ⟨w.heap.size + 1, 1, none⟩ = some (.slice AE nE cE) ∧ W'.cell? ⟨w.heap.size + 1, 2, none⟩ = some (.slice AHH nH cHH) := fun W' hb => by
    have C2 := C1.below hb C1.lt
    have P2 := P1.below hb P1.lt
    obtain ⟨a0, a1, a2, a3, a4, a5, a6, a7, a8⟩ := C2.at9
    have p0 := P2.cell 0; have p1 := P2.cell 1; have p2 := P2.cell 2
    simp only [List.getElem?_toArray, List.getElem?_cons_zero, List.getElem?_cons_succ] at p0 p1 p2
    exact ⟨hb, a0, a1, a2, a3, a4, a5, a6, a7, a8, p0, p1, p2⟩
  have HKEEP := Lib.hid hkeep
  have hs2 := fun W (hb : Below w1.heap.size w1 W) => HS.out W (below_step B1 hb)
  have HS2 := Lib.hid hs2
  have HB1 := Lib.hid B1
  clear hkeep C1 P1 HS hs2 B1
  by_cases hx : nX = M
  · by_cases he : nE = N
    · have he2 : ((nE : Int) == (N : Int)) = true := by simp [he]
      have hx2 : ((nX : Int) == (M : Int)) = true := by simp [hx]
      obtain ⟨b, hb⟩ : ∃ b, ((nH : Int) == (N : Int)) = b := ⟨_, rfl⟩
      have hbr : b = r := by
        rw [← HR.out, ← hb]
        by_cases hh : nH = N
        · simp [hx, he, hh]
        · have : ¬ (nH : Int) = (N : Int) := by omega
          simp [hx, he, hh, this]
      have HBR := Lib.hid hbr
      clear hx he hbr
      refine wp_region_held_drew (S := fun W' => Below w1.heap.size w1 W' ∧ W'.cell? ⟨w.heap.size, 0, none⟩ = some (.int .i64 (N : Int)) ∧ W'.cell? ⟨w.heap.size, 1, none⟩ = some (.int .i64 (s : Int)) ∧ W'.cell? ⟨w.heap.size, 2, none⟩ = some (.int .i64 (t : Int)) ∧ W'.cell? ⟨w.heap.size, 3, none⟩ = some (.slice AF (N + 1) cF) ∧ W'.cell? ⟨w.heap.size, 4, none⟩ = some (.slice AH M cH) ∧ W'.cell? ⟨w.heap.size, 5, none⟩ = some (.slice AR M cR) ∧ W'.cell? ⟨w.heap.size, 6, none⟩ = some (.slice AC M cC) ∧ W'.cell? ⟨w.heap.size, 7, none⟩ = some (.slice AA M cA) ∧ W'.cell? ⟨w.heap.size, 8, none⟩ = some (.slice AB M cB) ∧ W'.cell? ⟨w.heap.size + 1, 0, none⟩ = some (.slice AX nX cX) ∧ W'.cell? ⟨w.heap.size + 1, 1, none⟩ = some (.slice AE nE cE) ∧ W'.cell? ⟨w.heap.size + 1, 2, none⟩ = some (.slice AHH nH cHH)) (by kernel_rfl) (HKEEP.out _ (Below.refl _ _).drew) (fun hS0 => ?_)
      refine tk (v := ?_) 0 5 rfl ?_ ?_
      rotate_left
      · (intro W hSw; go_split_ands; go_simp; try with_reducible rfl)
      simp only [Act.put, pa, pz, ps]
      refine wpAnyH_ready (rs := [1]) (by kernel_rfl) (by simp) ?_
      refine AllReadyH.cons rfl (fun K hK => ?_) AllReadyH.nil
      go_simp
      first
        | (go_at_call 45; go_split_ands; ((with_reducible refine (HS2.out _ (by assumption)).mono ?_); rintro e W8 ⟨rfl, B8⟩); refine hK.out _ _ (HKEEP.out _ (by refine below_step ?_ B8; assumption)) (fun hS2 => ?_))
      clear hK K
      try simp only [Act.put, pa, pz, ps]
      refine tk (v := ?_) 2 7 rfl ?_ ?_
      rotate_left
      · (intro W hSw; go_split_ands; go_simp; try with_reducible rfl)
      simp only [Act.put, pa, pz, ps]
      first
        | (refine tk (v := ?_) 3 8 rfl ?_ ?_
           rotate_left
           · (intro W hSw; go_split_ands; go_simp; try with_reducible rfl))
        | (refine tu 3 8 rfl ?_)
      simp only [Act.put, pa, pz, ps]
      first
        | (refine tk (v := ?_) 4 9 rfl ?_ ?_
           rotate_left
           · (intro W hSw; go_split_ands; go_simp; try with_reducible rfl))
        | (refine tu 4 9 rfl ?_)
      simp only [Act.put, pa, pz, ps]
      first
        | (refine tk (v := ?_) 5 10 rfl ?_ ?_
           rotate_left
           · (intro W hSw; go_split_ands; go_simp; try with_reducible rfl))
        | (refine tu 5 10 rfl ?_)
      simp only [Act.put, pa, pz, ps]
      first
        | (refine tk (v := ?_) 6 11 rfl ?_ ?_
           rotate_left
           · (intro W hSw; go_split_ands; go_simp; try with_reducible rfl))
        | (refine tu 6 11 rfl ?_)
      simp only [Act.put, pa, pz, ps]
      refine wpAnyH_ready (rs := [7]) (by kernel_rfl) (by simp) ?_
      refine AllReadyH.cons rfl (fun K hK => ?_) AllReadyH.nil
      go_simp
      first
        | (go_at_call 66; go_split_ands; ((with_reducible refine (HL.out _).mono ?_); rintro e W8 ⟨rfl, B8⟩); refine hK.out _ _ (HKEEP.out _ (by refine below_step ?_ B8; assumption)) (fun hS8 => ?_))
        | (refine hK.out _ _ (by assumption) (fun hS8 => ?_))
      clear hK K
      try simp only [Act.put, pa, pz, ps]
      first
        | (refine tk (v := ?_) 8 13 rfl ?_ ?_
           rotate_left
           · (intro W hSw; go_split_ands; go_simp; try with_reducible rfl))
        | (refine tu 8 13 rfl ?_)
      simp only [Act.put, pa, pz, ps]
      refine tk (v := ?_) 9 14 rfl ?_ ?_
      rotate_left
      · (intro W hSw; go_split_ands; go_simp; try with_reducible rfl)
      simp only [Act.put, pa, pz, ps]
      refine tk (v := ?_) 10 15 rfl ?_ ?_
      rotate_left
      · (intro W hSw; go_split_ands; go_simp; try with_reducible rfl)
      simp only [Act.put, pa, pz, ps]
      first
        | (refine tk (v := ?_) 11 16 rfl ?_ ?_
           rotate_left
           · (intro W hSw; go_split_ands; go_simp; try with_reducible rfl))
        | (refine tu 11 16 rfl ?_)
      simp only [Act.put, pa, pz, ps]
      first
        | (refine tk (v := ?_) 12 17 rfl ?_ ?_
           rotate_left
           · (intro W hSw; go_split_ands; go_simp; try with_reducible rfl))
        | (refine tu 12 17 rfl ?_)
      simp only [Act.put, pa, pz, ps]
      first
        | (refine tk (v := ?_) 13 18 rfl ?_ ?_
           rotate_left
           · (intro W hSw; go_split_ands; go_simp; try with_reducible rfl))
        | (refine tu 13 18 rfl ?_)
      simp only [Act.put, pa, pz, ps]
      first
        | (refine tk (v := ?_) 14 19 rfl ?_ ?_
           rotate_left
           · (intro W hSw; go_split_ands; go_simp; try with_reducible rfl))
        | (refine tu 14 19 rfl ?_)
      simp only [Act.put, pa, pz, ps]
      first
        | (refine tk (v := ?_) 15 20 rfl ?_ ?_
           rotate_left
           · (intro W hSw; go_split_ands; go_simp; try with_reducible rfl))
        | (refine tu 15 20 rfl ?_)
      simp only [Act.put, pa, pz, ps]
      first
        | (refine tk (v := ?_) 16 21 rfl ?_ ?_
           rotate_left
           · (intro W hSw; go_split_ands; go_simp; try with_reducible rfl))
        | (refine tu 16 21 rfl ?_)
      simp only [Act.put, pa, pz, ps]
      refine tk (v := ?_) 17 22 rfl ?_ ?_
      rotate_left
      · (intro W hSw; go_split_ands; go_simp; try with_reducible rfl)
      simp only [Act.put, pa, pz, ps]
      refine tk (v := ?_) 18 23 rfl ?_ ?_
      rotate_left
      · (intro W hSw; go_split_ands; go_simp; try with_reducible rfl)
      simp only [Act.put, pa, pz, ps]
      first
        | (refine tk (v := ?_) 19 24 rfl ?_ ?_
           rotate_left
           · (intro W hSw; go_split_ands; go_simp; try with_reducible rfl))
        | (refine tu 19 24 rfl ?_)
      simp only [Act.put, pa, pz, ps]
      first
        | (refine tk (v := ?_) 20 25 rfl ?_ ?_
           rotate_left
           · (intro W hSw; go_split_ands; go_simp; try with_reducible rfl))
        | (refine tu 20 25 rfl ?_)
      simp only [Act.put, pa, pz, ps]
      first
        | (refine tk (v := ?_) 21 26 rfl ?_ ?_
           rotate_left
           · (intro W hSw; go_split_ands; go_simp; try with_reducible rfl))
        | (refine tu 21 26 rfl ?_)
      simp only [Act.put, pa, pz, ps]
      first
        | (refine tk (v := ?_) 22 27 rfl ?_ ?_
           rotate_left
           · (intro W hSw; go_split_ands; go_simp; try with_reducible rfl))
        | (refine tu 22 27 rfl ?_)
      simp only [Act.put, pa, pz, ps]
      first
        | (refine tk (v := ?_) 23 28 rfl ?_ ?_
           rotate_left
           · (intro W hSw; go_split_ands; go_simp; try with_reducible rfl))
        | (refine tu 23 28 rfl ?_)
      simp only [Act.put, pa, pz, ps]
      first
        | (refine tk (v := ?_) 24 29 rfl ?_ ?_
           rotate_left
           · (intro W hSw; go_split_ands; go_simp; try with_reducible rfl))
        | (refine tu 24 29 rfl ?_)
      simp only [Act.put, pa, pz, ps]
      refine tk (v := ?_) 25 30 rfl ?_ ?_
      rotate_left
      · (intro W hSw; go_split_ands; go_simp; try with_reducible rfl)
      simp only [Act.put, pa, pz, ps]
      refine tk (v := ?_) 26 4 rfl ?_ ?_
      rotate_left
      · (intro W hSw; go_split_ands; go_simp; try with_reducible rfl)
      simp only [Act.put, pa, pz, ps]
      refine wpAnyH_done (by kernel_rfl) ?_ _
      go_wp2_with fail
      go_ret
      exact ⟨ret_bool HBR.out, below_step HB1.out (by first | assumption | (go_split_ands; assumption))⟩
    · have he2 : ((nE : Int) == (N : Int)) = false := by simpa using fun e => he (by omega)
      have hx2 : ((nX : Int) == (M : Int)) = true := by simp [hx]
      have HBR := Lib.hid (show false = r by rw [← HR.out]; simp [he])
      clear hx he
      refine wp_region_held_drew (S := fun W' => Below w1.heap.size w1 W' ∧ W'.cell? ⟨w.heap.size, 0, none⟩ = some (.int .i64 (N : Int)) ∧ W'.cell? ⟨w.heap.size, 1, none⟩ = some (.int .i64 (s : Int)) ∧ W'.cell? ⟨w.heap.size, 2, none⟩ = some (.int .i64 (t : Int)) ∧ W'.cell? ⟨w.heap.size, 3, none⟩ = some (.slice AF (N + 1) cF) ∧ W'.cell? ⟨w.heap.size, 4, none⟩ = some (.slice AH M cH) ∧ W'.cell? ⟨w.heap.size, 5, none⟩ = some (.slice AR M cR) ∧ W'.cell? ⟨w.heap.size, 6, none⟩ = some (.slice AC M cC) ∧ W'.cell? ⟨w.heap.size, 7, none⟩ = some (.slice AA M cA) ∧ W'.cell? ⟨w.heap.size, 8, none⟩ = some (.slice AB M cB) ∧ W'.cell? ⟨w.heap.size + 1, 0, none⟩ = some (.slice AX nX cX) ∧ W'.cell? ⟨w.heap.size + 1, 1, none⟩ = some (.slice AE nE cE) ∧ W'.cell? ⟨w.heap.size + 1, 2, none⟩ = some (.slice AHH nH cHH)) (by kernel_rfl) (HKEEP.out _ (Below.refl _ _).drew) (fun hS0 => ?_)
      refine tk (v := ?_) 0 5 rfl ?_ ?_
      rotate_left
      · (intro W hSw; go_split_ands; go_simp; try with_reducible rfl)
      simp only [Act.put, pa, pz, ps]
      refine wpAnyH_ready (rs := [1]) (by kernel_rfl) (by simp) ?_
      refine AllReadyH.cons rfl (fun K hK => ?_) AllReadyH.nil
      go_simp
      first
        | (go_at_call 45; go_split_ands; ((with_reducible refine (HS2.out _ (by assumption)).mono ?_); rintro e W8 ⟨rfl, B8⟩); refine hK.out _ _ (HKEEP.out _ (by refine below_step ?_ B8; assumption)) (fun hS2 => ?_))
      clear hK K
      try simp only [Act.put, pa, pz, ps]
      refine tk (v := ?_) 2 7 rfl ?_ ?_
      rotate_left
      · (intro W hSw; go_split_ands; go_simp; try with_reducible rfl)
      simp only [Act.put, pa, pz, ps]
      first
        | (refine tk (v := ?_) 3 8 rfl ?_ ?_
           rotate_left
           · (intro W hSw; go_split_ands; go_simp; try with_reducible rfl))
        | (refine tu 3 8 rfl ?_)
      simp only [Act.put, pa, pz, ps]
      first
        | (refine tk (v := ?_) 4 9 rfl ?_ ?_
           rotate_left
           · (intro W hSw; go_split_ands; go_simp; try with_reducible rfl))
        | (refine tu 4 9 rfl ?_)
      simp only [Act.put, pa, pz, ps]
      first
        | (refine tk (v := ?_) 5 10 rfl ?_ ?_
           rotate_left
           · (intro W hSw; go_split_ands; go_simp; try with_reducible rfl))
        | (refine tu 5 10 rfl ?_)
      simp only [Act.put, pa, pz, ps]
      first
        | (refine tk (v := ?_) 6 11 rfl ?_ ?_
           rotate_left
           · (intro W hSw; go_split_ands; go_simp; try with_reducible rfl))
        | (refine tu 6 11 rfl ?_)
      simp only [Act.put, pa, pz, ps]
      refine wpAnyH_ready (rs := [7]) (by kernel_rfl) (by simp) ?_
      refine AllReadyH.cons rfl (fun K hK => ?_) AllReadyH.nil
      go_simp
      first
        | (go_at_call 66; go_split_ands; ((with_reducible refine (HL.out _).mono ?_); rintro e W8 ⟨rfl, B8⟩); refine hK.out _ _ (HKEEP.out _ (by refine below_step ?_ B8; assumption)) (fun hS8 => ?_))
        | (refine hK.out _ _ (by assumption) (fun hS8 => ?_))
      clear hK K
      try simp only [Act.put, pa, pz, ps]
      first
        | (refine tk (v := ?_) 8 13 rfl ?_ ?_
           rotate_left
           · (intro W hSw; go_split_ands; go_simp; try with_reducible rfl))
        | (refine tu 8 13 rfl ?_)
      simp only [Act.put, pa, pz, ps]
      refine tk (v := ?_) 9 14 rfl ?_ ?_
      rotate_left
      · (intro W hSw; go_split_ands; go_simp; try with_reducible rfl)
      simp only [Act.put, pa, pz, ps]
      refine tk (v := ?_) 10 15 rfl ?_ ?_
      rotate_left
      · (intro W hSw; go_split_ands; go_simp; try with_reducible rfl)
      simp only [Act.put, pa, pz, ps]
      first
        | (refine tk (v := ?_) 11 16 rfl ?_ ?_
           rotate_left
           · (intro W hSw; go_split_ands; go_simp; try with_reducible rfl))
        | (refine tu 11 16 rfl ?_)
      simp only [Act.put, pa, pz, ps]
      first
        | (refine tk (v := ?_) 12 17 rfl ?_ ?_
           rotate_left
           · (intro W hSw; go_split_ands; go_simp; try with_reducible rfl))
        | (refine tu 12 17 rfl ?_)
      simp only [Act.put, pa, pz, ps]
      first
        | (refine tk (v := ?_) 13 18 rfl ?_ ?_
           rotate_left
           · (intro W hSw; go_split_ands; go_simp; try with_reducible rfl))
        | (refine tu 13 18 rfl ?_)
      simp only [Act.put, pa, pz, ps]
      first
        | (refine tk (v := ?_) 14 19 rfl ?_ ?_
           rotate_left
           · (intro W hSw; go_split_ands; go_simp; try with_reducible rfl))
        | (refine tu 14 19 rfl ?_)
      simp only [Act.put, pa, pz, ps]
      first
        | (refine tk (v := ?_) 15 20 rfl ?_ ?_
           rotate_left
           · (intro W hSw; go_split_ands; go_simp; try with_reducible rfl))
        | (refine tu 15 20 rfl ?_)
      simp only [Act.put, pa, pz, ps]
      first
        | (refine tk (v := ?_) 16 21 rfl ?_ ?_
           rotate_left
           · (intro W hSw; go_split_ands; go_simp; try with_reducible rfl))
        | (refine tu 16 21 rfl ?_)
      simp only [Act.put, pa, pz, ps]
      refine tk (v := ?_) 17 22 rfl ?_ ?_
      rotate_left
      · (intro W hSw; go_split_ands; go_simp; try with_reducible rfl)
      simp only [Act.put, pa, pz, ps]
      refine tk (v := ?_) 18 23 rfl ?_ ?_
      rotate_left
      · (intro W hSw; go_split_ands; go_simp; try with_reducible rfl)
      simp only [Act.put, pa, pz, ps]
      first
        | (refine tk (v := ?_) 19 24 rfl ?_ ?_
           rotate_left
           · (intro W hSw; go_split_ands; go_simp; try with_reducible rfl))
        | (refine tu 19 24 rfl ?_)
      simp only [Act.put, pa, pz, ps]
      first
        | (refine tk (v := ?_) 20 25 rfl ?_ ?_
           rotate_left
           · (intro W hSw; go_split_ands; go_simp; try with_reducible rfl))
        | (refine tu 20 25 rfl ?_)
      simp only [Act.put, pa, pz, ps]
      first
        | (refine tk (v := ?_) 21 26 rfl ?_ ?_
           rotate_left
           · (intro W hSw; go_split_ands; go_simp; try with_reducible rfl))
        | (refine tu 21 26 rfl ?_)
      simp only [Act.put, pa, pz, ps]
      first
        | (refine tk (v := ?_) 22 27 rfl ?_ ?_
           rotate_left
           · (intro W hSw; go_split_ands; go_simp; try with_reducible rfl))
        | (refine tu 22 27 rfl ?_)
      simp only [Act.put, pa, pz, ps]
      first
        | (refine tk (v := ?_) 23 28 rfl ?_ ?_
           rotate_left
           · (intro W hSw; go_split_ands; go_simp; try with_reducible rfl))
        | (refine tu 23 28 rfl ?_)
      simp only [Act.put, pa, pz, ps]
      first
        | (refine tk (v := ?_) 24 29 rfl ?_ ?_
           rotate_left
           · (intro W hSw; go_split_ands; go_simp; try with_reducible rfl))
        | (refine tu 24 29 rfl ?_)
      simp only [Act.put, pa, pz, ps]
      refine tk (v := ?_) 25 30 rfl ?_ ?_
      rotate_left
      · (intro W hSw; go_split_ands; go_simp; try with_reducible rfl)
      simp only [Act.put, pa, pz, ps]
      refine tk (v := ?_) 26 4 rfl ?_ ?_
      rotate_left
      · (intro W hSw; go_split_ands; go_simp; try with_reducible rfl)
      simp only [Act.put, pa, pz, ps]
      refine wpAnyH_done (by kernel_rfl) ?_ _
      go_wp2_with fail
      go_ret
      exact ⟨ret_bool HBR.out, below_step HB1.out (by first | assumption | (go_split_ands; assumption))⟩
  · have hx2 : ((nX : Int) == (M : Int)) = false := by simpa using fun e => hx (by omega)
    have HBR := Lib.hid (show false = r by rw [← HR.out]; simp [hx])
    clear hx
    refine wp_region_held_drew (S := fun W' => Below w1.heap.size w1 W' ∧ W'.cell? ⟨w.heap.size, 0, none⟩ = some (.int .i64 (N : Int)) ∧ W'.cell? ⟨w.heap.size, 1, none⟩ = some (.int .i64 (s : Int)) ∧ W'.cell? ⟨w.heap.size, 2, none⟩ = some (.int .i64 (t : Int)) ∧ W'.cell? ⟨w.heap.size, 3, none⟩ = some (.slice AF (N + 1) cF) ∧ W'.cell? ⟨w.heap.size, 4, none⟩ = some (.slice AH M cH) ∧ W'.cell? ⟨w.heap.size, 5, none⟩ = some (.slice AR M cR) ∧ W'.cell? ⟨w.heap.size, 6, none⟩ = some (.slice AC M cC) ∧ W'.cell? ⟨w.heap.size, 7, none⟩ = some (.slice AA M cA) ∧ W'.cell? ⟨w.heap.size, 8, none⟩ = some (.slice AB M cB) ∧ W'.cell? ⟨w.heap.size + 1, 0, none⟩ = some (.slice AX nX cX) ∧ W'.cell? ⟨w.heap.size + 1, 1, none⟩ = some (.slice AE nE cE) ∧ W'.cell? ⟨w.heap.size + 1, 2, none⟩ = some (.slice AHH nH cHH)) (by kernel_rfl) (HKEEP.out _ (Below.refl _ _).drew) (fun hS0 => ?_)
    refine tk (v := ?_) 0 5 rfl ?_ ?_
    rotate_left
    · (intro W hSw; go_split_ands; go_simp; try with_reducible rfl)
    simp only [Act.put, pa, pz, ps]
    refine wpAnyH_ready (rs := [1]) (by kernel_rfl) (by simp) ?_
    refine AllReadyH.cons rfl (fun K hK => ?_) AllReadyH.nil
    go_simp
    first
      | (go_at_call 45; go_split_ands; ((with_reducible refine (HS2.out _ (by assumption)).mono ?_); rintro e W8 ⟨rfl, B8⟩); refine hK.out _ _ (HKEEP.out _ (by refine below_step ?_ B8; assumption)) (fun hS2 => ?_))
    clear hK K
    try simp only [Act.put, pa, pz, ps]
    refine tk (v := ?_) 2 7 rfl ?_ ?_
    rotate_left
    · (intro W hSw; go_split_ands; go_simp; try with_reducible rfl)
    simp only [Act.put, pa, pz, ps]
    first
      | (refine tk (v := ?_) 3 8 rfl ?_ ?_
         rotate_left
         · (intro W hSw; go_split_ands; go_simp; try with_reducible rfl))
      | (refine tu 3 8 rfl ?_)
    simp only [Act.put, pa, pz, ps]
    first
      | (refine tk (v := ?_) 4 9 rfl ?_ ?_
         rotate_left
         · (intro W hSw; go_split_ands; go_simp; try with_reducible rfl))
      | (refine tu 4 9 rfl ?_)
    simp only [Act.put, pa, pz, ps]
    first
      | (refine tk (v := ?_) 5 10 rfl ?_ ?_
         rotate_left
         · (intro W hSw; go_split_ands; go_simp; try with_reducible rfl))
      | (refine tu 5 10 rfl ?_)
    simp only [Act.put, pa, pz, ps]
    first
      | (refine tk (v := ?_) 6 11 rfl ?_ ?_
         rotate_left
         · (intro W hSw; go_split_ands; go_simp; try with_reducible rfl))
      | (refine tu 6 11 rfl ?_)
    simp only [Act.put, pa, pz, ps]
    refine wpAnyH_ready (rs := [7]) (by kernel_rfl) (by simp) ?_
    refine AllReadyH.cons rfl (fun K hK => ?_) AllReadyH.nil
    go_simp
    first
      | (go_at_call 66; go_split_ands; ((with_reducible refine (HL.out _).mono ?_); rintro e W8 ⟨rfl, B8⟩); refine hK.out _ _ (HKEEP.out _ (by refine below_step ?_ B8; assumption)) (fun hS8 => ?_))
      | (refine hK.out _ _ (by assumption) (fun hS8 => ?_))
    clear hK K
    try simp only [Act.put, pa, pz, ps]
    first
      | (refine tk (v := ?_) 8 13 rfl ?_ ?_
         rotate_left
         · (intro W hSw; go_split_ands; go_simp; try with_reducible rfl))
      | (refine tu 8 13 rfl ?_)
    simp only [Act.put, pa, pz, ps]
    refine tk (v := ?_) 9 14 rfl ?_ ?_
    rotate_left
    · (intro W hSw; go_split_ands; go_simp; try with_reducible rfl)
    simp only [Act.put, pa, pz, ps]
    refine tk (v := ?_) 10 15 rfl ?_ ?_
    rotate_left
    · (intro W hSw; go_split_ands; go_simp; try with_reducible rfl)
    simp only [Act.put, pa, pz, ps]
    first
      | (refine tk (v := ?_) 11 16 rfl ?_ ?_
         rotate_left
         · (intro W hSw; go_split_ands; go_simp; try with_reducible rfl))
      | (refine tu 11 16 rfl ?_)
    simp only [Act.put, pa, pz, ps]
    first
      | (refine tk (v := ?_) 12 17 rfl ?_ ?_
         rotate_left
         · (intro W hSw; go_split_ands; go_simp; try with_reducible rfl))
      | (refine tu 12 17 rfl ?_)
    simp only [Act.put, pa, pz, ps]
    first
      | (refine tk (v := ?_) 13 18 rfl ?_ ?_
         rotate_left
         · (intro W hSw; go_split_ands; go_simp; try with_reducible rfl))
      | (refine tu 13 18 rfl ?_)
    simp only [Act.put, pa, pz, ps]
    first
      | (refine tk (v := ?_) 14 19 rfl ?_ ?_
         rotate_left
         · (intro W hSw; go_split_ands; go_simp; try with_reducible rfl))
      | (refine tu 14 19 rfl ?_)
    simp only [Act.put, pa, pz, ps]
    first
      | (refine tk (v := ?_) 15 20 rfl ?_ ?_
         rotate_left
         · (intro W hSw; go_split_ands; go_simp; try with_reducible rfl))
      | (refine tu 15 20 rfl ?_)
    simp only [Act.put, pa, pz, ps]
    first
      | (refine tk (v := ?_) 16 21 rfl ?_ ?_
         rotate_left
         · (intro W hSw; go_split_ands; go_simp; try with_reducible rfl))
      | (refine tu 16 21 rfl ?_)
    simp only [Act.put, pa, pz, ps]
    refine tk (v := ?_) 17 22 rfl ?_ ?_
    rotate_left
    · (intro W hSw; go_split_ands; go_simp; try with_reducible rfl)
    simp only [Act.put, pa, pz, ps]
    refine tk (v := ?_) 18 23 rfl ?_ ?_
    rotate_left
    · (intro W hSw; go_split_ands; go_simp; try with_reducible rfl)
    simp only [Act.put, pa, pz, ps]
    first
      | (refine tk (v := ?_) 19 24 rfl ?_ ?_
         rotate_left
         · (intro W hSw; go_split_ands; go_simp; try with_reducible rfl))
      | (refine tu 19 24 rfl ?_)
    simp only [Act.put, pa, pz, ps]
    first
      | (refine tk (v := ?_) 20 25 rfl ?_ ?_
         rotate_left
         · (intro W hSw; go_split_ands; go_simp; try with_reducible rfl))
      | (refine tu 20 25 rfl ?_)
    simp only [Act.put, pa, pz, ps]
    first
      | (refine tk (v := ?_) 21 26 rfl ?_ ?_
         rotate_left
         · (intro W hSw; go_split_ands; go_simp; try with_reducible rfl))
      | (refine tu 21 26 rfl ?_)
    simp only [Act.put, pa, pz, ps]
    first
      | (refine tk (v := ?_) 22 27 rfl ?_ ?_
         rotate_left
         · (intro W hSw; go_split_ands; go_simp; try with_reducible rfl))
      | (refine tu 22 27 rfl ?_)
    simp only [Act.put, pa, pz, ps]
    first
      | (refine tk (v := ?_) 23 28 rfl ?_ ?_
         rotate_left
         · (intro W hSw; go_split_ands; go_simp; try with_reducible rfl))
      | (refine tu 23 28 rfl ?_)
    simp only [Act.put, pa, pz, ps]
    first
      | (refine tk (v := ?_) 24 29 rfl ?_ ?_
         rotate_left
         · (intro W hSw; go_split_ands; go_simp; try with_reducible rfl))
      | (refine tu 24 29 rfl ?_)
    simp only [Act.put, pa, pz, ps]
    refine tk (v := ?_) 25 30 rfl ?_ ?_
    rotate_left
    · (intro W hSw; go_split_ands; go_simp; try with_reducible rfl)
    simp only [Act.put, pa, pz, ps]
    refine tk (v := ?_) 26 4 rfl ?_ ?_
    rotate_left
    · (intro W hSw; go_split_ands; go_simp; try with_reducible rfl)
    simp only [Act.put, pa, pz, ps]
    refine wpAnyH_done (by kernel_rfl) ?_ _
    go_wp2_with fail
    go_ret
    exact ⟨ret_bool HBR.out, below_step HB1.out (by first | assumption | (go_split_ands; assumption))⟩

end Go.Proofs.Ytanifbofjecpmaa
