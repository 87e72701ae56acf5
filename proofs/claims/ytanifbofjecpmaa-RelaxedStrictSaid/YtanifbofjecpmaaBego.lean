/- Layer 7: Begin. -/
import Derived.Test.YtanifbofjecpmaaHxf
namespace Go.Proofs.Ytanifbofjecpmaa
open Go.RowKit Go.Shelf
set_option maxRecDepth 100000
attribute [local go_sem] Oper.semAt_some


/-! The moves along the row of s, one by one. -/
section
variable {N M s t : Nat} {fst hd rv ai : Nat → Nat} {cp : Nat → Int} {bk : Nat → Bool}
def begS (hd rv : Nat → Nat) (cp : Nat → Int) (M N : Nat) {fst : Nat → Nat} {s : Nat} (pre : List (RowAt fst s)) : List Int × List Int :=
  pre.foldl (fun S x => (mvX rv S.1 x.1 (hOf S.1 x.1), mvE hd rv S.2 x.1 (hOf S.1 x.1))) (tab M cp, List.replicate N 0)
theorem begS_snoc (pre : List (RowAt fst s)) (x : RowAt fst s) : begS hd rv cp M N (pre ++ [x]) = (mvX rv (begS hd rv cp M N pre).1 x.1 (hOf (begS hd rv cp M N pre).1 x.1), mvE hd rv (begS hd rv cp M N pre).2 x.1 (hOf (begS hd rv cp M N pre).1 x.1)) := by
  simp [begS]
theorem begS_row : ∀ k, fst s + k ≤ fst (s + 1) → begS hd rv cp M N (rowIf fst s (fun _ => true) k) = (begX fst rv cp M s k, begE fst hd rv cp M N s k)
  | 0, _ => rfl
  | k + 1, hk => by rw [rowIf_yes rfl (by omega) rfl, begS_snoc, begS_row k (by omega)]; rfl
theorem begS_ok (h : PNet N M s t fst hd rv ai cp bk) : ∀ pre : List (RowAt fst s), Bal M rv cp (begS hd rv cp M N pre).1 ∧ (begS hd rv cp M N pre).2.length = N ∧ ∀ v, v < N → hOf (begS hd rv cp M N pre).2 v = exT M hd rv cp (begS hd rv cp M N pre).1 v := by
  have key : ∀ (n : Nat) (pre : List (RowAt fst s)), pre.length = n → Bal M rv cp (begS hd rv cp M N pre).1 ∧ (begS hd rv cp M N pre).2.length = N ∧ ∀ v, v < N → hOf (begS hd rv cp M N pre).2 v = exT M hd rv cp (begS hd rv cp M N pre).1 v := by
    intro n
    induction n with
    | zero =>
      intro pre hl
      obtain rfl := List.eq_nil_of_length_eq_zero hl
      exact ⟨begX_bal h 0 (by have := h.g.mono s h.hs; omega), by simp [begS], begE_exc h 0 (by have := h.g.mono s h.hs; omega)⟩
    | succ n ih =>
      intro pre hl
      have hne : pre ≠ [] := fun e => by subst e; cases hl
      rw [← List.dropLast_concat_getLast hne, begS_snoc]
      obtain ⟨h1, h2, h3⟩ := ih pre.dropLast (by simp [hl])
      have hfl := h.g.fle (v := s + 1) (by have := h.hs; omega)
      have ha : (pre.getLast hne).1 < M := by have := (pre.getLast hne).2; omega
      exact ⟨bal_mv h1 h ha (h1.2 _ ha).1 (Int.le_refl _), by rw [mvE_len]; exact h2, exc_mv h1.1 h2 h h3 ha _⟩
  exact fun pre => key _ pre rfl
end

theorem own_zeros2 (N : Nat) (t : TypeId) (W : World) (g : Nat) (hg : W.heap.size = g) (hN : N ≤ maxLen) : (W.alloc (.cells (ivs (List.replicate N 0)) t)).ownsRow W.heap.size t 1 (.slice (some ⟨g, 0, none⟩) N N) N (lvs (List.replicate N 0)) := by
  subst hg
  exact own_zeros N t W hN

set_option maxHeartbeats 16000000 in
theorem begin_is (N M s t : Nat) (K : CsrS) (fst hd rv ai : Nat → Nat) (cp : Nat → Int) (bk : Nat → Bool) (w : World) (hG : PNet N M s t fst hd rv ai cp bk) (hI : PIn w w.heap.size N M K fst hd rv ai cp bk) :
    Calls Try.prog 22 #[csrW N M s t K] w (RetPre M N N (begX fst rv cp M s (fst (s + 1) - fst s)) (begE fst hd rv cp M N s (fst (s + 1) - fst s)) (begH N s) w) := by
  have hM := hG.nM; have hN := hG.nN; have hsN := hG.hs
  have hsnd := fun W (hb : Below w.heap.size w W) => sound_is N M s t K fst hd rv W hG.g (hI.gi.on hb) hG.hs hG.ht hN (by omega)
  have HS := Lib.hid hsnd; have HG := Lib.hid hG; have HI := Lib.hid hI
  have hrow := row_is N M s t K s
  have HO := Lib.hid hrow
  have hready := fun w1 w2 hw sp => row_ready w.heap.size N M s t s K fst hd rv sp w1 w2 hw hG.g
  have HR := Lib.hid hready
  have hcl := fun W (hb : Below w.heap.size w W) => cloneL_is K.AC M K.cC (tab M cp) W (hI.on hb).iC (by omega)
  have HCL0 := Lib.hid hcl
  obtain ⟨AF, cF, AH, cH, AR, cR, AC, cC, AA, cA, AB, cB⟩ := K
  dsimp only [csrW] at HR HO HS HCL0 ⊢
  clear hsnd hG hI hrow hready hcl
  obtain ⟨i1, hi, hz0, hz1, hz2⟩ := info_parts long_info
  have hml := fun W => run_make_lit (P := Try.prog) 26 2 i1 _ Try.underlying26 hi hz0 N (by rw [hz2]; omega) (by omega) W
  rw [hz1, ivs_made] at hml
  clear hi hz0 hz1 hz2
  obtain ⟨i2, hi, hz0, hz1, hz2⟩ := info_parts int_info
  have hmi := fun W => run_make_lit (P := Try.prog) 27 3 i2 _ Try.underlying27 hi hz0 N (by rw [hz2]; omega) (by omega) W
  rw [hz1, ivs_made] at hmi
  clear hi hz0 hz1 hz2
  refine (callsIn_wide (n := 3)).1 ?_
  refine callsIn_of_wp_marks Try.func22 rfl trivial ?_ rfl
  simp only [Try.ntmps22, List.size_toArray, List.length_cons, List.length_nil, Nat.reduceAdd, Nat.reduceSub, Array.replicate_succ, Array.replicate_zero, List.push_toArray, List.append_toArray, List.nil_append, List.cons_append]
  gi_wp2
  obtain ⟨w1, hw1⟩ : ∃ w1, ((w.alloc (.cells #[.int .i64 (N : Int), .int .i64 (s : Int), .int .i64 (t : Int), .slice AF (N + 1) cF, .slice AH M cH, .slice AR M cR, .slice AC M cC, .slice AA M cA, .slice AB M cB] 32)).alloc (.cells #[.slice none 0 0, .slice none 0 0, .slice none 0 0] 29)) = w1 := ⟨_, rfl⟩
  have B1 : Below w.heap.size w w1 := by rw [← hw1]; exact ((Below.refl _ w).alloc (Nat.le_refl _) _).alloc (by simp) _
  have C1 : Blk w1 w.heap.size 32 #[.int .i64 (N : Int), .int .i64 (s : Int), .int .i64 (t : Int), .slice AF (N + 1) cF, .slice AH M cH, .slice AR M cR, .slice AC M cC, .slice AA M cA, .slice AB M cB] := by rw [← hw1]; exact (Blk.new rfl).alloc _
  have R1 : Blk w1 (w.heap.size + 1) 29 #[.slice none 0 0, .slice none 0 0, .slice none 0 0] := by rw [← hw1]; exact Blk.new (by simp)
  rw [hw1]
  clear hw1
  refine ⟨trivial, (callsIn_wide.2 (HS.out _ B1)).mono ?_⟩
  rintro e w2 ⟨rfl, B2⟩
  have C2 := C1.below B2 C1.lt
  have R2 := R1.below B2 R1.lt
  have Bw2 := below_step B1 B2
  clear C1 R1 B1 B2
  obtain ⟨a0, a1, a2, a3, a4, a5, a6, a7, a8⟩ := C2.at9
  have hz1 := C2.lt; have hz2 := R2.lt
  have HC2 := Lib.hid C2; have HR2 := Lib.hid R2; have HB2 := Lib.hid Bw2
  clear C2 R2 Bw2
  gi_wp2
  obtain ⟨w3, hw3⟩ : ∃ w3, w2.drew = w3 := ⟨_, rfl⟩
  have h23 : Below w2.heap.size w2 w3 := by rw [← hw3]; exact (Below.refl _ w2).drew
  have HB3 := Lib.hid (below_step HB2.out h23)
  have HC3 := Lib.hid (HC2.out.below h23 HC2.out.lt)
  have HR3 := Lib.hid (HR2.out.below h23 HR2.out.lt)
  obtain ⟨b3, hb3⟩ : ∃ b3, w3.heap.size = b3 := ⟨_, rfl⟩
  have HBE := Lib.hid hb3
  clear h23 hb3
  refine wpIn_mono (Q := fun e a' W => e = .normal ∧ ∃ AX cX gE gH gP, a' = { tmps := #[.agg #[.int .i64 (N : Int), .int .i64 (s : Int), .int .i64 (t : Int), .slice AF (N + 1) cF, .slice AH M cH, .slice AR M cR, .slice AC M cC, .slice AA M cA, .slice AB M cB], .pointer (some ⟨w.heap.size, 0, none⟩), .pointer (some ⟨w.heap.size + 1, 0, none⟩), .pointer (some ⟨gP, 0, none⟩), undef, .agg #[.int .i64 (N : Int), .int .i64 (s : Int), .int .i64 (t : Int), .slice AF (N + 1) cF, .slice AH M cH, .slice AR M cR, .slice AC M cC, .slice AA M cA, .slice AB M cB], .bool true, .bool false, undef,
      .pointer (some ⟨w.heap.size, 6, none⟩), .slice AC M cC, .slice AX M cX, .pointer (some ⟨w.heap.size, 0, none⟩), .int .i64 (N : Int), .slice (some ⟨gE, 0, none⟩) N N, .pointer (some ⟨w.heap.size, 0, none⟩), .int .i64 (N : Int), .slice (some ⟨gH, 0, none⟩) N N,
      .agg #[.slice AX M cX, .slice (some ⟨gE, 0, none⟩) N N, .slice (some ⟨gH, 0, none⟩) N N], undef, undef, undef, undef, undef, undef, undef, undef, undef, undef, undef, undef, undef, undef, undef, undef, undef, undef, undef, undef, undef, undef], defers := [] } ∧
      Hx w3 W b3 (pstR M N N ⟨AX, cX, some ⟨gE, 0, none⟩, N, some ⟨gH, 0, none⟩, N⟩ (tab M cp) (List.replicate N 0) (List.replicate N 0)) ∧ Blk W gP 29 #[.slice AX M cX, .slice (some ⟨gE, 0, none⟩) N N, .slice (some ⟨gH, 0, none⟩) N N]) (wpIn_wide.2 ?region) ?rest
  case region =>
    have hcl := fun W (hb : Below b3 w3 W) => HCL0.out W (below_step HB3.out (by rw [HBE.out]; exact hb))
    have HCL := Lib.hid hcl
    have hkeep : ∀ W', Below b3 w3 W' → Below b3 w3 W' ∧ W'.cell? ⟨w.heap.size, 0, none⟩ = some (.int .i64 (N : Int)) ∧ W'.cell? ⟨w.heap.size, 1, none⟩ = some (.int .i64 (s : Int)) ∧ W'.cell? ⟨w.heap.size, 2, none⟩ = some (.int .i64 (t : Int)) ∧ W'.cell? ⟨w.heap.size, 3, none⟩ = some (.slice AF (N + 1) cF) ∧ W'.cell? ⟨w.heap.size, 4, none⟩ = some (.slice AH M cH) ∧ W'.cell? ⟨w.heap.size, 5, none⟩ = some (.slice AR M cR) ∧ W'.cell? ⟨w.heap.size, 6, none⟩ = some (.slice AC M cC) ∧ W'.cell? ⟨w.heap.size, 7, none⟩ = some (.slice AA M cA) ∧ W'.cell? ⟨w.heap.size, 8, none⟩ = some (.slice AB M cB) := fun W' hb => by
      obtain ⟨a0, a1, a2, a3, a4, a5, a6, a7, a8⟩ := (HC3.out.below hb (by have := HC3.out.lt; have := HBE.out; omega)).at9
      exact ⟨hb, a0, a1, a2, a3, a4, a5, a6, a7, a8⟩
    have HKEEP := Lib.hid hkeep
    have HNL := Lib.hid (show N ≤ maxLen by unfold maxLen; omega)
    have HX0 := Lib.hid (((Hx.start (w := w3) HBE.out).nil 2).nil 2 |>.nil 3)
    clear hcl hkeep
    refine wp_region_held_drew (S := fun W' => Below b3 w3 W' ∧ W'.cell? ⟨w.heap.size, 0, none⟩ = some (.int .i64 (N : Int)) ∧ W'.cell? ⟨w.heap.size, 1, none⟩ = some (.int .i64 (s : Int)) ∧ W'.cell? ⟨w.heap.size, 2, none⟩ = some (.int .i64 (t : Int)) ∧ W'.cell? ⟨w.heap.size, 3, none⟩ = some (.slice AF (N + 1) cF) ∧ W'.cell? ⟨w.heap.size, 4, none⟩ = some (.slice AH M cH) ∧ W'.cell? ⟨w.heap.size, 5, none⟩ = some (.slice AR M cR) ∧ W'.cell? ⟨w.heap.size, 6, none⟩ = some (.slice AC M cC) ∧ W'.cell? ⟨w.heap.size, 7, none⟩ = some (.slice AA M cA) ∧ W'.cell? ⟨w.heap.size, 8, none⟩ = some (.slice AB M cB)) (by kernel_rfl) (by rw [hw3]; exact HKEEP.out _ (Below.refl _ _)) (fun hS0 => ?_)
    rw [hw3] at hS0 ⊢
    clear hw3
    refine tk (v := ?_) 0 9 rfl ?_ ?_ (hQ := (fun _ _ _ h => by cases h.1))
    rotate_left
    · (intro W hSw; obtain ⟨-, a0, a1, a2, a3, a4, a5, a6, a7, a8⟩ := hSw; go_simp; try with_reducible rfl)
    simp only [Act.put, pa, pz, ps]
    refine tk (v := ?_) 1 10 rfl ?_ ?_ (hQ := (fun _ _ _ h => by cases h.1))
    rotate_left
    · (intro W hSw; obtain ⟨-, a0, a1, a2, a3, a4, a5, a6, a7, a8⟩ := hSw; go_simp; try with_reducible rfl)
    simp only [Act.put, pa, pz, ps]
    refine tk (v := ?_) 3 12 rfl ?_ ?_ (hQ := (fun _ _ _ h => by cases h.1))
    rotate_left
    · (intro W hSw; obtain ⟨-, a0, a1, a2, a3, a4, a5, a6, a7, a8⟩ := hSw; go_simp; try with_reducible rfl)
    simp only [Act.put, pa, pz, ps]
    refine tk (v := ?_) 4 13 rfl ?_ ?_ (hQ := (fun _ _ _ h => by cases h.1))
    rotate_left
    · (intro W hSw; obtain ⟨-, a0, a1, a2, a3, a4, a5, a6, a7, a8⟩ := hSw; go_simp; try with_reducible rfl)
    simp only [Act.put, pa, pz, ps]
    refine tk (v := ?_) 6 15 rfl ?_ ?_ (hQ := (fun _ _ _ h => by cases h.1))
    rotate_left
    · (intro W hSw; obtain ⟨-, a0, a1, a2, a3, a4, a5, a6, a7, a8⟩ := hSw; go_simp; try with_reducible rfl)
    simp only [Act.put, pa, pz, ps]
    refine tk (v := ?_) 7 16 rfl ?_ ?_ (hQ := (fun _ _ _ h => by cases h.1))
    rotate_left
    · (intro W hSw; obtain ⟨-, a0, a1, a2, a3, a4, a5, a6, a7, a8⟩ := hSw; go_simp; try with_reducible rfl)
    simp only [Act.put, pa, pz, ps]
    refine (have tail : Hid ?T := ?tailp; ?main)
    case main =>
      have hSn := hS0
      have HX := HX0.out
      refine wpAnyH_ready (rs := [2, 5, 8, 10]) (by kernel_rfl) (by simp) ?_
      refine AllReadyH.cons rfl (fun K hK => ?_) (AllReadyH.cons rfl (fun K hK => ?_) (AllReadyH.cons rfl (fun K hK => ?_) (AllReadyH.cons rfl (fun K hK => ?_) (AllReadyH.nil))))
      · go_simp
        (with_reducible refine (HCL.out _ HX.bel).mono ?_); rintro e W1 ⟨AX, cX, rfl, hR0, hB0⟩
        replace HX := HX.fresh (i := 0) rfl hB0 hR0
        refine hK.out _ _ (HKEEP.out _ HX.bel) (fun hSm => ?_)
        clear hK K hR0 hB0 hSn
        have hSn := hSm
        clear hSm
        try simp only [Act.put, pa, pz, ps]
        refine wpAnyH_ready (rs := [5, 8, 10]) (by kernel_rfl) (by simp) ?_
        refine AllReadyH.cons rfl (fun K hK => ?_) (AllReadyH.cons rfl (fun K hK => ?_) (AllReadyH.cons rfl (fun K hK => ?_) (AllReadyH.nil)))
        · go_simp
          obtain ⟨gE, hgn⟩ : ∃ g, W1.heap.size = g := ⟨_, rfl⟩
          replace HX := HX.fresh (i := 1) rfl (below_alloc (.cells (ivs (List.replicate N 0)) 2)) (own_zeros2 N 2 W1 gE hgn HNL.out)
          refine hK.out _ _ (HKEEP.out _ HX.bel) (fun hSm => ?_)
          clear hK K hSn
          have hSn := hSm
          clear hSm
          try simp only [Act.put, pa, pz, ps]
          obtain ⟨W2, hWn⟩ : ∃ W, W1.alloc (.cells (ivs (List.replicate N 0)) 2) = W := ⟨_, rfl⟩
          rw [hWn] at HX hSn ⊢
          rw [hgn]
          clear hWn hgn
          refine wpAnyH_ready (rs := [8, 10]) (by kernel_rfl) (by simp) ?_
          refine AllReadyH.cons rfl (fun K hK => ?_) (AllReadyH.cons rfl (fun K hK => ?_) (AllReadyH.nil))
          · go_simp
            obtain ⟨gH, hgn⟩ : ∃ g, W2.heap.size = g := ⟨_, rfl⟩
            replace HX := HX.fresh (i := 2) rfl (below_alloc (.cells (ivs (List.replicate N 0)) 3)) (own_zeros2 N 3 W2 gH hgn HNL.out)
            refine hK.out _ _ (HKEEP.out _ HX.bel) (fun hSm => ?_)
            clear hK K hSn
            have hSn := hSm
            clear hSm
            try simp only [Act.put, pa, pz, ps]
            obtain ⟨W3, hWn⟩ : ∃ W, W2.alloc (.cells (ivs (List.replicate N 0)) 3) = W := ⟨_, rfl⟩
            rw [hWn] at HX hSn ⊢
            rw [hgn]
            clear hWn hgn
            refine tk (v := ?_) 9 18 rfl ?_ ?_ (hQ := (fun _ _ _ h => by cases h.1))
            rotate_left
            · (intro W hSw; obtain ⟨-, a0, a1, a2, a3, a4, a5, a6, a7, a8⟩ := hSw; go_simp; try with_reducible rfl)
            simp only [Act.put, pa, pz, ps]
            refine wpAnyH_ready (rs := [10]) (by kernel_rfl) (by simp) ?_
            refine AllReadyH.cons rfl (fun K hK => ?_) (AllReadyH.nil)
            · go_simp
              obtain ⟨gP, hgn⟩ : ∃ g, W3.heap.size = g := ⟨_, rfl⟩
              have hgp : b3 ≤ gP := by have := HX.bas; omega
              replace HX := HX.alloc (.cells #[.slice none 0 0, .slice none 0 0, .slice none 0 0] 29)
              have HP : Blk (W3.alloc (.cells #[.slice none 0 0, .slice none 0 0, .slice none 0 0] 29)) gP 29 #[.slice none 0 0, .slice none 0 0, .slice none 0 0] := Blk.new hgn
              refine hK.out _ _ (HKEEP.out _ HX.bel) (fun hSm => ?_)
              clear hK K hSn
              have hSn := hSm
              clear hSm
              try simp only [Act.put, pa, pz, ps]
              obtain ⟨W4, hWn⟩ : ∃ W, W3.alloc (.cells #[.slice none 0 0, .slice none 0 0, .slice none 0 0] 29) = W := ⟨_, rfl⟩
              rw [hWn] at HX hSn HP ⊢
              rw [hgn]
              clear hWn hgn
              clear hSn
              replace HX : Hx w3 W4 b3 (pstR M N N ⟨AX, cX, some ⟨gE, 0, none⟩, N, some ⟨gH, 0, none⟩, N⟩ (tab M cp) (List.replicate N 0) (List.replicate N 0)) := HX
              revert HX
              revert HP
              revert hgp
              revert W4
              revert gP
              revert gH
              revert gE
              revert cX
              revert AX
              exact tail.out
          · go_simp
            obtain ⟨gP, hgn⟩ : ∃ g, W2.heap.size = g := ⟨_, rfl⟩
            have hgp : b3 ≤ gP := by have := HX.bas; omega
            replace HX := HX.alloc (.cells #[.slice none 0 0, .slice none 0 0, .slice none 0 0] 29)
            have HP : Blk (W2.alloc (.cells #[.slice none 0 0, .slice none 0 0, .slice none 0 0] 29)) gP 29 #[.slice none 0 0, .slice none 0 0, .slice none 0 0] := Blk.new hgn
            refine hK.out _ _ (HKEEP.out _ HX.bel) (fun hSm => ?_)
            clear hK K hSn
            have hSn := hSm
            clear hSm
            try simp only [Act.put, pa, pz, ps]
            obtain ⟨W3, hWn⟩ : ∃ W, W2.alloc (.cells #[.slice none 0 0, .slice none 0 0, .slice none 0 0] 29) = W := ⟨_, rfl⟩
            rw [hWn] at HX hSn HP ⊢
            rw [hgn]
            clear hWn hgn
            refine wpAnyH_ready (rs := [8]) (by kernel_rfl) (by simp) ?_
            refine AllReadyH.cons rfl (fun K hK => ?_) (AllReadyH.nil)
            · go_simp
              obtain ⟨gH, hgn⟩ : ∃ g, W3.heap.size = g := ⟨_, rfl⟩
              replace HX := HX.fresh (i := 2) rfl (below_alloc (.cells (ivs (List.replicate N 0)) 3)) (own_zeros2 N 3 W3 gH hgn HNL.out)
              replace HP := HP.alloc (.cells (ivs (List.replicate N 0)) 3)
              refine hK.out _ _ (HKEEP.out _ HX.bel) (fun hSm => ?_)
              clear hK K hSn
              have hSn := hSm
              clear hSm
              try simp only [Act.put, pa, pz, ps]
              obtain ⟨W4, hWn⟩ : ∃ W, W3.alloc (.cells (ivs (List.replicate N 0)) 3) = W := ⟨_, rfl⟩
              rw [hWn] at HX hSn HP ⊢
              rw [hgn]
              clear hWn hgn
              refine tk (v := ?_) 9 18 rfl ?_ ?_ (hQ := (fun _ _ _ h => by cases h.1))
              rotate_left
              · (intro W hSw; obtain ⟨-, a0, a1, a2, a3, a4, a5, a6, a7, a8⟩ := hSw; go_simp; try with_reducible rfl)
              simp only [Act.put, pa, pz, ps]
              clear hSn
              replace HX : Hx w3 W4 b3 (pstR M N N ⟨AX, cX, some ⟨gE, 0, none⟩, N, some ⟨gH, 0, none⟩, N⟩ (tab M cp) (List.replicate N 0) (List.replicate N 0)) := HX
              revert HX
              revert HP
              revert hgp
              revert W4
              revert gP
              revert gH
              revert gE
              revert cX
              revert AX
              exact tail.out
        · go_simp
          obtain ⟨gH, hgn⟩ : ∃ g, W1.heap.size = g := ⟨_, rfl⟩
          replace HX := HX.fresh (i := 2) rfl (below_alloc (.cells (ivs (List.replicate N 0)) 3)) (own_zeros2 N 3 W1 gH hgn HNL.out)
          refine hK.out _ _ (HKEEP.out _ HX.bel) (fun hSm => ?_)
          clear hK K hSn
          have hSn := hSm
          clear hSm
          try simp only [Act.put, pa, pz, ps]
          obtain ⟨W2, hWn⟩ : ∃ W, W1.alloc (.cells (ivs (List.replicate N 0)) 3) = W := ⟨_, rfl⟩
          rw [hWn] at HX hSn ⊢
          rw [hgn]
          clear hWn hgn
          refine wpAnyH_ready (rs := [5, 10]) (by kernel_rfl) (by simp) ?_
          refine AllReadyH.cons rfl (fun K hK => ?_) (AllReadyH.cons rfl (fun K hK => ?_) (AllReadyH.nil))
          · go_simp
            obtain ⟨gE, hgn⟩ : ∃ g, W2.heap.size = g := ⟨_, rfl⟩
            replace HX := HX.fresh (i := 1) rfl (below_alloc (.cells (ivs (List.replicate N 0)) 2)) (own_zeros2 N 2 W2 gE hgn HNL.out)
            refine hK.out _ _ (HKEEP.out _ HX.bel) (fun hSm => ?_)
            clear hK K hSn
            have hSn := hSm
            clear hSm
            try simp only [Act.put, pa, pz, ps]
            obtain ⟨W3, hWn⟩ : ∃ W, W2.alloc (.cells (ivs (List.replicate N 0)) 2) = W := ⟨_, rfl⟩
            rw [hWn] at HX hSn ⊢
            rw [hgn]
            clear hWn hgn
            refine tk (v := ?_) 9 18 rfl ?_ ?_ (hQ := (fun _ _ _ h => by cases h.1))
            rotate_left
            · (intro W hSw; obtain ⟨-, a0, a1, a2, a3, a4, a5, a6, a7, a8⟩ := hSw; go_simp; try with_reducible rfl)
            simp only [Act.put, pa, pz, ps]
            refine wpAnyH_ready (rs := [10]) (by kernel_rfl) (by simp) ?_
            refine AllReadyH.cons rfl (fun K hK => ?_) (AllReadyH.nil)
            · go_simp
              obtain ⟨gP, hgn⟩ : ∃ g, W3.heap.size = g := ⟨_, rfl⟩
              have hgp : b3 ≤ gP := by have := HX.bas; omega
              replace HX := HX.alloc (.cells #[.slice none 0 0, .slice none 0 0, .slice none 0 0] 29)
              have HP : Blk (W3.alloc (.cells #[.slice none 0 0, .slice none 0 0, .slice none 0 0] 29)) gP 29 #[.slice none 0 0, .slice none 0 0, .slice none 0 0] := Blk.new hgn
              refine hK.out _ _ (HKEEP.out _ HX.bel) (fun hSm => ?_)
              clear hK K hSn
              have hSn := hSm
              clear hSm
              try simp only [Act.put, pa, pz, ps]
              obtain ⟨W4, hWn⟩ : ∃ W, W3.alloc (.cells #[.slice none 0 0, .slice none 0 0, .slice none 0 0] 29) = W := ⟨_, rfl⟩
              rw [hWn] at HX hSn HP ⊢
              rw [hgn]
              clear hWn hgn
              clear hSn
              replace HX : Hx w3 W4 b3 (pstR M N N ⟨AX, cX, some ⟨gE, 0, none⟩, N, some ⟨gH, 0, none⟩, N⟩ (tab M cp) (List.replicate N 0) (List.replicate N 0)) := HX
              revert HX
              revert HP
              revert hgp
              revert W4
              revert gP
              revert gH
              revert gE
              revert cX
              revert AX
              exact tail.out
          · go_simp
            obtain ⟨gP, hgn⟩ : ∃ g, W2.heap.size = g := ⟨_, rfl⟩
            have hgp : b3 ≤ gP := by have := HX.bas; omega
            replace HX := HX.alloc (.cells #[.slice none 0 0, .slice none 0 0, .slice none 0 0] 29)
            have HP : Blk (W2.alloc (.cells #[.slice none 0 0, .slice none 0 0, .slice none 0 0] 29)) gP 29 #[.slice none 0 0, .slice none 0 0, .slice none 0 0] := Blk.new hgn
            refine hK.out _ _ (HKEEP.out _ HX.bel) (fun hSm => ?_)
            clear hK K hSn
            have hSn := hSm
            clear hSm
            try simp only [Act.put, pa, pz, ps]
            obtain ⟨W3, hWn⟩ : ∃ W, W2.alloc (.cells #[.slice none 0 0, .slice none 0 0, .slice none 0 0] 29) = W := ⟨_, rfl⟩
            rw [hWn] at HX hSn HP ⊢
            rw [hgn]
            clear hWn hgn
            refine wpAnyH_ready (rs := [5]) (by kernel_rfl) (by simp) ?_
            refine AllReadyH.cons rfl (fun K hK => ?_) (AllReadyH.nil)
            · go_simp
              obtain ⟨gE, hgn⟩ : ∃ g, W3.heap.size = g := ⟨_, rfl⟩
              replace HX := HX.fresh (i := 1) rfl (below_alloc (.cells (ivs (List.replicate N 0)) 2)) (own_zeros2 N 2 W3 gE hgn HNL.out)
              replace HP := HP.alloc (.cells (ivs (List.replicate N 0)) 2)
              refine hK.out _ _ (HKEEP.out _ HX.bel) (fun hSm => ?_)
              clear hK K hSn
              have hSn := hSm
              clear hSm
              try simp only [Act.put, pa, pz, ps]
              obtain ⟨W4, hWn⟩ : ∃ W, W3.alloc (.cells (ivs (List.replicate N 0)) 2) = W := ⟨_, rfl⟩
              rw [hWn] at HX hSn HP ⊢
              rw [hgn]
              clear hWn hgn
              refine tk (v := ?_) 9 18 rfl ?_ ?_ (hQ := (fun _ _ _ h => by cases h.1))
              rotate_left
              · (intro W hSw; obtain ⟨-, a0, a1, a2, a3, a4, a5, a6, a7, a8⟩ := hSw; go_simp; try with_reducible rfl)
              simp only [Act.put, pa, pz, ps]
              clear hSn
              replace HX : Hx w3 W4 b3 (pstR M N N ⟨AX, cX, some ⟨gE, 0, none⟩, N, some ⟨gH, 0, none⟩, N⟩ (tab M cp) (List.replicate N 0) (List.replicate N 0)) := HX
              revert HX
              revert HP
              revert hgp
              revert W4
              revert gP
              revert gH
              revert gE
              revert cX
              revert AX
              exact tail.out
        · go_simp
          obtain ⟨gP, hgn⟩ : ∃ g, W1.heap.size = g := ⟨_, rfl⟩
          have hgp : b3 ≤ gP := by have := HX.bas; omega
          replace HX := HX.alloc (.cells #[.slice none 0 0, .slice none 0 0, .slice none 0 0] 29)
          have HP : Blk (W1.alloc (.cells #[.slice none 0 0, .slice none 0 0, .slice none 0 0] 29)) gP 29 #[.slice none 0 0, .slice none 0 0, .slice none 0 0] := Blk.new hgn
          refine hK.out _ _ (HKEEP.out _ HX.bel) (fun hSm => ?_)
          clear hK K hSn
          have hSn := hSm
          clear hSm
          try simp only [Act.put, pa, pz, ps]
          obtain ⟨W2, hWn⟩ : ∃ W, W1.alloc (.cells #[.slice none 0 0, .slice none 0 0, .slice none 0 0] 29) = W := ⟨_, rfl⟩
          rw [hWn] at HX hSn HP ⊢
          rw [hgn]
          clear hWn hgn
          refine wpAnyH_ready (rs := [5, 8]) (by kernel_rfl) (by simp) ?_
          refine AllReadyH.cons rfl (fun K hK => ?_) (AllReadyH.cons rfl (fun K hK => ?_) (AllReadyH.nil))
          · go_simp
            obtain ⟨gE, hgn⟩ : ∃ g, W2.heap.size = g := ⟨_, rfl⟩
            replace HX := HX.fresh (i := 1) rfl (below_alloc (.cells (ivs (List.replicate N 0)) 2)) (own_zeros2 N 2 W2 gE hgn HNL.out)
            replace HP := HP.alloc (.cells (ivs (List.replicate N 0)) 2)
            refine hK.out _ _ (HKEEP.out _ HX.bel) (fun hSm => ?_)
            clear hK K hSn
            have hSn := hSm
            clear hSm
            try simp only [Act.put, pa, pz, ps]
            obtain ⟨W3, hWn⟩ : ∃ W, W2.alloc (.cells (ivs (List.replicate N 0)) 2) = W := ⟨_, rfl⟩
            rw [hWn] at HX hSn HP ⊢
            rw [hgn]
            clear hWn hgn
            refine wpAnyH_ready (rs := [8]) (by kernel_rfl) (by simp) ?_
            refine AllReadyH.cons rfl (fun K hK => ?_) (AllReadyH.nil)
            · go_simp
              obtain ⟨gH, hgn⟩ : ∃ g, W3.heap.size = g := ⟨_, rfl⟩
              replace HX := HX.fresh (i := 2) rfl (below_alloc (.cells (ivs (List.replicate N 0)) 3)) (own_zeros2 N 3 W3 gH hgn HNL.out)
              replace HP := HP.alloc (.cells (ivs (List.replicate N 0)) 3)
              refine hK.out _ _ (HKEEP.out _ HX.bel) (fun hSm => ?_)
              clear hK K hSn
              have hSn := hSm
              clear hSm
              try simp only [Act.put, pa, pz, ps]
              obtain ⟨W4, hWn⟩ : ∃ W, W3.alloc (.cells (ivs (List.replicate N 0)) 3) = W := ⟨_, rfl⟩
              rw [hWn] at HX hSn HP ⊢
              rw [hgn]
              clear hWn hgn
              refine tk (v := ?_) 9 18 rfl ?_ ?_ (hQ := (fun _ _ _ h => by cases h.1))
              rotate_left
              · (intro W hSw; obtain ⟨-, a0, a1, a2, a3, a4, a5, a6, a7, a8⟩ := hSw; go_simp; try with_reducible rfl)
              simp only [Act.put, pa, pz, ps]
              clear hSn
              replace HX : Hx w3 W4 b3 (pstR M N N ⟨AX, cX, some ⟨gE, 0, none⟩, N, some ⟨gH, 0, none⟩, N⟩ (tab M cp) (List.replicate N 0) (List.replicate N 0)) := HX
              revert HX
              revert HP
              revert hgp
              revert W4
              revert gP
              revert gH
              revert gE
              revert cX
              revert AX
              exact tail.out
          · go_simp
            obtain ⟨gH, hgn⟩ : ∃ g, W2.heap.size = g := ⟨_, rfl⟩
            replace HX := HX.fresh (i := 2) rfl (below_alloc (.cells (ivs (List.replicate N 0)) 3)) (own_zeros2 N 3 W2 gH hgn HNL.out)
            replace HP := HP.alloc (.cells (ivs (List.replicate N 0)) 3)
            refine hK.out _ _ (HKEEP.out _ HX.bel) (fun hSm => ?_)
            clear hK K hSn
            have hSn := hSm
            clear hSm
            try simp only [Act.put, pa, pz, ps]
            obtain ⟨W3, hWn⟩ : ∃ W, W2.alloc (.cells (ivs (List.replicate N 0)) 3) = W := ⟨_, rfl⟩
            rw [hWn] at HX hSn HP ⊢
            rw [hgn]
            clear hWn hgn
            refine wpAnyH_ready (rs := [5]) (by kernel_rfl) (by simp) ?_
            refine AllReadyH.cons rfl (fun K hK => ?_) (AllReadyH.nil)
            · go_simp
              obtain ⟨gE, hgn⟩ : ∃ g, W3.heap.size = g := ⟨_, rfl⟩
              replace HX := HX.fresh (i := 1) rfl (below_alloc (.cells (ivs (List.replicate N 0)) 2)) (own_zeros2 N 2 W3 gE hgn HNL.out)
              replace HP := HP.alloc (.cells (ivs (List.replicate N 0)) 2)
              refine hK.out _ _ (HKEEP.out _ HX.bel) (fun hSm => ?_)
              clear hK K hSn
              have hSn := hSm
              clear hSm
              try simp only [Act.put, pa, pz, ps]
              obtain ⟨W4, hWn⟩ : ∃ W, W3.alloc (.cells (ivs (List.replicate N 0)) 2) = W := ⟨_, rfl⟩
              rw [hWn] at HX hSn HP ⊢
              rw [hgn]
              clear hWn hgn
              refine tk (v := ?_) 9 18 rfl ?_ ?_ (hQ := (fun _ _ _ h => by cases h.1))
              rotate_left
              · (intro W hSw; obtain ⟨-, a0, a1, a2, a3, a4, a5, a6, a7, a8⟩ := hSw; go_simp; try with_reducible rfl)
              simp only [Act.put, pa, pz, ps]
              clear hSn
              replace HX : Hx w3 W4 b3 (pstR M N N ⟨AX, cX, some ⟨gE, 0, none⟩, N, some ⟨gH, 0, none⟩, N⟩ (tab M cp) (List.replicate N 0) (List.replicate N 0)) := HX
              revert HX
              revert HP
              revert hgp
              revert W4
              revert gP
              revert gH
              revert gE
              revert cX
              revert AX
              exact tail.out
      · go_simp
        obtain ⟨gE, hgn⟩ : ∃ g, w3.heap.size = g := ⟨_, rfl⟩
        replace HX := HX.fresh (i := 1) rfl (below_alloc (.cells (ivs (List.replicate N 0)) 2)) (own_zeros2 N 2 w3 gE hgn HNL.out)
        refine hK.out _ _ (HKEEP.out _ HX.bel) (fun hSm => ?_)
        clear hK K hSn
        have hSn := hSm
        clear hSm
        try simp only [Act.put, pa, pz, ps]
        obtain ⟨W1, hWn⟩ : ∃ W, w3.alloc (.cells (ivs (List.replicate N 0)) 2) = W := ⟨_, rfl⟩
        rw [hWn] at HX hSn ⊢
        rw [hgn]
        clear hWn hgn
        refine wpAnyH_ready (rs := [2, 8, 10]) (by kernel_rfl) (by simp) ?_
        refine AllReadyH.cons rfl (fun K hK => ?_) (AllReadyH.cons rfl (fun K hK => ?_) (AllReadyH.cons rfl (fun K hK => ?_) (AllReadyH.nil)))
        · go_simp
          (with_reducible refine (HCL.out _ HX.bel).mono ?_); rintro e W2 ⟨AX, cX, rfl, hR0, hB0⟩
          replace HX := HX.fresh (i := 0) rfl hB0 hR0
          refine hK.out _ _ (HKEEP.out _ HX.bel) (fun hSm => ?_)
          clear hK K hR0 hB0 hSn
          have hSn := hSm
          clear hSm
          try simp only [Act.put, pa, pz, ps]
          refine wpAnyH_ready (rs := [8, 10]) (by kernel_rfl) (by simp) ?_
          refine AllReadyH.cons rfl (fun K hK => ?_) (AllReadyH.cons rfl (fun K hK => ?_) (AllReadyH.nil))
          · go_simp
            obtain ⟨gH, hgn⟩ : ∃ g, W2.heap.size = g := ⟨_, rfl⟩
            replace HX := HX.fresh (i := 2) rfl (below_alloc (.cells (ivs (List.replicate N 0)) 3)) (own_zeros2 N 3 W2 gH hgn HNL.out)
            refine hK.out _ _ (HKEEP.out _ HX.bel) (fun hSm => ?_)
            clear hK K hSn
            have hSn := hSm
            clear hSm
            try simp only [Act.put, pa, pz, ps]
            obtain ⟨W3, hWn⟩ : ∃ W, W2.alloc (.cells (ivs (List.replicate N 0)) 3) = W := ⟨_, rfl⟩
            rw [hWn] at HX hSn ⊢
            rw [hgn]
            clear hWn hgn
            refine tk (v := ?_) 9 18 rfl ?_ ?_ (hQ := (fun _ _ _ h => by cases h.1))
            rotate_left
            · (intro W hSw; obtain ⟨-, a0, a1, a2, a3, a4, a5, a6, a7, a8⟩ := hSw; go_simp; try with_reducible rfl)
            simp only [Act.put, pa, pz, ps]
            refine wpAnyH_ready (rs := [10]) (by kernel_rfl) (by simp) ?_
            refine AllReadyH.cons rfl (fun K hK => ?_) (AllReadyH.nil)
            · go_simp
              obtain ⟨gP, hgn⟩ : ∃ g, W3.heap.size = g := ⟨_, rfl⟩
              have hgp : b3 ≤ gP := by have := HX.bas; omega
              replace HX := HX.alloc (.cells #[.slice none 0 0, .slice none 0 0, .slice none 0 0] 29)
              have HP : Blk (W3.alloc (.cells #[.slice none 0 0, .slice none 0 0, .slice none 0 0] 29)) gP 29 #[.slice none 0 0, .slice none 0 0, .slice none 0 0] := Blk.new hgn
              refine hK.out _ _ (HKEEP.out _ HX.bel) (fun hSm => ?_)
              clear hK K hSn
              have hSn := hSm
              clear hSm
              try simp only [Act.put, pa, pz, ps]
              obtain ⟨W4, hWn⟩ : ∃ W, W3.alloc (.cells #[.slice none 0 0, .slice none 0 0, .slice none 0 0] 29) = W := ⟨_, rfl⟩
              rw [hWn] at HX hSn HP ⊢
              rw [hgn]
              clear hWn hgn
              clear hSn
              replace HX : Hx w3 W4 b3 (pstR M N N ⟨AX, cX, some ⟨gE, 0, none⟩, N, some ⟨gH, 0, none⟩, N⟩ (tab M cp) (List.replicate N 0) (List.replicate N 0)) := HX
              revert HX
              revert HP
              revert hgp
              revert W4
              revert gP
              revert gH
              revert gE
              revert cX
              revert AX
              exact tail.out
          · go_simp
            obtain ⟨gP, hgn⟩ : ∃ g, W2.heap.size = g := ⟨_, rfl⟩
            have hgp : b3 ≤ gP := by have := HX.bas; omega
            replace HX := HX.alloc (.cells #[.slice none 0 0, .slice none 0 0, .slice none 0 0] 29)
            have HP : Blk (W2.alloc (.cells #[.slice none 0 0, .slice none 0 0, .slice none 0 0] 29)) gP 29 #[.slice none 0 0, .slice none 0 0, .slice none 0 0] := Blk.new hgn
            refine hK.out _ _ (HKEEP.out _ HX.bel) (fun hSm => ?_)
            clear hK K hSn
            have hSn := hSm
            clear hSm
            try simp only [Act.put, pa, pz, ps]
            obtain ⟨W3, hWn⟩ : ∃ W, W2.alloc (.cells #[.slice none 0 0, .slice none 0 0, .slice none 0 0] 29) = W := ⟨_, rfl⟩
            rw [hWn] at HX hSn HP ⊢
            rw [hgn]
            clear hWn hgn
            refine wpAnyH_ready (rs := [8]) (by kernel_rfl) (by simp) ?_
            refine AllReadyH.cons rfl (fun K hK => ?_) (AllReadyH.nil)
            · go_simp
              obtain ⟨gH, hgn⟩ : ∃ g, W3.heap.size = g := ⟨_, rfl⟩
              replace HX := HX.fresh (i := 2) rfl (below_alloc (.cells (ivs (List.replicate N 0)) 3)) (own_zeros2 N 3 W3 gH hgn HNL.out)
              replace HP := HP.alloc (.cells (ivs (List.replicate N 0)) 3)
              refine hK.out _ _ (HKEEP.out _ HX.bel) (fun hSm => ?_)
              clear hK K hSn
              have hSn := hSm
              clear hSm
              try simp only [Act.put, pa, pz, ps]
              obtain ⟨W4, hWn⟩ : ∃ W, W3.alloc (.cells (ivs (List.replicate N 0)) 3) = W := ⟨_, rfl⟩
              rw [hWn] at HX hSn HP ⊢
              rw [hgn]
              clear hWn hgn
              refine tk (v := ?_) 9 18 rfl ?_ ?_ (hQ := (fun _ _ _ h => by cases h.1))
              rotate_left
              · (intro W hSw; obtain ⟨-, a0, a1, a2, a3, a4, a5, a6, a7, a8⟩ := hSw; go_simp; try with_reducible rfl)
              simp only [Act.put, pa, pz, ps]
              clear hSn
              replace HX : Hx w3 W4 b3 (pstR M N N ⟨AX, cX, some ⟨gE, 0, none⟩, N, some ⟨gH, 0, none⟩, N⟩ (tab M cp) (List.replicate N 0) (List.replicate N 0)) := HX
              revert HX
              revert HP
              revert hgp
              revert W4
              revert gP
              revert gH
              revert gE
              revert cX
              revert AX
              exact tail.out
        · go_simp
          obtain ⟨gH, hgn⟩ : ∃ g, W1.heap.size = g := ⟨_, rfl⟩
          replace HX := HX.fresh (i := 2) rfl (below_alloc (.cells (ivs (List.replicate N 0)) 3)) (own_zeros2 N 3 W1 gH hgn HNL.out)
          refine hK.out _ _ (HKEEP.out _ HX.bel) (fun hSm => ?_)
          clear hK K hSn
          have hSn := hSm
          clear hSm
          try simp only [Act.put, pa, pz, ps]
          obtain ⟨W2, hWn⟩ : ∃ W, W1.alloc (.cells (ivs (List.replicate N 0)) 3) = W := ⟨_, rfl⟩
          rw [hWn] at HX hSn ⊢
          rw [hgn]
          clear hWn hgn
          refine wpAnyH_ready (rs := [2, 10]) (by kernel_rfl) (by simp) ?_
          refine AllReadyH.cons rfl (fun K hK => ?_) (AllReadyH.cons rfl (fun K hK => ?_) (AllReadyH.nil))
          · go_simp
            (with_reducible refine (HCL.out _ HX.bel).mono ?_); rintro e W3 ⟨AX, cX, rfl, hR0, hB0⟩
            replace HX := HX.fresh (i := 0) rfl hB0 hR0
            refine hK.out _ _ (HKEEP.out _ HX.bel) (fun hSm => ?_)
            clear hK K hR0 hB0 hSn
            have hSn := hSm
            clear hSm
            try simp only [Act.put, pa, pz, ps]
            refine tk (v := ?_) 9 18 rfl ?_ ?_ (hQ := (fun _ _ _ h => by cases h.1))
            rotate_left
            · (intro W hSw; obtain ⟨-, a0, a1, a2, a3, a4, a5, a6, a7, a8⟩ := hSw; go_simp; try with_reducible rfl)
            simp only [Act.put, pa, pz, ps]
            refine wpAnyH_ready (rs := [10]) (by kernel_rfl) (by simp) ?_
            refine AllReadyH.cons rfl (fun K hK => ?_) (AllReadyH.nil)
            · go_simp
              obtain ⟨gP, hgn⟩ : ∃ g, W3.heap.size = g := ⟨_, rfl⟩
              have hgp : b3 ≤ gP := by have := HX.bas; omega
              replace HX := HX.alloc (.cells #[.slice none 0 0, .slice none 0 0, .slice none 0 0] 29)
              have HP : Blk (W3.alloc (.cells #[.slice none 0 0, .slice none 0 0, .slice none 0 0] 29)) gP 29 #[.slice none 0 0, .slice none 0 0, .slice none 0 0] := Blk.new hgn
              refine hK.out _ _ (HKEEP.out _ HX.bel) (fun hSm => ?_)
              clear hK K hSn
              have hSn := hSm
              clear hSm
              try simp only [Act.put, pa, pz, ps]
              obtain ⟨W4, hWn⟩ : ∃ W, W3.alloc (.cells #[.slice none 0 0, .slice none 0 0, .slice none 0 0] 29) = W := ⟨_, rfl⟩
              rw [hWn] at HX hSn HP ⊢
              rw [hgn]
              clear hWn hgn
              clear hSn
              replace HX : Hx w3 W4 b3 (pstR M N N ⟨AX, cX, some ⟨gE, 0, none⟩, N, some ⟨gH, 0, none⟩, N⟩ (tab M cp) (List.replicate N 0) (List.replicate N 0)) := HX
              revert HX
              revert HP
              revert hgp
              revert W4
              revert gP
              revert gH
              revert gE
              revert cX
              revert AX
              exact tail.out
          · go_simp
            obtain ⟨gP, hgn⟩ : ∃ g, W2.heap.size = g := ⟨_, rfl⟩
            have hgp : b3 ≤ gP := by have := HX.bas; omega
            replace HX := HX.alloc (.cells #[.slice none 0 0, .slice none 0 0, .slice none 0 0] 29)
            have HP : Blk (W2.alloc (.cells #[.slice none 0 0, .slice none 0 0, .slice none 0 0] 29)) gP 29 #[.slice none 0 0, .slice none 0 0, .slice none 0 0] := Blk.new hgn
            refine hK.out _ _ (HKEEP.out _ HX.bel) (fun hSm => ?_)
            clear hK K hSn
            have hSn := hSm
            clear hSm
            try simp only [Act.put, pa, pz, ps]
            obtain ⟨W3, hWn⟩ : ∃ W, W2.alloc (.cells #[.slice none 0 0, .slice none 0 0, .slice none 0 0] 29) = W := ⟨_, rfl⟩
            rw [hWn] at HX hSn HP ⊢
            rw [hgn]
            clear hWn hgn
            refine wpAnyH_ready (rs := [2]) (by kernel_rfl) (by simp) ?_
            refine AllReadyH.cons rfl (fun K hK => ?_) (AllReadyH.nil)
            · go_simp
              (with_reducible refine (HCL.out _ HX.bel).mono ?_); rintro e W4 ⟨AX, cX, rfl, hR0, hB0⟩
              replace HX := HX.fresh (i := 0) rfl hB0 hR0
              replace HP := HP.below hB0 HP.lt
              refine hK.out _ _ (HKEEP.out _ HX.bel) (fun hSm => ?_)
              clear hK K hR0 hB0 hSn
              have hSn := hSm
              clear hSm
              try simp only [Act.put, pa, pz, ps]
              refine tk (v := ?_) 9 18 rfl ?_ ?_ (hQ := (fun _ _ _ h => by cases h.1))
              rotate_left
              · (intro W hSw; obtain ⟨-, a0, a1, a2, a3, a4, a5, a6, a7, a8⟩ := hSw; go_simp; try with_reducible rfl)
              simp only [Act.put, pa, pz, ps]
              clear hSn
              replace HX : Hx w3 W4 b3 (pstR M N N ⟨AX, cX, some ⟨gE, 0, none⟩, N, some ⟨gH, 0, none⟩, N⟩ (tab M cp) (List.replicate N 0) (List.replicate N 0)) := HX
              revert HX
              revert HP
              revert hgp
              revert W4
              revert gP
              revert gH
              revert gE
              revert cX
              revert AX
              exact tail.out
        · go_simp
          obtain ⟨gP, hgn⟩ : ∃ g, W1.heap.size = g := ⟨_, rfl⟩
          have hgp : b3 ≤ gP := by have := HX.bas; omega
          replace HX := HX.alloc (.cells #[.slice none 0 0, .slice none 0 0, .slice none 0 0] 29)
          have HP : Blk (W1.alloc (.cells #[.slice none 0 0, .slice none 0 0, .slice none 0 0] 29)) gP 29 #[.slice none 0 0, .slice none 0 0, .slice none 0 0] := Blk.new hgn
          refine hK.out _ _ (HKEEP.out _ HX.bel) (fun hSm => ?_)
          clear hK K hSn
          have hSn := hSm
          clear hSm
          try simp only [Act.put, pa, pz, ps]
          obtain ⟨W2, hWn⟩ : ∃ W, W1.alloc (.cells #[.slice none 0 0, .slice none 0 0, .slice none 0 0] 29) = W := ⟨_, rfl⟩
          rw [hWn] at HX hSn HP ⊢
          rw [hgn]
          clear hWn hgn
          refine wpAnyH_ready (rs := [2, 8]) (by kernel_rfl) (by simp) ?_
          refine AllReadyH.cons rfl (fun K hK => ?_) (AllReadyH.cons rfl (fun K hK => ?_) (AllReadyH.nil))
          · go_simp
            (with_reducible refine (HCL.out _ HX.bel).mono ?_); rintro e W3 ⟨AX, cX, rfl, hR0, hB0⟩
            replace HX := HX.fresh (i := 0) rfl hB0 hR0
            replace HP := HP.below hB0 HP.lt
            refine hK.out _ _ (HKEEP.out _ HX.bel) (fun hSm => ?_)
            clear hK K hR0 hB0 hSn
            have hSn := hSm
            clear hSm
            try simp only [Act.put, pa, pz, ps]
            refine wpAnyH_ready (rs := [8]) (by kernel_rfl) (by simp) ?_
            refine AllReadyH.cons rfl (fun K hK => ?_) (AllReadyH.nil)
            · go_simp
              obtain ⟨gH, hgn⟩ : ∃ g, W3.heap.size = g := ⟨_, rfl⟩
              replace HX := HX.fresh (i := 2) rfl (below_alloc (.cells (ivs (List.replicate N 0)) 3)) (own_zeros2 N 3 W3 gH hgn HNL.out)
              replace HP := HP.alloc (.cells (ivs (List.replicate N 0)) 3)
              refine hK.out _ _ (HKEEP.out _ HX.bel) (fun hSm => ?_)
              clear hK K hSn
              have hSn := hSm
              clear hSm
              try simp only [Act.put, pa, pz, ps]
              obtain ⟨W4, hWn⟩ : ∃ W, W3.alloc (.cells (ivs (List.replicate N 0)) 3) = W := ⟨_, rfl⟩
              rw [hWn] at HX hSn HP ⊢
              rw [hgn]
              clear hWn hgn
              refine tk (v := ?_) 9 18 rfl ?_ ?_ (hQ := (fun _ _ _ h => by cases h.1))
              rotate_left
              · (intro W hSw; obtain ⟨-, a0, a1, a2, a3, a4, a5, a6, a7, a8⟩ := hSw; go_simp; try with_reducible rfl)
              simp only [Act.put, pa, pz, ps]
              clear hSn
              replace HX : Hx w3 W4 b3 (pstR M N N ⟨AX, cX, some ⟨gE, 0, none⟩, N, some ⟨gH, 0, none⟩, N⟩ (tab M cp) (List.replicate N 0) (List.replicate N 0)) := HX
              revert HX
              revert HP
              revert hgp
              revert W4
              revert gP
              revert gH
              revert gE
              revert cX
              revert AX
              exact tail.out
          · go_simp
            obtain ⟨gH, hgn⟩ : ∃ g, W2.heap.size = g := ⟨_, rfl⟩
            replace HX := HX.fresh (i := 2) rfl (below_alloc (.cells (ivs (List.replicate N 0)) 3)) (own_zeros2 N 3 W2 gH hgn HNL.out)
            replace HP := HP.alloc (.cells (ivs (List.replicate N 0)) 3)
            refine hK.out _ _ (HKEEP.out _ HX.bel) (fun hSm => ?_)
            clear hK K hSn
            have hSn := hSm
            clear hSm
            try simp only [Act.put, pa, pz, ps]
            obtain ⟨W3, hWn⟩ : ∃ W, W2.alloc (.cells (ivs (List.replicate N 0)) 3) = W := ⟨_, rfl⟩
            rw [hWn] at HX hSn HP ⊢
            rw [hgn]
            clear hWn hgn
            refine wpAnyH_ready (rs := [2]) (by kernel_rfl) (by simp) ?_
            refine AllReadyH.cons rfl (fun K hK => ?_) (AllReadyH.nil)
            · go_simp
              (with_reducible refine (HCL.out _ HX.bel).mono ?_); rintro e W4 ⟨AX, cX, rfl, hR0, hB0⟩
              replace HX := HX.fresh (i := 0) rfl hB0 hR0
              replace HP := HP.below hB0 HP.lt
              refine hK.out _ _ (HKEEP.out _ HX.bel) (fun hSm => ?_)
              clear hK K hR0 hB0 hSn
              have hSn := hSm
              clear hSm
              try simp only [Act.put, pa, pz, ps]
              refine tk (v := ?_) 9 18 rfl ?_ ?_ (hQ := (fun _ _ _ h => by cases h.1))
              rotate_left
              · (intro W hSw; obtain ⟨-, a0, a1, a2, a3, a4, a5, a6, a7, a8⟩ := hSw; go_simp; try with_reducible rfl)
              simp only [Act.put, pa, pz, ps]
              clear hSn
              replace HX : Hx w3 W4 b3 (pstR M N N ⟨AX, cX, some ⟨gE, 0, none⟩, N, some ⟨gH, 0, none⟩, N⟩ (tab M cp) (List.replicate N 0) (List.replicate N 0)) := HX
              revert HX
              revert HP
              revert hgp
              revert W4
              revert gP
              revert gH
              revert gE
              revert cX
              revert AX
              exact tail.out
      · go_simp
        obtain ⟨gH, hgn⟩ : ∃ g, w3.heap.size = g := ⟨_, rfl⟩
        replace HX := HX.fresh (i := 2) rfl (below_alloc (.cells (ivs (List.replicate N 0)) 3)) (own_zeros2 N 3 w3 gH hgn HNL.out)
        refine hK.out _ _ (HKEEP.out _ HX.bel) (fun hSm => ?_)
        clear hK K hSn
        have hSn := hSm
        clear hSm
        try simp only [Act.put, pa, pz, ps]
        obtain ⟨W1, hWn⟩ : ∃ W, w3.alloc (.cells (ivs (List.replicate N 0)) 3) = W := ⟨_, rfl⟩
        rw [hWn] at HX hSn ⊢
        rw [hgn]
        clear hWn hgn
        refine wpAnyH_ready (rs := [2, 5, 10]) (by kernel_rfl) (by simp) ?_
        refine AllReadyH.cons rfl (fun K hK => ?_) (AllReadyH.cons rfl (fun K hK => ?_) (AllReadyH.cons rfl (fun K hK => ?_) (AllReadyH.nil)))
        · go_simp
          (with_reducible refine (HCL.out _ HX.bel).mono ?_); rintro e W2 ⟨AX, cX, rfl, hR0, hB0⟩
          replace HX := HX.fresh (i := 0) rfl hB0 hR0
          refine hK.out _ _ (HKEEP.out _ HX.bel) (fun hSm => ?_)
          clear hK K hR0 hB0 hSn
          have hSn := hSm
          clear hSm
          try simp only [Act.put, pa, pz, ps]
          refine wpAnyH_ready (rs := [5, 10]) (by kernel_rfl) (by simp) ?_
          refine AllReadyH.cons rfl (fun K hK => ?_) (AllReadyH.cons rfl (fun K hK => ?_) (AllReadyH.nil))
          · go_simp
            obtain ⟨gE, hgn⟩ : ∃ g, W2.heap.size = g := ⟨_, rfl⟩
            replace HX := HX.fresh (i := 1) rfl (below_alloc (.cells (ivs (List.replicate N 0)) 2)) (own_zeros2 N 2 W2 gE hgn HNL.out)
            refine hK.out _ _ (HKEEP.out _ HX.bel) (fun hSm => ?_)
            clear hK K hSn
            have hSn := hSm
            clear hSm
            try simp only [Act.put, pa, pz, ps]
            obtain ⟨W3, hWn⟩ : ∃ W, W2.alloc (.cells (ivs (List.replicate N 0)) 2) = W := ⟨_, rfl⟩
            rw [hWn] at HX hSn ⊢
            rw [hgn]
            clear hWn hgn
            refine tk (v := ?_) 9 18 rfl ?_ ?_ (hQ := (fun _ _ _ h => by cases h.1))
            rotate_left
            · (intro W hSw; obtain ⟨-, a0, a1, a2, a3, a4, a5, a6, a7, a8⟩ := hSw; go_simp; try with_reducible rfl)
            simp only [Act.put, pa, pz, ps]
            refine wpAnyH_ready (rs := [10]) (by kernel_rfl) (by simp) ?_
            refine AllReadyH.cons rfl (fun K hK => ?_) (AllReadyH.nil)
            · go_simp
              obtain ⟨gP, hgn⟩ : ∃ g, W3.heap.size = g := ⟨_, rfl⟩
              have hgp : b3 ≤ gP := by have := HX.bas; omega
              replace HX := HX.alloc (.cells #[.slice none 0 0, .slice none 0 0, .slice none 0 0] 29)
              have HP : Blk (W3.alloc (.cells #[.slice none 0 0, .slice none 0 0, .slice none 0 0] 29)) gP 29 #[.slice none 0 0, .slice none 0 0, .slice none 0 0] := Blk.new hgn
              refine hK.out _ _ (HKEEP.out _ HX.bel) (fun hSm => ?_)
              clear hK K hSn
              have hSn := hSm
              clear hSm
              try simp only [Act.put, pa, pz, ps]
              obtain ⟨W4, hWn⟩ : ∃ W, W3.alloc (.cells #[.slice none 0 0, .slice none 0 0, .slice none 0 0] 29) = W := ⟨_, rfl⟩
              rw [hWn] at HX hSn HP ⊢
              rw [hgn]
              clear hWn hgn
              clear hSn
              replace HX : Hx w3 W4 b3 (pstR M N N ⟨AX, cX, some ⟨gE, 0, none⟩, N, some ⟨gH, 0, none⟩, N⟩ (tab M cp) (List.replicate N 0) (List.replicate N 0)) := HX
              revert HX
              revert HP
              revert hgp
              revert W4
              revert gP
              revert gH
              revert gE
              revert cX
              revert AX
              exact tail.out
          · go_simp
            obtain ⟨gP, hgn⟩ : ∃ g, W2.heap.size = g := ⟨_, rfl⟩
            have hgp : b3 ≤ gP := by have := HX.bas; omega
            replace HX := HX.alloc (.cells #[.slice none 0 0, .slice none 0 0, .slice none 0 0] 29)
            have HP : Blk (W2.alloc (.cells #[.slice none 0 0, .slice none 0 0, .slice none 0 0] 29)) gP 29 #[.slice none 0 0, .slice none 0 0, .slice none 0 0] := Blk.new hgn
            refine hK.out _ _ (HKEEP.out _ HX.bel) (fun hSm => ?_)
            clear hK K hSn
            have hSn := hSm
            clear hSm
            try simp only [Act.put, pa, pz, ps]
            obtain ⟨W3, hWn⟩ : ∃ W, W2.alloc (.cells #[.slice none 0 0, .slice none 0 0, .slice none 0 0] 29) = W := ⟨_, rfl⟩
            rw [hWn] at HX hSn HP ⊢
            rw [hgn]
            clear hWn hgn
            refine wpAnyH_ready (rs := [5]) (by kernel_rfl) (by simp) ?_
            refine AllReadyH.cons rfl (fun K hK => ?_) (AllReadyH.nil)
            · go_simp
              obtain ⟨gE, hgn⟩ : ∃ g, W3.heap.size = g := ⟨_, rfl⟩
              replace HX := HX.fresh (i := 1) rfl (below_alloc (.cells (ivs (List.replicate N 0)) 2)) (own_zeros2 N 2 W3 gE hgn HNL.out)
              replace HP := HP.alloc (.cells (ivs (List.replicate N 0)) 2)
              refine hK.out _ _ (HKEEP.out _ HX.bel) (fun hSm => ?_)
              clear hK K hSn
              have hSn := hSm
              clear hSm
              try simp only [Act.put, pa, pz, ps]
              obtain ⟨W4, hWn⟩ : ∃ W, W3.alloc (.cells (ivs (List.replicate N 0)) 2) = W := ⟨_, rfl⟩
              rw [hWn] at HX hSn HP ⊢
              rw [hgn]
              clear hWn hgn
              refine tk (v := ?_) 9 18 rfl ?_ ?_ (hQ := (fun _ _ _ h => by cases h.1))
              rotate_left
              · (intro W hSw; obtain ⟨-, a0, a1, a2, a3, a4, a5, a6, a7, a8⟩ := hSw; go_simp; try with_reducible rfl)
              simp only [Act.put, pa, pz, ps]
              clear hSn
              replace HX : Hx w3 W4 b3 (pstR M N N ⟨AX, cX, some ⟨gE, 0, none⟩, N, some ⟨gH, 0, none⟩, N⟩ (tab M cp) (List.replicate N 0) (List.replicate N 0)) := HX
              revert HX
              revert HP
              revert hgp
              revert W4
              revert gP
              revert gH
              revert gE
              revert cX
              revert AX
              exact tail.out
        · go_simp
          obtain ⟨gE, hgn⟩ : ∃ g, W1.heap.size = g := ⟨_, rfl⟩
          replace HX := HX.fresh (i := 1) rfl (below_alloc (.cells (ivs (List.replicate N 0)) 2)) (own_zeros2 N 2 W1 gE hgn HNL.out)
          refine hK.out _ _ (HKEEP.out _ HX.bel) (fun hSm => ?_)
          clear hK K hSn
          have hSn := hSm
          clear hSm
          try simp only [Act.put, pa, pz, ps]
          obtain ⟨W2, hWn⟩ : ∃ W, W1.alloc (.cells (ivs (List.replicate N 0)) 2) = W := ⟨_, rfl⟩
          rw [hWn] at HX hSn ⊢
          rw [hgn]
          clear hWn hgn
          refine wpAnyH_ready (rs := [2, 10]) (by kernel_rfl) (by simp) ?_
          refine AllReadyH.cons rfl (fun K hK => ?_) (AllReadyH.cons rfl (fun K hK => ?_) (AllReadyH.nil))
          · go_simp
            (with_reducible refine (HCL.out _ HX.bel).mono ?_); rintro e W3 ⟨AX, cX, rfl, hR0, hB0⟩
            replace HX := HX.fresh (i := 0) rfl hB0 hR0
            refine hK.out _ _ (HKEEP.out _ HX.bel) (fun hSm => ?_)
            clear hK K hR0 hB0 hSn
            have hSn := hSm
            clear hSm
            try simp only [Act.put, pa, pz, ps]
            refine tk (v := ?_) 9 18 rfl ?_ ?_ (hQ := (fun _ _ _ h => by cases h.1))
            rotate_left
            · (intro W hSw; obtain ⟨-, a0, a1, a2, a3, a4, a5, a6, a7, a8⟩ := hSw; go_simp; try with_reducible rfl)
            simp only [Act.put, pa, pz, ps]
            refine wpAnyH_ready (rs := [10]) (by kernel_rfl) (by simp) ?_
            refine AllReadyH.cons rfl (fun K hK => ?_) (AllReadyH.nil)
            · go_simp
              obtain ⟨gP, hgn⟩ : ∃ g, W3.heap.size = g := ⟨_, rfl⟩
              have hgp : b3 ≤ gP := by have := HX.bas; omega
              replace HX := HX.alloc (.cells #[.slice none 0 0, .slice none 0 0, .slice none 0 0] 29)
              have HP : Blk (W3.alloc (.cells #[.slice none 0 0, .slice none 0 0, .slice none 0 0] 29)) gP 29 #[.slice none 0 0, .slice none 0 0, .slice none 0 0] := Blk.new hgn
              refine hK.out _ _ (HKEEP.out _ HX.bel) (fun hSm => ?_)
              clear hK K hSn
              have hSn := hSm
              clear hSm
              try simp only [Act.put, pa, pz, ps]
              obtain ⟨W4, hWn⟩ : ∃ W, W3.alloc (.cells #[.slice none 0 0, .slice none 0 0, .slice none 0 0] 29) = W := ⟨_, rfl⟩
              rw [hWn] at HX hSn HP ⊢
              rw [hgn]
              clear hWn hgn
              clear hSn
              replace HX : Hx w3 W4 b3 (pstR M N N ⟨AX, cX, some ⟨gE, 0, none⟩, N, some ⟨gH, 0, none⟩, N⟩ (tab M cp) (List.replicate N 0) (List.replicate N 0)) := HX
              revert HX
              revert HP
              revert hgp
              revert W4
              revert gP
              revert gH
              revert gE
              revert cX
              revert AX
              exact tail.out
          · go_simp
            obtain ⟨gP, hgn⟩ : ∃ g, W2.heap.size = g := ⟨_, rfl⟩
            have hgp : b3 ≤ gP := by have := HX.bas; omega
            replace HX := HX.alloc (.cells #[.slice none 0 0, .slice none 0 0, .slice none 0 0] 29)
            have HP : Blk (W2.alloc (.cells #[.slice none 0 0, .slice none 0 0, .slice none 0 0] 29)) gP 29 #[.slice none 0 0, .slice none 0 0, .slice none 0 0] := Blk.new hgn
            refine hK.out _ _ (HKEEP.out _ HX.bel) (fun hSm => ?_)
            clear hK K hSn
            have hSn := hSm
            clear hSm
            try simp only [Act.put, pa, pz, ps]
            obtain ⟨W3, hWn⟩ : ∃ W, W2.alloc (.cells #[.slice none 0 0, .slice none 0 0, .slice none 0 0] 29) = W := ⟨_, rfl⟩
            rw [hWn] at HX hSn HP ⊢
            rw [hgn]
            clear hWn hgn
            refine wpAnyH_ready (rs := [2]) (by kernel_rfl) (by simp) ?_
            refine AllReadyH.cons rfl (fun K hK => ?_) (AllReadyH.nil)
            · go_simp
              (with_reducible refine (HCL.out _ HX.bel).mono ?_); rintro e W4 ⟨AX, cX, rfl, hR0, hB0⟩
              replace HX := HX.fresh (i := 0) rfl hB0 hR0
              replace HP := HP.below hB0 HP.lt
              refine hK.out _ _ (HKEEP.out _ HX.bel) (fun hSm => ?_)
              clear hK K hR0 hB0 hSn
              have hSn := hSm
              clear hSm
              try simp only [Act.put, pa, pz, ps]
              refine tk (v := ?_) 9 18 rfl ?_ ?_ (hQ := (fun _ _ _ h => by cases h.1))
              rotate_left
              · (intro W hSw; obtain ⟨-, a0, a1, a2, a3, a4, a5, a6, a7, a8⟩ := hSw; go_simp; try with_reducible rfl)
              simp only [Act.put, pa, pz, ps]
              clear hSn
              replace HX : Hx w3 W4 b3 (pstR M N N ⟨AX, cX, some ⟨gE, 0, none⟩, N, some ⟨gH, 0, none⟩, N⟩ (tab M cp) (List.replicate N 0) (List.replicate N 0)) := HX
              revert HX
              revert HP
              revert hgp
              revert W4
              revert gP
              revert gH
              revert gE
              revert cX
              revert AX
              exact tail.out
        · go_simp
          obtain ⟨gP, hgn⟩ : ∃ g, W1.heap.size = g := ⟨_, rfl⟩
          have hgp : b3 ≤ gP := by have := HX.bas; omega
          replace HX := HX.alloc (.cells #[.slice none 0 0, .slice none 0 0, .slice none 0 0] 29)
          have HP : Blk (W1.alloc (.cells #[.slice none 0 0, .slice none 0 0, .slice none 0 0] 29)) gP 29 #[.slice none 0 0, .slice none 0 0, .slice none 0 0] := Blk.new hgn
          refine hK.out _ _ (HKEEP.out _ HX.bel) (fun hSm => ?_)
          clear hK K hSn
          have hSn := hSm
          clear hSm
          try simp only [Act.put, pa, pz, ps]
          obtain ⟨W2, hWn⟩ : ∃ W, W1.alloc (.cells #[.slice none 0 0, .slice none 0 0, .slice none 0 0] 29) = W := ⟨_, rfl⟩
          rw [hWn] at HX hSn HP ⊢
          rw [hgn]
          clear hWn hgn
          refine wpAnyH_ready (rs := [2, 5]) (by kernel_rfl) (by simp) ?_
          refine AllReadyH.cons rfl (fun K hK => ?_) (AllReadyH.cons rfl (fun K hK => ?_) (AllReadyH.nil))
          · go_simp
            (with_reducible refine (HCL.out _ HX.bel).mono ?_); rintro e W3 ⟨AX, cX, rfl, hR0, hB0⟩
            replace HX := HX.fresh (i := 0) rfl hB0 hR0
            replace HP := HP.below hB0 HP.lt
            refine hK.out _ _ (HKEEP.out _ HX.bel) (fun hSm => ?_)
            clear hK K hR0 hB0 hSn
            have hSn := hSm
            clear hSm
            try simp only [Act.put, pa, pz, ps]
            refine wpAnyH_ready (rs := [5]) (by kernel_rfl) (by simp) ?_
            refine AllReadyH.cons rfl (fun K hK => ?_) (AllReadyH.nil)
            · go_simp
              obtain ⟨gE, hgn⟩ : ∃ g, W3.heap.size = g := ⟨_, rfl⟩
              replace HX := HX.fresh (i := 1) rfl (below_alloc (.cells (ivs (List.replicate N 0)) 2)) (own_zeros2 N 2 W3 gE hgn HNL.out)
              replace HP := HP.alloc (.cells (ivs (List.replicate N 0)) 2)
              refine hK.out _ _ (HKEEP.out _ HX.bel) (fun hSm => ?_)
              clear hK K hSn
              have hSn := hSm
              clear hSm
              try simp only [Act.put, pa, pz, ps]
              obtain ⟨W4, hWn⟩ : ∃ W, W3.alloc (.cells (ivs (List.replicate N 0)) 2) = W := ⟨_, rfl⟩
              rw [hWn] at HX hSn HP ⊢
              rw [hgn]
              clear hWn hgn
              refine tk (v := ?_) 9 18 rfl ?_ ?_ (hQ := (fun _ _ _ h => by cases h.1))
              rotate_left
              · (intro W hSw; obtain ⟨-, a0, a1, a2, a3, a4, a5, a6, a7, a8⟩ := hSw; go_simp; try with_reducible rfl)
              simp only [Act.put, pa, pz, ps]
              clear hSn
              replace HX : Hx w3 W4 b3 (pstR M N N ⟨AX, cX, some ⟨gE, 0, none⟩, N, some ⟨gH, 0, none⟩, N⟩ (tab M cp) (List.replicate N 0) (List.replicate N 0)) := HX
              revert HX
              revert HP
              revert hgp
              revert W4
              revert gP
              revert gH
              revert gE
              revert cX
              revert AX
              exact tail.out
          · go_simp
            obtain ⟨gE, hgn⟩ : ∃ g, W2.heap.size = g := ⟨_, rfl⟩
            replace HX := HX.fresh (i := 1) rfl (below_alloc (.cells (ivs (List.replicate N 0)) 2)) (own_zeros2 N 2 W2 gE hgn HNL.out)
            replace HP := HP.alloc (.cells (ivs (List.replicate N 0)) 2)
            refine hK.out _ _ (HKEEP.out _ HX.bel) (fun hSm => ?_)
            clear hK K hSn
            have hSn := hSm
            clear hSm
            try simp only [Act.put, pa, pz, ps]
            obtain ⟨W3, hWn⟩ : ∃ W, W2.alloc (.cells (ivs (List.replicate N 0)) 2) = W := ⟨_, rfl⟩
            rw [hWn] at HX hSn HP ⊢
            rw [hgn]
            clear hWn hgn
            refine wpAnyH_ready (rs := [2]) (by kernel_rfl) (by simp) ?_
            refine AllReadyH.cons rfl (fun K hK => ?_) (AllReadyH.nil)
            · go_simp
              (with_reducible refine (HCL.out _ HX.bel).mono ?_); rintro e W4 ⟨AX, cX, rfl, hR0, hB0⟩
              replace HX := HX.fresh (i := 0) rfl hB0 hR0
              replace HP := HP.below hB0 HP.lt
              refine hK.out _ _ (HKEEP.out _ HX.bel) (fun hSm => ?_)
              clear hK K hR0 hB0 hSn
              have hSn := hSm
              clear hSm
              try simp only [Act.put, pa, pz, ps]
              refine tk (v := ?_) 9 18 rfl ?_ ?_ (hQ := (fun _ _ _ h => by cases h.1))
              rotate_left
              · (intro W hSw; obtain ⟨-, a0, a1, a2, a3, a4, a5, a6, a7, a8⟩ := hSw; go_simp; try with_reducible rfl)
              simp only [Act.put, pa, pz, ps]
              clear hSn
              replace HX : Hx w3 W4 b3 (pstR M N N ⟨AX, cX, some ⟨gE, 0, none⟩, N, some ⟨gH, 0, none⟩, N⟩ (tab M cp) (List.replicate N 0) (List.replicate N 0)) := HX
              revert HX
              revert HP
              revert hgp
              revert W4
              revert gP
              revert gH
              revert gE
              revert cX
              revert AX
              exact tail.out
      · go_simp
        obtain ⟨gP, hgn⟩ : ∃ g, w3.heap.size = g := ⟨_, rfl⟩
        have hgp : b3 ≤ gP := by have := HX.bas; omega
        replace HX := HX.alloc (.cells #[.slice none 0 0, .slice none 0 0, .slice none 0 0] 29)
        have HP : Blk (w3.alloc (.cells #[.slice none 0 0, .slice none 0 0, .slice none 0 0] 29)) gP 29 #[.slice none 0 0, .slice none 0 0, .slice none 0 0] := Blk.new hgn
        refine hK.out _ _ (HKEEP.out _ HX.bel) (fun hSm => ?_)
        clear hK K hSn
        have hSn := hSm
        clear hSm
        try simp only [Act.put, pa, pz, ps]
        obtain ⟨W1, hWn⟩ : ∃ W, w3.alloc (.cells #[.slice none 0 0, .slice none 0 0, .slice none 0 0] 29) = W := ⟨_, rfl⟩
        rw [hWn] at HX hSn HP ⊢
        rw [hgn]
        clear hWn hgn
        refine wpAnyH_ready (rs := [2, 5, 8]) (by kernel_rfl) (by simp) ?_
        refine AllReadyH.cons rfl (fun K hK => ?_) (AllReadyH.cons rfl (fun K hK => ?_) (AllReadyH.cons rfl (fun K hK => ?_) (AllReadyH.nil)))
        · go_simp
          (with_reducible refine (HCL.out _ HX.bel).mono ?_); rintro e W2 ⟨AX, cX, rfl, hR0, hB0⟩
          replace HX := HX.fresh (i := 0) rfl hB0 hR0
          replace HP := HP.below hB0 HP.lt
          refine hK.out _ _ (HKEEP.out _ HX.bel) (fun hSm => ?_)
          clear hK K hR0 hB0 hSn
          have hSn := hSm
          clear hSm
          try simp only [Act.put, pa, pz, ps]
          refine wpAnyH_ready (rs := [5, 8]) (by kernel_rfl) (by simp) ?_
          refine AllReadyH.cons rfl (fun K hK => ?_) (AllReadyH.cons rfl (fun K hK => ?_) (AllReadyH.nil))
          · go_simp
            obtain ⟨gE, hgn⟩ : ∃ g, W2.heap.size = g := ⟨_, rfl⟩
            replace HX := HX.fresh (i := 1) rfl (below_alloc (.cells (ivs (List.replicate N 0)) 2)) (own_zeros2 N 2 W2 gE hgn HNL.out)
            replace HP := HP.alloc (.cells (ivs (List.replicate N 0)) 2)
            refine hK.out _ _ (HKEEP.out _ HX.bel) (fun hSm => ?_)
            clear hK K hSn
            have hSn := hSm
            clear hSm
            try simp only [Act.put, pa, pz, ps]
            obtain ⟨W3, hWn⟩ : ∃ W, W2.alloc (.cells (ivs (List.replicate N 0)) 2) = W := ⟨_, rfl⟩
            rw [hWn] at HX hSn HP ⊢
            rw [hgn]
            clear hWn hgn
            refine wpAnyH_ready (rs := [8]) (by kernel_rfl) (by simp) ?_
            refine AllReadyH.cons rfl (fun K hK => ?_) (AllReadyH.nil)
            · go_simp
              obtain ⟨gH, hgn⟩ : ∃ g, W3.heap.size = g := ⟨_, rfl⟩
              replace HX := HX.fresh (i := 2) rfl (below_alloc (.cells (ivs (List.replicate N 0)) 3)) (own_zeros2 N 3 W3 gH hgn HNL.out)
              replace HP := HP.alloc (.cells (ivs (List.replicate N 0)) 3)
              refine hK.out _ _ (HKEEP.out _ HX.bel) (fun hSm => ?_)
              clear hK K hSn
              have hSn := hSm
              clear hSm
              try simp only [Act.put, pa, pz, ps]
              obtain ⟨W4, hWn⟩ : ∃ W, W3.alloc (.cells (ivs (List.replicate N 0)) 3) = W := ⟨_, rfl⟩
              rw [hWn] at HX hSn HP ⊢
              rw [hgn]
              clear hWn hgn
              refine tk (v := ?_) 9 18 rfl ?_ ?_ (hQ := (fun _ _ _ h => by cases h.1))
              rotate_left
              · (intro W hSw; obtain ⟨-, a0, a1, a2, a3, a4, a5, a6, a7, a8⟩ := hSw; go_simp; try with_reducible rfl)
              simp only [Act.put, pa, pz, ps]
              clear hSn
              replace HX : Hx w3 W4 b3 (pstR M N N ⟨AX, cX, some ⟨gE, 0, none⟩, N, some ⟨gH, 0, none⟩, N⟩ (tab M cp) (List.replicate N 0) (List.replicate N 0)) := HX
              revert HX
              revert HP
              revert hgp
              revert W4
              revert gP
              revert gH
              revert gE
              revert cX
              revert AX
              exact tail.out
          · go_simp
            obtain ⟨gH, hgn⟩ : ∃ g, W2.heap.size = g := ⟨_, rfl⟩
            replace HX := HX.fresh (i := 2) rfl (below_alloc (.cells (ivs (List.replicate N 0)) 3)) (own_zeros2 N 3 W2 gH hgn HNL.out)
            replace HP := HP.alloc (.cells (ivs (List.replicate N 0)) 3)
            refine hK.out _ _ (HKEEP.out _ HX.bel) (fun hSm => ?_)
            clear hK K hSn
            have hSn := hSm
            clear hSm
            try simp only [Act.put, pa, pz, ps]
            obtain ⟨W3, hWn⟩ : ∃ W, W2.alloc (.cells (ivs (List.replicate N 0)) 3) = W := ⟨_, rfl⟩
            rw [hWn] at HX hSn HP ⊢
            rw [hgn]
            clear hWn hgn
            refine wpAnyH_ready (rs := [5]) (by kernel_rfl) (by simp) ?_
            refine AllReadyH.cons rfl (fun K hK => ?_) (AllReadyH.nil)
            · go_simp
              obtain ⟨gE, hgn⟩ : ∃ g, W3.heap.size = g := ⟨_, rfl⟩
              replace HX := HX.fresh (i := 1) rfl (below_alloc (.cells (ivs (List.replicate N 0)) 2)) (own_zeros2 N 2 W3 gE hgn HNL.out)
              replace HP := HP.alloc (.cells (ivs (List.replicate N 0)) 2)
              refine hK.out _ _ (HKEEP.out _ HX.bel) (fun hSm => ?_)
              clear hK K hSn
              have hSn := hSm
              clear hSm
              try simp only [Act.put, pa, pz, ps]
              obtain ⟨W4, hWn⟩ : ∃ W, W3.alloc (.cells (ivs (List.replicate N 0)) 2) = W := ⟨_, rfl⟩
              rw [hWn] at HX hSn HP ⊢
              rw [hgn]
              clear hWn hgn
              refine tk (v := ?_) 9 18 rfl ?_ ?_ (hQ := (fun _ _ _ h => by cases h.1))
              rotate_left
              · (intro W hSw; obtain ⟨-, a0, a1, a2, a3, a4, a5, a6, a7, a8⟩ := hSw; go_simp; try with_reducible rfl)
              simp only [Act.put, pa, pz, ps]
              clear hSn
              replace HX : Hx w3 W4 b3 (pstR M N N ⟨AX, cX, some ⟨gE, 0, none⟩, N, some ⟨gH, 0, none⟩, N⟩ (tab M cp) (List.replicate N 0) (List.replicate N 0)) := HX
              revert HX
              revert HP
              revert hgp
              revert W4
              revert gP
              revert gH
              revert gE
              revert cX
              revert AX
              exact tail.out
        · go_simp
          obtain ⟨gE, hgn⟩ : ∃ g, W1.heap.size = g := ⟨_, rfl⟩
          replace HX := HX.fresh (i := 1) rfl (below_alloc (.cells (ivs (List.replicate N 0)) 2)) (own_zeros2 N 2 W1 gE hgn HNL.out)
          replace HP := HP.alloc (.cells (ivs (List.replicate N 0)) 2)
          refine hK.out _ _ (HKEEP.out _ HX.bel) (fun hSm => ?_)
          clear hK K hSn
          have hSn := hSm
          clear hSm
          try simp only [Act.put, pa, pz, ps]
          obtain ⟨W2, hWn⟩ : ∃ W, W1.alloc (.cells (ivs (List.replicate N 0)) 2) = W := ⟨_, rfl⟩
          rw [hWn] at HX hSn HP ⊢
          rw [hgn]
          clear hWn hgn
          refine wpAnyH_ready (rs := [2, 8]) (by kernel_rfl) (by simp) ?_
          refine AllReadyH.cons rfl (fun K hK => ?_) (AllReadyH.cons rfl (fun K hK => ?_) (AllReadyH.nil))
          · go_simp
            (with_reducible refine (HCL.out _ HX.bel).mono ?_); rintro e W3 ⟨AX, cX, rfl, hR0, hB0⟩
            replace HX := HX.fresh (i := 0) rfl hB0 hR0
            replace HP := HP.below hB0 HP.lt
            refine hK.out _ _ (HKEEP.out _ HX.bel) (fun hSm => ?_)
            clear hK K hR0 hB0 hSn
            have hSn := hSm
            clear hSm
            try simp only [Act.put, pa, pz, ps]
            refine wpAnyH_ready (rs := [8]) (by kernel_rfl) (by simp) ?_
            refine AllReadyH.cons rfl (fun K hK => ?_) (AllReadyH.nil)
            · go_simp
              obtain ⟨gH, hgn⟩ : ∃ g, W3.heap.size = g := ⟨_, rfl⟩
              replace HX := HX.fresh (i := 2) rfl (below_alloc (.cells (ivs (List.replicate N 0)) 3)) (own_zeros2 N 3 W3 gH hgn HNL.out)
              replace HP := HP.alloc (.cells (ivs (List.replicate N 0)) 3)
              refine hK.out _ _ (HKEEP.out _ HX.bel) (fun hSm => ?_)
              clear hK K hSn
              have hSn := hSm
              clear hSm
              try simp only [Act.put, pa, pz, ps]
              obtain ⟨W4, hWn⟩ : ∃ W, W3.alloc (.cells (ivs (List.replicate N 0)) 3) = W := ⟨_, rfl⟩
              rw [hWn] at HX hSn HP ⊢
              rw [hgn]
              clear hWn hgn
              refine tk (v := ?_) 9 18 rfl ?_ ?_ (hQ := (fun _ _ _ h => by cases h.1))
              rotate_left
              · (intro W hSw; obtain ⟨-, a0, a1, a2, a3, a4, a5, a6, a7, a8⟩ := hSw; go_simp; try with_reducible rfl)
              simp only [Act.put, pa, pz, ps]
              clear hSn
              replace HX : Hx w3 W4 b3 (pstR M N N ⟨AX, cX, some ⟨gE, 0, none⟩, N, some ⟨gH, 0, none⟩, N⟩ (tab M cp) (List.replicate N 0) (List.replicate N 0)) := HX
              revert HX
              revert HP
              revert hgp
              revert W4
              revert gP
              revert gH
              revert gE
              revert cX
              revert AX
              exact tail.out
          · go_simp
            obtain ⟨gH, hgn⟩ : ∃ g, W2.heap.size = g := ⟨_, rfl⟩
            replace HX := HX.fresh (i := 2) rfl (below_alloc (.cells (ivs (List.replicate N 0)) 3)) (own_zeros2 N 3 W2 gH hgn HNL.out)
            replace HP := HP.alloc (.cells (ivs (List.replicate N 0)) 3)
            refine hK.out _ _ (HKEEP.out _ HX.bel) (fun hSm => ?_)
            clear hK K hSn
            have hSn := hSm
            clear hSm
            try simp only [Act.put, pa, pz, ps]
            obtain ⟨W3, hWn⟩ : ∃ W, W2.alloc (.cells (ivs (List.replicate N 0)) 3) = W := ⟨_, rfl⟩
            rw [hWn] at HX hSn HP ⊢
            rw [hgn]
            clear hWn hgn
            refine wpAnyH_ready (rs := [2]) (by kernel_rfl) (by simp) ?_
            refine AllReadyH.cons rfl (fun K hK => ?_) (AllReadyH.nil)
            · go_simp
              (with_reducible refine (HCL.out _ HX.bel).mono ?_); rintro e W4 ⟨AX, cX, rfl, hR0, hB0⟩
              replace HX := HX.fresh (i := 0) rfl hB0 hR0
              replace HP := HP.below hB0 HP.lt
              refine hK.out _ _ (HKEEP.out _ HX.bel) (fun hSm => ?_)
              clear hK K hR0 hB0 hSn
              have hSn := hSm
              clear hSm
              try simp only [Act.put, pa, pz, ps]
              refine tk (v := ?_) 9 18 rfl ?_ ?_ (hQ := (fun _ _ _ h => by cases h.1))
              rotate_left
              · (intro W hSw; obtain ⟨-, a0, a1, a2, a3, a4, a5, a6, a7, a8⟩ := hSw; go_simp; try with_reducible rfl)
              simp only [Act.put, pa, pz, ps]
              clear hSn
              replace HX : Hx w3 W4 b3 (pstR M N N ⟨AX, cX, some ⟨gE, 0, none⟩, N, some ⟨gH, 0, none⟩, N⟩ (tab M cp) (List.replicate N 0) (List.replicate N 0)) := HX
              revert HX
              revert HP
              revert hgp
              revert W4
              revert gP
              revert gH
              revert gE
              revert cX
              revert AX
              exact tail.out
        · go_simp
          obtain ⟨gH, hgn⟩ : ∃ g, W1.heap.size = g := ⟨_, rfl⟩
          replace HX := HX.fresh (i := 2) rfl (below_alloc (.cells (ivs (List.replicate N 0)) 3)) (own_zeros2 N 3 W1 gH hgn HNL.out)
          replace HP := HP.alloc (.cells (ivs (List.replicate N 0)) 3)
          refine hK.out _ _ (HKEEP.out _ HX.bel) (fun hSm => ?_)
          clear hK K hSn
          have hSn := hSm
          clear hSm
          try simp only [Act.put, pa, pz, ps]
          obtain ⟨W2, hWn⟩ : ∃ W, W1.alloc (.cells (ivs (List.replicate N 0)) 3) = W := ⟨_, rfl⟩
          rw [hWn] at HX hSn HP ⊢
          rw [hgn]
          clear hWn hgn
          refine wpAnyH_ready (rs := [2, 5]) (by kernel_rfl) (by simp) ?_
          refine AllReadyH.cons rfl (fun K hK => ?_) (AllReadyH.cons rfl (fun K hK => ?_) (AllReadyH.nil))
          · go_simp
            (with_reducible refine (HCL.out _ HX.bel).mono ?_); rintro e W3 ⟨AX, cX, rfl, hR0, hB0⟩
            replace HX := HX.fresh (i := 0) rfl hB0 hR0
            replace HP := HP.below hB0 HP.lt
            refine hK.out _ _ (HKEEP.out _ HX.bel) (fun hSm => ?_)
            clear hK K hR0 hB0 hSn
            have hSn := hSm
            clear hSm
            try simp only [Act.put, pa, pz, ps]
            refine wpAnyH_ready (rs := [5]) (by kernel_rfl) (by simp) ?_
            refine AllReadyH.cons rfl (fun K hK => ?_) (AllReadyH.nil)
            · go_simp
              obtain ⟨gE, hgn⟩ : ∃ g, W3.heap.size = g := ⟨_, rfl⟩
              replace HX := HX.fresh (i := 1) rfl (below_alloc (.cells (ivs (List.replicate N 0)) 2)) (own_zeros2 N 2 W3 gE hgn HNL.out)
              replace HP := HP.alloc (.cells (ivs (List.replicate N 0)) 2)
              refine hK.out _ _ (HKEEP.out _ HX.bel) (fun hSm => ?_)
              clear hK K hSn
              have hSn := hSm
              clear hSm
              try simp only [Act.put, pa, pz, ps]
              obtain ⟨W4, hWn⟩ : ∃ W, W3.alloc (.cells (ivs (List.replicate N 0)) 2) = W := ⟨_, rfl⟩
              rw [hWn] at HX hSn HP ⊢
              rw [hgn]
              clear hWn hgn
              refine tk (v := ?_) 9 18 rfl ?_ ?_ (hQ := (fun _ _ _ h => by cases h.1))
              rotate_left
              · (intro W hSw; obtain ⟨-, a0, a1, a2, a3, a4, a5, a6, a7, a8⟩ := hSw; go_simp; try with_reducible rfl)
              simp only [Act.put, pa, pz, ps]
              clear hSn
              replace HX : Hx w3 W4 b3 (pstR M N N ⟨AX, cX, some ⟨gE, 0, none⟩, N, some ⟨gH, 0, none⟩, N⟩ (tab M cp) (List.replicate N 0) (List.replicate N 0)) := HX
              revert HX
              revert HP
              revert hgp
              revert W4
              revert gP
              revert gH
              revert gE
              revert cX
              revert AX
              exact tail.out
          · go_simp
            obtain ⟨gE, hgn⟩ : ∃ g, W2.heap.size = g := ⟨_, rfl⟩
            replace HX := HX.fresh (i := 1) rfl (below_alloc (.cells (ivs (List.replicate N 0)) 2)) (own_zeros2 N 2 W2 gE hgn HNL.out)
            replace HP := HP.alloc (.cells (ivs (List.replicate N 0)) 2)
            refine hK.out _ _ (HKEEP.out _ HX.bel) (fun hSm => ?_)
            clear hK K hSn
            have hSn := hSm
            clear hSm
            try simp only [Act.put, pa, pz, ps]
            obtain ⟨W3, hWn⟩ : ∃ W, W2.alloc (.cells (ivs (List.replicate N 0)) 2) = W := ⟨_, rfl⟩
            rw [hWn] at HX hSn HP ⊢
            rw [hgn]
            clear hWn hgn
            refine wpAnyH_ready (rs := [2]) (by kernel_rfl) (by simp) ?_
            refine AllReadyH.cons rfl (fun K hK => ?_) (AllReadyH.nil)
            · go_simp
              (with_reducible refine (HCL.out _ HX.bel).mono ?_); rintro e W4 ⟨AX, cX, rfl, hR0, hB0⟩
              replace HX := HX.fresh (i := 0) rfl hB0 hR0
              replace HP := HP.below hB0 HP.lt
              refine hK.out _ _ (HKEEP.out _ HX.bel) (fun hSm => ?_)
              clear hK K hR0 hB0 hSn
              have hSn := hSm
              clear hSm
              try simp only [Act.put, pa, pz, ps]
              refine tk (v := ?_) 9 18 rfl ?_ ?_ (hQ := (fun _ _ _ h => by cases h.1))
              rotate_left
              · (intro W hSw; obtain ⟨-, a0, a1, a2, a3, a4, a5, a6, a7, a8⟩ := hSw; go_simp; try with_reducible rfl)
              simp only [Act.put, pa, pz, ps]
              clear hSn
              replace HX : Hx w3 W4 b3 (pstR M N N ⟨AX, cX, some ⟨gE, 0, none⟩, N, some ⟨gH, 0, none⟩, N⟩ (tab M cp) (List.replicate N 0) (List.replicate N 0)) := HX
              revert HX
              revert HP
              revert hgp
              revert W4
              revert gP
              revert gH
              revert gE
              revert cX
              revert AX
              exact tail.out
    case tailp =>
      refine Lib.hid ?_
      intro AX cX gE gH gP W4 hgp HP HX
      have hSn := HKEEP.out _ HX.bel
      obtain ⟨⟨q0, q1, q2⟩, ⟨f0, f1, f2⟩, hzp⟩ := HP.full3
      refine wpAnyH_ready (rs := [11]) (by kernel_rfl) (by simp) ?_
      refine AllReadyH.cons rfl (fun K hK => ?_) AllReadyH.nil
      go_simp
      have HX4 := HX.put3 (x := .slice AX M cX) (y := .slice (some ⟨gE, 0, none⟩) N N) (z := .slice (some ⟨gH, 0, none⟩) N N) HP pst_ne hgp
      have HP4 := HP.put3 (x := .slice AX M cX) (y := .slice (some ⟨gE, 0, none⟩) N N) (z := .slice (some ⟨gH, 0, none⟩) N N)
      refine hK.out _ _ (HKEEP.out _ HX4.bel) (fun _ => ?_)
      clear hK K
      try simp only [Act.put, pa, pz, ps]
      refine wpAnyH_done (by kernel_rfl) ?_ _
      exact ⟨rfl, _, _, _, _, _, rfl, HX4, HP4⟩
  case rest =>
    rintro e a3 W3 ⟨rfl, AX, cX, gE, gH, gP, rfl, HX3, HP3⟩
    have Bw3 : Below w.heap.size w W3 := below_step HB3.out (by rw [HBE.out]; exact HX3.bel)
    have C3 := HC3.out.below HX3.bel (by have := HC3.out.lt; have := HBE.out; omega)
    have R3 := HR3.out.below HX3.bel (by have := HR3.out.lt; have := HBE.out; omega)
    obtain ⟨a0, a1, a2, a3, a4, a5, a6, a7, a8⟩ := C3.at9
    have p0 := HP3.cell 0; have p1 := HP3.cell 1; have p2 := HP3.cell 2
    simp only [List.getElem?_toArray, List.getElem?_cons_zero, List.getElem?_cons_succ] at p0 p1 p2
    obtain ⟨hcs, hfs, hzh, hbh⟩ := HX3.cell (i := 2) (j := s) rfl hsN (lvs_at (by simp; exact hsN))
    have hz1 := C3.lt; have hz2 := R3.lt; have hz3 := HP3.lt
    have hbase : b3 ≤ W3.heap.size := HX3.bas
    have hw2z : w.heap.size + 2 ≤ b3 := by have := HR3.out.lt; have := HBE.out; omega
    have gne : ∀ g, (AX = some ⟨g, 0, none⟩ ∨ g = gE ∨ g = gH) → g ≠ gP ∧ b3 ≤ g ∧ g < W3.heap.size := by
      have key : ∀ (i : Nat) (r : Rw), (pstR M N N ⟨AX, cX, some ⟨gE, 0, none⟩, N, some ⟨gH, 0, none⟩, N⟩ (tab M cp) (List.replicate N 0) (List.replicate N 0))[i]? = some r → r.t ≠ 29 → ∀ g, r.A = some ⟨g, 0, none⟩ → g ≠ gP ∧ b3 ≤ g ∧ g < W3.heap.size := by
        intro i r hi ht g hA
        have ho := HX3.held.own i r hi
        obtain ⟨t, A, n, c, xs⟩ := r
        dsimp only at hA ht
        subst hA
        obtain ⟨cur, hk⟩ := own_blk ho
        have hl := ho.lt g rfl
        refine ⟨fun e => ?_, hl.1, hl.2⟩
        subst e
        have h2 := hk.symm.trans HP3
        injection h2 with h2
        injection h2 with _ h3
        exact ht h3
      rintro g (h | rfl | rfl)
      · exact key 0 _ rfl (show (2 : TypeId) ≠ 29 by decide) g h
      · exact key 1 _ rfl (show (2 : TypeId) ≠ 29 by decide) _ rfl
      · exact key 2 _ rfl (show (3 : TypeId) ≠ 29 by decide) _ rfl
    have hHE : gH ≠ gE := fun e => HX3.held.ne 1 2 _ _ (by omega) rfl rfl gE rfl (by rw [← e]; rfl)
    have hHX : AX ≠ some ⟨gH, 0, none⟩ := fun e => HX3.held.ne 0 2 _ _ (by omega) rfl rfl gH (by rw [e]; rfl) rfl
    have HX4 := HX3.put (i := 2) rfl s (.int .i64 (N : Int))
    have HP4 := HP3.far (p := ⟨gH, s, none⟩) (fun e => (gne gH (.inr (.inr rfl))).1 e.symm) (.int .i64 (N : Int))
    have C4 := C3.far (p := ⟨gH, s, none⟩) (by simp; omega) (.int .i64 (N : Int))
    have R4 := R3.far (p := ⟨gH, s, none⟩) (by simp; omega) (.int .i64 (N : Int))
    have Bw4 := Bw3.setCell (p := ⟨gH, s, none⟩) (by simp; omega) (.int .i64 (N : Int))
    have hrows : (lvs (List.replicate N 0)).set s (.int .i64 (N : Int)) = lvs (begH N s) := (lvs_set _ _ _).symm
    simp only [List.set_cons_succ, List.set_cons_zero] at HX4
    rw [hrows] at HX4
    have HX5 := Lib.hid HX4; have HP5 := Lib.hid HP4; have HC5 := Lib.hid C4; have HR5 := Lib.hid R4; have HB5 := Lib.hid Bw4; have GNE := Lib.hid gne
    have HHE := Lib.hid hHE; have HHX := Lib.hid hHX
    clear HX4 HP4 C4 R4 Bw4 HX3 HP3 C3 R3 Bw3 gne hHE hHX hrows hbase
    gi_wp2
    obtain ⟨W4, hW4⟩ : ∃ W4, W3.setCell ⟨gH, s, none⟩ (.int .i64 (N : Int)) = W4 := ⟨_, rfl⟩
    have HH4 : Hid (W4.heap.size = W3.heap.size) := Lib.hid (by rw [← hW4]; simp)
    rw [hW4] at HX5 HP5 HC5 HR5 HB5 ⊢
    clear hW4 a0 a1 a2 a3 a4 a5 a6 a7 a8 p0 p1 p2 hcs hfs hzh hbh hz1 hz2 hz3
    have hcx := HC5.out
    obtain ⟨a0, a1, a2, a3, a4, a5, a6, a7, a8⟩ := hcx.at9
    have hz1 := hcx.lt
    clear hcx
    gi_wp2
    refine ⟨trivial, (callsIn_wide.2 (HO.out _)).mono ?_⟩
    rintro e W5 ⟨rfl, hw5⟩
    obtain ⟨hf, S5, B5⟩ := HR.out W4 W5 hw5 (fun k => AX = some ⟨k, 0, none⟩ ∨ k = gE) (HI.out.gi.below HB5.out) (by omega) hsN (by omega) hN (by
      rintro k hk
      have := GNE.out k (by rcases hk with h | h; exact .inl h; exact .inr (.inl h))
      have := HH4.out
      omega)
    have C5 := HC5.out.below B5 HC5.out.lt; have P5 := HP5.out.below B5 HP5.out.lt; have R5 := HR5.out.below B5 HR5.out.lt
    have Bw5 := below_step HB5.out B5
    have X5 := HX5.out.on B5
    have hlt5 := hx_lt HX5.out
    clear hw5
    gi_wp2
    refine range_go (n := 3) (gf := 78) (lb := #[.pointer (some ⟨W4.heap.size, 0, none⟩), .pointer (some ⟨W4.heap.size + 1, 0, none⟩)]) rfl (enters_of Try.func78 (by kernel_rfl) rfl)
      hf Kps.trans (fun W _ o' _ => prow_put W o') (fun _ => rfl)
      (fun pre W => (HxB w3 b3 W5.heap.size (pstR M N N ⟨AX, cX, some ⟨gE, 0, none⟩, N, some ⟨gH, 0, none⟩, N⟩ (begS hd rv cp M N pre).1 (begS hd rv cp M N pre).2 (begH N s)) W ∧
        (Blk W w.heap.size 32 #[.int .i64 (N : Int), .int .i64 (s : Int), .int .i64 (t : Int), .slice AF (N + 1) cF, .slice AH M cH, .slice AR M cR, .slice AC M cC, .slice AA M cA, .slice AB M cB] ∧ (Blk W (w.heap.size + 1) 29 #[.slice none 0 0, .slice none 0 0, .slice none 0 0] ∧ Blk W gP 29 #[.slice AX M cX, .slice (some ⟨gE, 0, none⟩) N N, .slice (some ⟨gH, 0, none⟩) N N]))) ∧ Below w.heap.size w W)
      (fun _ _ => False)
      (OwnFrom.and (OwnFrom.and (hxB_own _) (OwnFrom.and (ownFrom_blk _ _ _ _) (OwnFrom.and (ownFrom_blk _ _ _ _) (ownFrom_blk _ _ _ _)))) (ownFrom_below (Nat.le_refl _) Bw5.size))
      (fun _ _ _ _ hs _ _ => hs)
      ⟨⟨⟨X5, fun r hr g hg => by have := hlt5 r hr g hg; omega, by have := HX5.out.bas; omega⟩, C5, R5, P5⟩, Bw5⟩ ?round ?done ?stop
    case round =>
      have HS5 := Lib.hid S5
      clear C5 P5 R5 Bw5 X5 hlt5 hf HX5 HP5 HC5 HR5 HB5 a0 a1 a2 a3 a4 a5 a6 a7 a8 hz1 B5 S5 HS HR HCL0 HO
      rintro l pre ⟨a, ha⟩ W0
      unfold tellR
      gi_wp2
      refine ⟨trivial, ?_⟩
      rintro W ⟨⟨⟨HXW, hlt, hbb⟩, CW, RW, PW⟩, BW⟩ hlen h5
      have hfl := HG.out.g.fle (v := s + 1) (by omega)
      have haM : a < M := by omega
      obtain ⟨gX, hAX⟩ := own_some (n := M) (A := AX) (HXW.held.own 0 _ rfl) (by omega)
      subst hAX
      have hbeg := begS_ok HG.out pre
      have hsn := begS_snoc (hd := hd) (rv := rv) (cp := cp) (M := M) (N := N) pre ⟨a, ha⟩
      have HBEG := Lib.hid hbeg; have HSN := Lib.hid hsn
      obtain ⟨hcx, hfx, hzx, hbx⟩ := HXW.cell (i := 0) (j := a) rfl haM (lvs_at (by rw [hbeg.1.1]; exact haM))
      clear hbeg hsn
      obtain ⟨a0, a1, a2, a3, a4, a5, a6, a7, a8⟩ := CW.at9
      have p0 := PW.cell 0; have p1 := PW.cell 1; have p2 := PW.cell 2
      simp only [List.getElem?_toArray, List.getElem?_cons_zero, List.getElem?_cons_succ] at p0 p1 p2
      have hz1 := CW.lt; have hz2 := PW.lt; have hz3 := BW.size
      have hX := Lib.hid HXW; have hC := Lib.hid CW; have hP := Lib.hid PW; have hR := Lib.hid RW; have hB := Lib.hid BW; have hLT := Lib.hid hlt; have hLEN := Lib.hid hlen; have hH5 := Lib.hid h5
      clear HXW CW PW RW BW hlt hlen h5
      obtain ⟨x, hx⟩ : ∃ x, hOf (begS hd rv cp M N pre).1 a = x := ⟨_, rfl⟩
      have HXE := Lib.hid hx
      rw [hx] at hcx
      clear hx
      gi_wp2
      refine wpIn_region_split 8 rfl rfl (by kernel_rfl) (by kernel_rfl) (by kernel_rfl) ?_
      simp only [List.take_succ_cons, List.take_zero, List.drop_succ_cons, List.drop_zero]
      repeat (gi_big_quiet_step (fail))
      refine wpQuietIn_nil ?_
      rintro _ ⟨nq, rfl⟩
      have hfit := move_fit HG.out HBEG.out.1 HBEG.out.2.1 HBEG.out.2.2 haM (HBEG.out.1.2 a haM).1 (Int.le_refl _)
      rw [HXE.out] at hfit
      have hmv := move_is N M s t N a gX cX gE N N b3 (some ⟨gH, 0, none⟩) ⟨AF, cF, AH, cH, AR, cR, AC, cC, AA, cA, AB, cB⟩ fst hd rv ai cp bk (begS hd rv cp M N pre).1 (begS hd rv cp M N pre).2 (begH N s) x w3 (W.drewN nq) HG.out
        (((HI.out.below (hB.out)).more (by omega)).below (below_drewN' (Below.refl _ _) nq)) (hX.out.drew nq) HBEG.out.1.1 HBEG.out.2.1 haM (by rw [HXE.out]; exact hfit.1) hfit.2.1 hfit.2.2.1 hfit.2.2.2
      dsimp only [csrW, preW] at hmv
      have HMV := Lib.hid hmv
      clear hmv hfit
      gi_wp2
      refine ⟨trivial, (callsIn_wide.2 HMV.out).mono ?_⟩
      rintro e W' ⟨⟨v, rfl⟩, HX6, hko, hkp⟩
      have HX6' := Lib.hid HX6; have HKO := Lib.hid hko; have HKP := Lib.hid hkp
      clear HX6 hko hkp HMV a0 a1 a2 a3 a4 a5 a6 a7 a8 p0 p1 p2 hcx hfx
      gi_wp2
      have hgx := GNE.out gX (.inl rfl); have hge := GNE.out gE (.inr (.inl rfl))
      have hkp' := HKP.out
      refine rec_go (((others_drew W nq).trans HKO.out).from _) ((kps_drew W nq).trans (HKP.out.mono fun k o h => ⟨fun e => h.2 (.inl (by rw [e])), fun e => h.2 (.inr e)⟩)) ⟨⟨⟨?_, ?_, hbb⟩, ?_, ?_, ?_⟩, below_step HB3.out (by rw [HBE.out]; exact HX6'.out.bel)⟩
      · rw [HSN.out]
        dsimp only
        rw [HXE.out]
        exact HX6'.out
      · intro r hr g hg
        rw [HSN.out] at hr
        simp only [pstR, List.mem_cons, List.not_mem_nil, or_false] at hr
        rcases hr with rfl | rfl | rfl
        · exact hLT.out _ (List.Mem.head _) g hg
        · exact hLT.out _ (List.Mem.tail _ (List.Mem.head _)) g hg
        · exact hLT.out _ (List.Mem.tail _ (List.Mem.tail _ (List.Mem.head _))) g hg
      · exact hkp'.blk (hC.out.drewN nq) ⟨by omega, by omega⟩
      · exact hkp'.blk (hR.out.drewN nq) ⟨by omega, by omega⟩
      · exact hkp'.blk (hP.out.drewN nq) ⟨fun e => hgx.1 e.symm, fun e => hge.1 e.symm⟩
    case done =>
      rintro D xs W hD rfl ⟨⟨⟨HXW, hlt, hbb⟩, CW, RW, PW⟩, BW⟩ hDef
      have hmn := HG.out.g.mono s hsN
      rw [begS_row _ (by omega)] at HXW hlt
      have p0 := PW.cell 0; have p1 := PW.cell 1; have p2 := PW.cell 2
      have f0 := RW.frozen 0; have f1 := RW.frozen 1; have f2 := RW.frozen 2
      have r0 := RW.cell 0; have r1 := RW.cell 1; have r2 := RW.cell 2
      simp only [List.getElem?_toArray, List.getElem?_cons_zero, List.getElem?_cons_succ] at p0 p1 p2 r0 r1 r2
      have hz1 := PW.lt; have hz2 := RW.lt; have hz3 := BW.size
      have hX := Lib.hid HXW; have hR := Lib.hid RW; have hB := Lib.hid BW; have hLT := Lib.hid hlt; have hBB := Lib.hid hbb; have hDD := Lib.hid hD; have hDEF := Lib.hid hDef; have HS5 := Lib.hid S5
      clear C5 P5 R5 Bw5 X5 hlt5 hf HX5 HP5 HC5 HR5 HB5 a0 a1 a2 a3 a4 a5 a6 a7 a8 B5 S5 HS HR HCL0 HO HXW CW RW PW BW hlt hbb hmn hD hDef
      gi_wp2
      have hKR := (((hR.out.set 0 (.slice AX M cX)).set 1 (.slice (some ⟨gE, 0, none⟩) N N)).set 2 (.slice (some ⟨gH, 0, none⟩) N N))
      have hHX := ((hX.out.held.under (p := ⟨w.heap.size + 1, 0, none⟩) (by simp; omega) (.slice AX M cX)).under (p := ⟨w.heap.size + 1, 1, none⟩) (by simp; omega) (.slice (some ⟨gE, 0, none⟩) N N)).under (p := ⟨w.heap.size + 1, 2, none⟩) (by simp; omega) (.slice (some ⟨gH, 0, none⟩) N N)
      have hBW := ((hB.out.setCell (p := ⟨w.heap.size + 1, 0, none⟩) (by simp) (.slice AX M cX)).setCell (p := ⟨w.heap.size + 1, 1, none⟩) (by simp) (.slice (some ⟨gE, 0, none⟩) N N)).setCell (p := ⟨w.heap.size + 1, 2, none⟩) (by simp) (.slice (some ⟨gH, 0, none⟩) N N)
      have hne : D ≠ w.heap.size + 1 := by have := hDD.out; have := HS5.out; have := hBB.out; omega
      have hDef2 := (Below.heap_setCell (((W.setCell ⟨w.heap.size + 1, 0, none⟩ (.slice AX M cX)).setCell ⟨w.heap.size + 1, 1, none⟩ (.slice (some ⟨gE, 0, none⟩) N N))) ⟨w.heap.size + 1, 2, none⟩ (.slice (some ⟨gH, 0, none⟩) N N) D hne).trans
        ((Below.heap_setCell (W.setCell ⟨w.heap.size + 1, 0, none⟩ (.slice AX M cX)) ⟨w.heap.size + 1, 1, none⟩ (.slice (some ⟨gE, 0, none⟩) N N) D hne).trans ((Below.heap_setCell W ⟨w.heap.size + 1, 0, none⟩ (.slice AX M cX) D hne).trans hDEF.out))
      obtain ⟨W9, hW9⟩ : ∃ W9, ((W.setCell ⟨w.heap.size + 1, 0, none⟩ (.slice AX M cX)).setCell ⟨w.heap.size + 1, 1, none⟩ (.slice (some ⟨gE, 0, none⟩) N N)).setCell ⟨w.heap.size + 1, 2, none⟩ (.slice (some ⟨gH, 0, none⟩) N N) = W9 := ⟨_, rfl⟩
      rw [hW9] at hKR hHX hBW hDef2 ⊢
      refine ⟨by simp, .inl ⟨_, _, rfl, run_takeDeferred hDef2, ?_⟩⟩
      have hKR2 := (Kps.put (P := fun k _ => k ≠ D) (l := D) (o' := .deferred none) (W := W9) fun _ _ h => h rfl).blk hKR (fun e => hne e.symm)
      have q0 := hKR2.cell 0; have q1 := hKR2.cell 1; have q2 := hKR2.cell 2
      simp only [List.setIfInBounds_toArray, List.set_cons_zero, List.set_cons_succ, List.getElem?_toArray, List.getElem?_cons_zero, List.getElem?_cons_succ] at q0 q1 q2
      refine ⟨.agg #[.slice AX M cX, .slice (some ⟨gE, 0, none⟩) N N, .slice (some ⟨gH, 0, none⟩) N N], by simp [results, Try.results22, go_sem, q0, q1, q2], ⟨AX, cX, some ⟨gE, 0, none⟩, N, some ⟨gH, 0, none⟩, N⟩, rfl, ?_⟩
      have hbb := hBB.out
      refine ⟨Held.low (base := b3) (hHX.grown (row := some D) (grownBy_putObj' W9 D _) fun g e i r hi hg => ?_) (by omega), ?_, rch_drop hBW (by have := hDD.out; omega) hDef2 rfl rfl⟩
      · cases e
        have := hLT.out r (List.mem_of_getElem? hi) _ hg
        have := hDD.out
        omega
      · have := hBW.size
        simp only [putObj_size]
        exact this
    case stop =>
      rintro D pre W _ _ h
      exact h.elim

end Go.Proofs.Ytanifbofjecpmaa
