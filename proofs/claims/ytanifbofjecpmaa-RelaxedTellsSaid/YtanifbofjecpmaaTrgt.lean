/- Layer 9: the document's own excesses. Layer 9: the document's own Right. -/
import Derived.BigQuiet
import Derived.StillTailTactics
import Derived.Test.YtanifbofjecpmaaTpc
import Derived.Test.YtanifbofjecpmaaRlr
/-! Tex -/
namespace Go.Proofs.Ytanifbofjecpmaa
open Go.RowKit Go.Shelf
set_option maxRecDepth 100000

/-! What the arcs' flows add, arc by arc. -/
def exC (hd rv : Nat → Nat) (bk : Nat → Bool) (X : List Int) (v a : Nat) : Int := if bk a = true then (if hd (rv a) = v then hOf X a else 0) - (if hd a = v then hOf X a else 0) else 0
def exRow (N : Nat) (hd rv : Nat → Nat) (bk : Nat → Bool) (X : List Int) (k : Nat) : List Int := (List.range N).map fun v => IntKind.i64.wrap (sumN (exC hd rv bk X v) k)
section
variable {N M s t : Nat} {fst hd rv ai : Nat → Nat} {cp : Nat → Int} {bk : Nat → Bool} {X : List Int} {k v : Nat}
theorem exRow_zero : exRow N hd rv bk X 0 = List.replicate N 0 := by
  refine List.ext_getElem (by simp [exRow]) fun i h1 h2 => ?_
  simp only [exRow, List.getElem_map, List.getElem_replicate, sumN]
  exact wrap_in (by omega) (by omega)
theorem exRow_at (hv : v < N) : (exRow N hd rv bk X k)[v]? = some (IntKind.i64.wrap (sumN (exC hd rv bk X v) k)) := by simp [exRow, hv]
theorem exRow_len : (exRow N hd rv bk X k).length = N := by simp [exRow]
theorem exRow_skip (h : bk k = false) : exRow N hd rv bk X (k + 1) = exRow N hd rv bk X k := by
  unfold exRow
  refine List.map_congr_left fun v _ => ?_
  have e : exC hd rv bk X v k = 0 := by unfold exC; rw [if_neg (by rw [h]; simp)]
  simp only [sumN, e, Int.add_zero]
theorem exRow_step (h : bk k = true) (hne : hd (rv k) ≠ hd k) {e1 e2 f1 f2 x : Int} (hx : hOf X k = x) (g1 : IntKind.i64.wrap (sumN (exC hd rv bk X (hd k)) k) = e1) (g2 : IntKind.i64.wrap (sumN (exC hd rv bk X (hd (rv k))) k) = e2) (g3 : IntKind.i64.wrap (e1 - x) = f1) (g4 : IntKind.i64.wrap (e2 + x) = f2) :
    ((exRow N hd rv bk X k).set (hd k) f1).set (hd (rv k)) f2 = exRow N hd rv bk X (k + 1) := by
  refine List.ext_getElem (by simp [exRow]) fun i h1 h2 => ?_
  rw [List.getElem_set, List.getElem_set]
  simp only [exRow, List.getElem_map, List.getElem_range, sumN]
  by_cases c1 : hd (rv k) = i
  · rw [if_pos c1, ← g4, ← g2, wrap_more]
    subst c1
    have : exC hd rv bk X (hd (rv k)) k = x := by unfold exC; rw [if_pos h, if_pos rfl, if_neg (fun e => hne e.symm), hx]; omega
    rw [this]
  · rw [if_neg c1]
    by_cases c2 : hd k = i
    · rw [if_pos c2, ← g3, ← g1, wrap_less]
      subst c2
      have : exC hd rv bk X (hd k) k = -x := by unfold exC; rw [if_pos h, if_neg hne, if_pos rfl, hx]; omega
      rw [this]; congr 1
    · rw [if_neg c2]
      have : exC hd rv bk X i k = 0 := by unfold exC; rw [if_pos h, if_neg c1, if_neg c2]; omega
      rw [this, Int.add_zero]
theorem exC_all (h : PNet N M s t fst hd rv ai cp bk) (hb : Bal M rv cp X) (v : Nat) : sumN (exC hd rv bk X v) M = exT M hd rv cp X v := by
  have e1 : exT M hd rv cp X v = sumN (fun j => if bk j = true then (if hd (rv j) = v then hOf X j else 0) else 0) M + sumN (fun j => if bk j = true then 0 else if hd (rv j) = v then hOf X j - cp j else 0) M := by
    unfold exT
    rw [← sumN_add]
    refine sumN_congr fun j hj => ?_
    by_cases hk : bk j = true
    · rw [if_pos hk, if_pos hk, h.cpb j hj hk]
      split <;> omega
    · rw [if_neg hk, if_neg hk]
      omega
  rw [e1, ← sumN_inv h.g.rvl h.g.rvv (fun j => if bk j = true then 0 else if hd (rv j) = v then hOf X j - cp j else 0), ← sumN_add]
  refine sumN_congr fun j hj => ?_
  have hr := h.bkr j hj
  have hb1 := (hb.2 j hj).2
  unfold exC
  by_cases hk : bk j = true
  · have hk' : ¬ bk (rv j) = true := by rw [hr, hk]; simp
    have h0 := h.cpb j hj hk
    rw [if_pos hk, if_pos hk, if_neg hk', h.g.rvv j hj]
    split <;> split <;> omega
  · have hk' : bk (rv j) = true := by
      rw [hr]
      simpa using hk
    rw [if_neg hk, if_neg hk, if_pos hk']
    rfl
theorem exRow_all (h : PNet N M s t fst hd rv ai cp bk) (hb : Bal M rv cp X) : exRow N hd rv bk X M = tab N (exT M hd rv cp X) := by
  refine List.ext_getElem? fun i => ?_
  by_cases hi : i < N
  · rw [exRow_at hi, tab_at hi, exC_all h hb]
    have := h.big X hb i hi
    unfold maxSum at this
    rw [wrap_in (by omega) (by omega)]
  · rw [List.getElem?_eq_none (by rw [exRow_len]; omega), List.getElem?_eq_none (by rw [tab_len]; omega)]
end
theorem exRow_next {N : Nat} {hd rv : Nat → Nat} {bk : Nat → Bool} {X : List Int} {k : Nat} (h : bk k = true) (hne : hd (rv k) ≠ hd k) {e1 e2 f1 f2 x : Int} (hx : hOf X k = x) (g1 : IntKind.i64.wrap (sumN (exC hd rv bk X (hd k)) k) = e1) (g2 : IntKind.i64.wrap (sumN (exC hd rv bk X (hd (rv k))) k) = e2) (g3 : IntKind.i64.wrap (e1 - x) = f1) (g4 : IntKind.i64.wrap (e2 + x) = f2) :
    ((exRow N hd rv bk X k).set (hd (rv k)) f2).set (hd k) f1 = exRow N hd rv bk X (k + 1) := by
  rw [List.set_comm _ _ hne]
  exact exRow_step h hne hx g1 g2 g3 g4

set_option maxHeartbeats 16000000 in
theorem tex_is (N M s t : Nat) (K : CsrS) (AX : Option Addr) (cX : Nat) (fst hd rv ai : Nat → Nat) (cp : Nat → Int) (bk : Nat → Bool) (X : List Int) (w : World) (hG : PNet N M s t fst hd rv ai cp bk) (hI : PIn w w.heap.size N M K fst hd rv ai cp bk) (hQ : Ints w w.heap.size AX M X) :
    Calls Try.prog 35 #[csrW N M s t K, .slice AX M cX] w fun e w' => ∃ gx, e = .returned (.slice (some ⟨gx, 0, none⟩) N N) ∧ Blk w' gx 2 (ivs (exRow N hd rv bk X M)) ∧ w.heap.size ≤ gx ∧ Below w.heap.size w w' := by
  have hM := hG.nM; have hN := hG.nN; have hn2 := hG.n2
  have htl := fun (k : Nat) (hk : k < M) W (hb : Below w.heap.size w W) => rtail_is N M s t k K fst hd rv W hG.g (hI.gi.on hb) hk hN
  have HTL := Lib.hid htl; have HG := Lib.hid hG; have HI := Lib.hid hI; have HQ := Lib.hid hQ; have HXL := Lib.hid hQ.len
  clear htl
  obtain ⟨AF, cF, AH, cH, AR, cR, AC, cC, AA, cA, AB, cB⟩ := K
  dsimp only [csrW] at HTL ⊢
  obtain ⟨w1, hw1⟩ : ∃ W, w.alloc (.cells #[.int .i64 (N : Int), .int .i64 (s : Int), .int .i64 (t : Int), .slice AF (N + 1) cF, .slice AH M cH, .slice AR M cR, .slice AC M cC, .slice AA M cA, .slice AB M cB] 32) = W := ⟨_, rfl⟩
  have B1 : Below w.heap.size w w1 := by rw [← hw1]; exact below_alloc _
  have HC1 := Lib.hid (show Blk w1 w.heap.size 32 #[.int .i64 (N : Int), .int .i64 (s : Int), .int .i64 (t : Int), .slice AF (N + 1) cF, .slice AH M cH, .slice AR M cR, .slice AC M cC, .slice AA M cA, .slice AB M cB] by rw [← hw1]; exact Blk.new rfl)
  have HB1 := Lib.hid B1
  obtain ⟨c0, c1, c2, c3, c4, c5, c6, c7, c8⟩ := HC1.out.at9
  have zc := HC1.out.lt
  obtain ⟨i1, hi, hi0, hi1, hi2⟩ := info_parts long_info
  have hml := fun W => run_make_lit (P := Try.prog) 26 2 i1 _ Try.underlying26 hi hi0 N (by rw [hi2]; omega) (by omega) W
  rw [hi1, ivs_made] at hml
  obtain ⟨gx, hgx⟩ : ∃ g, w1.heap.size = g := ⟨_, rfl⟩
  obtain ⟨w2, hw2⟩ : ∃ W, w1.alloc (.cells (ivs (List.replicate N 0)) 2) = W := ⟨_, rfl⟩
  have HG2 := Lib.hid (show Blk w2 gx 2 (ivs (exRow N hd rv bk X 0)) by rw [← hw2, ← hgx, exRow_zero]; exact Blk.new rfl)
  have HB2 := Lib.hid (show Below w1.heap.size w1 w2 by rw [← hw2]; exact below_alloc _)
  have h0N : (0 : Int) ≤ (N : Int) := by omega
  have HGX := Lib.hid hgx
  have hwx : w.heap.size < gx := by rw [← hgx]; exact HC1.out.lt
  clear hi hi0 hi1 hi2 B1 hG hI hQ
  go_enter Try.func35, Try.ntmps35
  go_wp2_with fail
  clear hw1 hw2 hml hgx c0 c1 c2 c3 c4 c5 c6 c7 c8 zc
  go_loopw [6] (fun i wr => ∃ k : Nat, k ≤ M ∧ i = .int .i64 k ∧ Blk wr gx 2 (ivs (exRow N hd rv bk X k)) ∧ Below w1.heap.size w1 wr) (fun i _ => M - (intOf i).toNat)
  case atStart => exact ⟨0, Nat.zero_le _, rfl, HG2.out, HB2.out⟩
  case round =>
    clear HG2 HB2
    obtain ⟨k, hk, rfl, hgr, hbr⟩ := hrel
    have HGR := Lib.hid hgr; have HBR := Lib.hid hbr
    have HBw := Lib.hid (below_step HB1.out hbr)
    have Cr := HC1.out.below hbr HC1.out.lt
    obtain ⟨c0, c1, c2, c3, c4, c5, c6, c7, c8⟩ := Cr.at9
    have zc := Cr.lt
    have zg := hgr.lt
    clear hgr hbr Cr
    by_cases hlt : k < M
    · skip
      have hM0 : 0 < M := by omega
      obtain ⟨bD, oD, hDa⟩ := HI.out.gi.iH.adr hM0
      dsimp only at hDa
      subst hDa
      obtain ⟨bX, oX, hXa⟩ := HQ.out.adr hM0
      subst hXa
      obtain ⟨bB, oB, hBa, zb, cbk⟩ := tab_bool (HI.out.on HBw.out).iB hlt
      dsimp only at hBa
      subst hBa
      have hne := HG.out.nol k hlt
      have hu := HG.out.mN hlt
      have hv := HG.out.g.hdl k hlt
      obtain ⟨u, hu'⟩ : ∃ u, hd (rv k) = u := ⟨_, rfl⟩
      obtain ⟨v, hv'⟩ : ∃ v, hd k = v := ⟨_, rfl⟩
      have HUE := Lib.hid hu'; have HVE := Lib.hid hv'
      rw [hu'] at hu hne; rw [hv'] at hv hne
      obtain ⟨x, hx'⟩ : ∃ x, hOf X k = x := ⟨_, rfl⟩
      have HXE := Lib.hid hx'
      obtain ⟨b, hbb⟩ : ∃ b, bk k = b := ⟨_, rfl⟩
      rw [hbb] at cbk
      have HBB := Lib.hid hbb
      have hcx : ∀ W, Below w.heap.size w W → (bX < W.heap.size ∧ W.cell? ⟨bX, oX + k, none⟩ = some (.int .i64 x)) := fun W hb => by
        rw [← HXE.out]
        exact (HQ.out.on hb).cel (hOf_get HXL.out hlt)
      have hcd : ∀ W, Below w.heap.size w W → (bD < W.heap.size ∧ W.cell? ⟨bD, oD + k, none⟩ = some (.int .i64 (v : Int))) := fun W hb => by
        rw [← HVE.out]
        exact tab_cell (HI.out.gi.iH.on hb) hlt
      have HCX := Lib.hid hcx; have HCD := Lib.hid hcd
      have hk0 : (0 : Int) ≤ (k : Int) := by omega
      have hkM : (k : Int) < (M : Int) := by omega
      have hu0 : (0 : Int) ≤ (u : Int) := by omega
      have huN : (u : Int) < (N : Int) := by omega
      have hv0 : (0 : Int) ≤ (v : Int) := by omega
      have hvN : (v : Int) < (N : Int) := by omega
      clear hu' hv' hx' hbb hcx hcd hM0
      cases b with
      | false =>
        have hsk := exRow_skip (N := N) (hd := hd) (rv := rv) (X := X) HBB.out
        have HSK := Lib.hid hsk
        clear hsk
        go_wp2_with fail
        go_roundw
        case rel => exact ⟨k + 1, by omega, by go_num, by rw [HSK.out]; exact HGR.out, HBR.out⟩
        case measure => simp [intOf]; omega
      | true =>
        obtain ⟨e1, he1⟩ : ∃ e, IntKind.i64.wrap (sumN (exC hd rv bk X v) k) = e := ⟨_, rfl⟩
        obtain ⟨e2, he2⟩ : ∃ e, IntKind.i64.wrap (sumN (exC hd rv bk X u) k) = e := ⟨_, rfl⟩
        obtain ⟨f1, hf1⟩ : ∃ f, IntKind.i64.wrap (e1 - x) = f := ⟨_, rfl⟩
        obtain ⟨f2, hf2⟩ : ∃ f, IntKind.i64.wrap (e2 + x) = f := ⟨_, rfl⟩
        have hst := exRow_next (N := N) (hd := hd) (rv := rv) (X := X) HBB.out (by rw [HUE.out, HVE.out]; exact hne) HXE.out (by rw [HVE.out]; exact he1) (by rw [HUE.out]; exact he2) hf1 hf2
        rw [HUE.out, HVE.out] at hst
        have HST := Lib.hid hst; have HE1 := Lib.hid he1; have HE2 := Lib.hid he2; have HF1 := Lib.hid hf1
        clear hst he1 he2 hf1
        go_upto_region 6 with fail
        have hkeep : ∀ W', Below w1.heap.size w1 W' → W'.cell? ⟨w.heap.size, 0, none⟩ = some (.int .i64 (N : Int)) ∧ W'.cell? ⟨w.heap.size, 1, none⟩ = some (.int .i64 (s : Int)) ∧ W'.cell? ⟨w.heap.size, 2, none⟩ = some (.int .i64 (t : Int)) ∧ W'.cell? ⟨w.heap.size, 3, none⟩ = some (.slice AF (N + 1) cF) ∧ W'.cell? ⟨w.heap.size, 4, none⟩ = some (.slice (some ⟨bD, oD, none⟩) M cH) ∧ W'.cell? ⟨w.heap.size, 5, none⟩ = some (.slice AR M cR) ∧ W'.cell? ⟨w.heap.size, 6, none⟩ = some (.slice AC M cC) ∧ W'.cell? ⟨w.heap.size, 7, none⟩ = some (.slice AA M cA) ∧ W'.cell? ⟨w.heap.size, 8, none⟩ = some (.slice (some ⟨bB, oB, none⟩) M cB) ∧ bX < W'.heap.size ∧ W'.cell? ⟨bX, oX + k, none⟩ = some (.int .i64 x) := fun W' hb => by
          obtain ⟨c0, c1, c2, c3, c4, c5, c6, c7, c8⟩ := (HC1.out.below hb HC1.out.lt).at9
          obtain ⟨zx, cx⟩ := HCX.out _ (below_step HB1.out hb)
          exact ⟨c0, c1, c2, c3, c4, c5, c6, c7, c8, zx, cx⟩
        have HKEEP := Lib.hid hkeep
        clear hkeep c0 c1 c2 c3 c4 c5 c6 c7 c8 zc zb cbk zg
        refine wp_region_held_drew (S := fun W' => W'.cell? ⟨w.heap.size, 0, none⟩ = some (.int .i64 (N : Int)) ∧ W'.cell? ⟨w.heap.size, 1, none⟩ = some (.int .i64 (s : Int)) ∧ W'.cell? ⟨w.heap.size, 2, none⟩ = some (.int .i64 (t : Int)) ∧ W'.cell? ⟨w.heap.size, 3, none⟩ = some (.slice AF (N + 1) cF) ∧ W'.cell? ⟨w.heap.size, 4, none⟩ = some (.slice (some ⟨bD, oD, none⟩) M cH) ∧ W'.cell? ⟨w.heap.size, 5, none⟩ = some (.slice AR M cR) ∧ W'.cell? ⟨w.heap.size, 6, none⟩ = some (.slice AC M cC) ∧ W'.cell? ⟨w.heap.size, 7, none⟩ = some (.slice AA M cA) ∧ W'.cell? ⟨w.heap.size, 8, none⟩ = some (.slice (some ⟨bB, oB, none⟩) M cB) ∧ bX < W'.heap.size ∧ W'.cell? ⟨bX, oX + k, none⟩ = some (.int .i64 x)) (by kernel_rfl) (HKEEP.out _ (HBR.out.trans ((Below.refl _ _).drew))) (fun hS0 => ?_)
        obtain ⟨W, hW⟩ : ∃ W, wr.drew = W := ⟨_, rfl⟩
        have B : Below w1.heap.size w1 W := by rw [← hW]; exact HBR.out.trans ((Below.refl _ _).drew)
        have HGW : Blk W gx 2 (ivs (exRow N hd rv bk X k)) := by rw [← hW]; exact HGR.out.drewN 1
        rw [hW] at hS0 ⊢
        clear hW
        refine tk (v := ?_) 0 22 rfl ?_ ?_
        rotate_left
        · (intro W hSw; obtain ⟨c0, c1, c2, c3, c4, c5, c6, c7, c8, zx, cx⟩ := hSw; go_simp; try with_reducible rfl)
        simp only [Act.put, pa, pz, ps]
        refine tk (v := ?_) 1 23 rfl ?_ ?_
        rotate_left
        · (intro W hSw; obtain ⟨c0, c1, c2, c3, c4, c5, c6, c7, c8, zx, cx⟩ := hSw; go_simp; try with_reducible rfl)
        simp only [Act.put, pa, pz, ps]
        refine tk (v := ?_) 2 24 rfl ?_ ?_
        rotate_left
        · (intro W hSw; obtain ⟨c0, c1, c2, c3, c4, c5, c6, c7, c8, zx, cx⟩ := hSw; go_simp; try with_reducible rfl)
        simp only [Act.put, pa, pz, ps]
        refine tk (v := ?_) 4 26 rfl ?_ ?_
        rotate_left
        · (intro W hSw; obtain ⟨c0, c1, c2, c3, c4, c5, c6, c7, c8, zx, cx⟩ := hSw; go_simp; try with_reducible rfl)
        simp only [Act.put, pa, pz, ps]
        refine tk (v := ?_) 5 27 rfl ?_ ?_
        rotate_left
        · (intro W hSw; obtain ⟨c0, c1, c2, c3, c4, c5, c6, c7, c8, zx, cx⟩ := hSw; go_simp; try with_reducible rfl)
        simp only [Act.put, pa, pz, ps]
        refine tk (v := ?_) 6 28 rfl ?_ ?_
        rotate_left
        · (intro W hSw; obtain ⟨c0, c1, c2, c3, c4, c5, c6, c7, c8, zx, cx⟩ := hSw; go_simp; try with_reducible rfl)
        simp only [Act.put, pa, pz, ps]
        refine tk (v := ?_) 10 32 rfl ?_ ?_
        rotate_left
        · (intro W hSw; obtain ⟨c0, c1, c2, c3, c4, c5, c6, c7, c8, zx, cx⟩ := hSw; go_simp; try with_reducible rfl)
        simp only [Act.put, pa, pz, ps]
        refine tk (v := ?_) 11 33 rfl ?_ ?_
        rotate_left
        · (intro W hSw; obtain ⟨c0, c1, c2, c3, c4, c5, c6, c7, c8, zx, cx⟩ := hSw; go_simp; try with_reducible rfl)
        simp only [Act.put, pa, pz, ps]
        refine tk (v := ?_) 12 34 rfl ?_ ?_
        rotate_left
        · (intro W hSw; obtain ⟨c0, c1, c2, c3, c4, c5, c6, c7, c8, zx, cx⟩ := hSw; go_simp; try with_reducible rfl)
        simp only [Act.put, pa, pz, ps]
        refine tk (v := ?_) 13 35 rfl ?_ ?_
        rotate_left
        · (intro W hSw; obtain ⟨c0, c1, c2, c3, c4, c5, c6, c7, c8, zx, cx⟩ := hSw; go_simp; try with_reducible rfl)
        simp only [Act.put, pa, pz, ps]
        refine wpAnyH_ready (rs := [3]) (by kernel_rfl) (by simp) ?_
        refine AllReadyH.cons rfl (fun K hK => ?_) AllReadyH.nil
        go_simp
        refine (HTL.out k hlt _ (below_step HB1.out B)).mono ?_
        rw [HUE.out]
        rintro e W4 ⟨rfl, xB4⟩
        have B4 : Below w1.heap.size w1 W4 := below_step B xB4
        have HGW' : Blk W4 gx 2 (ivs (exRow N hd rv bk X k)) := HGW.below xB4 HGW.lt
        refine hK.out _ _ (HKEEP.out _ B4) (fun hS3 => ?_)
        clear hK K HGW xB4
        have HGW := HGW'
        clear HGW'
        try simp only [Act.put, pa, pz, ps]
        refine wpAnyH_ready (rs := [7]) (by kernel_rfl) (by simp) ?_
        refine AllReadyH.cons rfl (fun K hK => ?_) AllReadyH.nil
        go_simp
        refine (HTL.out k hlt _ (below_step HB1.out B4)).mono ?_
        rw [HUE.out]
        rintro e W8 ⟨rfl, xB8⟩
        have B8 : Below w1.heap.size w1 W8 := below_step B4 xB8
        have HGW' : Blk W8 gx 2 (ivs (exRow N hd rv bk X k)) := HGW.below xB8 HGW.lt
        refine hK.out _ _ (HKEEP.out _ B8) (fun hS7 => ?_)
        clear hK K HGW xB8
        have HGW := HGW'
        clear HGW'
        try simp only [Act.put, pa, pz, ps]
        refine tk (v := ?_) 8 30 rfl ?_ ?_
        rotate_left
        · (intro W hSw; go_simp; try with_reducible rfl)
        simp only [Act.put, pa, pz, ps]
        have oce := HGW.iat (exRow_at hu)
        rw [HE2.out] at oce
        have zg := HGW.lt
        refine wpAnyH_ready (rs := [9]) (by kernel_rfl) (by simp) ?_
        refine AllReadyH.cons rfl (fun K hK => ?_) AllReadyH.nil
        go_simp
        refine hK.out _ _ (HKEEP.out _ B8) (fun hS9 => ?_)
        clear hK K
        try simp only [Act.put, pa, pz, ps]
        refine tk (v := ?_) 14 36 rfl ?_ ?_
        rotate_left
        · (intro W hSw; go_simp; try with_reducible rfl)
        simp only [Act.put, pa, pz, ps]
        refine tk (v := ?_) 15 37 rfl ?_ ?_
        rotate_left
        · (intro W hSw; go_simp; try with_reducible rfl)
        simp only [Act.put, pa, pz, ps]
        have hfz := HGW.frozen u
        refine wpAnyH_ready (rs := [16]) (by kernel_rfl) (by simp) ?_
        refine AllReadyH.cons rfl (fun K hK => ?_) AllReadyH.nil
        go_simp
        obtain ⟨w8, hw8⟩ : ∃ W, W8.setCell ⟨gx, u, none⟩ (.int .i64 f2) = W := ⟨_, rfl⟩
        have HG8 := Lib.hid (show Blk w8 gx 2 (ivs ((exRow N hd rv bk X k).set u f2)) by rw [← hw8]; exact HGW.iset u f2)
        have HB8 := Lib.hid (show Below w1.heap.size w1 w8 by rw [← hw8]; exact B8.setCell (by have := HGX.out; show w1.heap.size ≤ gx; omega) _)
        refine hK.out _ _ (by rw [hw8]; exact HKEEP.out _ HB8.out) (fun hSx => ?_)
        clear hK K hSx
        try simp only [Act.put, pa, pz, ps]
        refine wpAnyH_done (by kernel_rfl) ?_ _
        rw [hw8]
        clear hw8 hS0 hS3 hS7 hS9 B B4 B8 HGW oce zg hfz
        clear hf2
        obtain ⟨c0, c1, c2, c3, c4, c5, c6, c7, c8⟩ := (HC1.out.below HB8.out HC1.out.lt).at9
        have zc := (HC1.out.below HB8.out HC1.out.lt).lt
        obtain ⟨zx, cx⟩ := HCX.out _ (below_step HB1.out HB8.out)
        obtain ⟨zd, cd⟩ := HCD.out _ (below_step HB1.out HB8.out)
        have oce := HG8.out.iat (i := v) (x := e1) (by rw [List.getElem?_set, if_neg hne, exRow_at hv, HE1.out])
        have zg := HG8.out.lt
        have hfw := HF1.out
        go_upto_region 7 with fail
        go_still_tail 20, (by kernel_rfl)
        change wpList _ _ _ _ _ w8.drew
        obtain ⟨w9, hw9⟩ : ∃ W, w8.drew = W := ⟨_, rfl⟩
        have HG9 := Lib.hid (show Blk w9 gx 2 (ivs ((exRow N hd rv bk X k).set u f2)) by rw [← hw9]; exact HG8.out.drewN 1)
        have HB9 := Lib.hid (show Below w1.heap.size w1 w9 by rw [← hw9]; exact HB8.out.drew)
        rw [hw9]
        clear hw9 oce zg c0 c1 c2 c3 c4 c5 c6 c7 c8 zc zx cx zd cd HG8 HB8
        have oce := HG9.out.iat (i := v) (x := e1) (by rw [List.getElem?_set, if_neg hne, exRow_at hv, HE1.out])
        have hfz := HG9.out.frozen v
        have zg := HG9.out.lt
        obtain ⟨wn, hwn⟩ : ∃ W, w9.setCell ⟨gx, v, none⟩ (.int .i64 f1) = W := ⟨_, rfl⟩
        have HGN := Lib.hid (show Blk wn gx 2 (ivs (exRow N hd rv bk X (k + 1))) by rw [← hwn, ← HST.out]; exact HG9.out.iset v f1)
        have HBN := Lib.hid (show Below w1.heap.size w1 wn by rw [← hwn]; exact HB9.out.setCell (by have := HGX.out; show w1.heap.size ≤ gx; omega) _)
        go_wp2_with fail
        try rw [hwn]
        clear hwn
        go_roundw
        case rel => exact ⟨k + 1, by omega, by go_num, HGN.out, HBN.out⟩
        case measure => simp [intOf]; omega
    · skip
      obtain rfl : k = M := by omega
      go_wp2_with fail
      go_ret
      exact ⟨gx, rfl, HGR.out, by omega, HBw.out⟩
end Go.Proofs.Ytanifbofjecpmaa

/-! Trgt -/
namespace Go.Proofs.Ytanifbofjecpmaa
open Go.RowKit Go.Shelf
set_option maxRecDepth 100000

set_option maxHeartbeats 32000000 in
theorem tright_is (N M s t nX nE nH : Nat) (K : CsrS) (Q : PreS) (fst hd rv ai : Nat → Nat) (cp : Nat → Int) (bk : Nat → Bool) (X E H : List Int) (w : World) (hG : PNet N M s t fst hd rv ai cp bk) (hI : PIn w w.heap.size N M K fst hd rv ai cp bk) (hQ : StIn w w.heap.size nX nE nH Q X E H)
    (r : Bool) (hr : r = true ↔ nX = M ∧ nE = N ∧ nH = N ∧ SndIs N M s t hd rv cp X E H) :
    Calls Try.prog 11 #[csrW N M s t K, preW nX nE nH Q] w fun e w' => e = .returned (.bool r) ∧ Below w.heap.size w w' := by
  have hM := hG.nM; have hN := hG.nN; have hsN := hG.hs; have htN := hG.ht; have hn2 := hG.n2
  have hex := fun AX cX X W (hb : Below w.heap.size w W) (hx : Ints W W.heap.size AX M X) => tex_is N M s t K AX cX fst hd rv ai cp bk X W hG (hI.on hb) hx
  have HEX := Lib.hid hex; have HG := Lib.hid hG; have HI := Lib.hid hI; have HQ := Lib.hid hQ; have HR := Lib.hid hr
  clear hex hr
  obtain ⟨AF, cF, AH, cH, AR, cR, AC, cC, AA, cA, AB, cB⟩ := K
  obtain ⟨AX, cX, AE, cE, AHH, cHH⟩ := Q
  dsimp only [csrW, preW] at HEX ⊢
  obtain ⟨w1, hw1⟩ : ∃ W, (w.alloc (.cells #[.int .i64 (N : Int), .int .i64 (s : Int), .int .i64 (t : Int), .slice AF (N + 1) cF, .slice AH M cH, .slice AR M cR, .slice AC M cC, .slice AA M cA, .slice AB M cB] 32)).alloc (.cells #[.slice AX nX cX, .slice AE nE cE, .slice AHH nH cHH] 29) = W := ⟨_, rfl⟩
  have B1 : Below w.heap.size w w1 := by rw [← hw1]; exact (below_alloc _).alloc (by simp) _
  have HC1 := Lib.hid (show Blk w1 w.heap.size 32 #[.int .i64 (N : Int), .int .i64 (s : Int), .int .i64 (t : Int), .slice AF (N + 1) cF, .slice AH M cH, .slice AR M cR, .slice AC M cC, .slice AA M cA, .slice AB M cB] by rw [← hw1]; exact (Blk.new rfl).alloc _)
  have HP1 := Lib.hid (show Blk w1 (w.heap.size + 1) 29 #[.slice AX nX cX, .slice AE nE cE, .slice AHH nH cHH] by rw [← hw1]; exact Blk.new (by simp))
  have HB1 := Lib.hid B1
  obtain ⟨c0, c1, c2, c3, c4, c5, c6, c7, c8⟩ := HC1.out.at9
  obtain ⟨⟨p0, p1, p2⟩, -, zp⟩ := HP1.out.full3
  have zc := HC1.out.lt
  have hnot : ¬ (nX = M ∧ nE = N ∧ nH = N ∧ SndIs N M s t hd rv cp X E H) → r = false := fun h => by rw [← Bool.not_eq_true, HR.out]; exact h
  have HNT := Lib.hid hnot
  clear B1 hG hI hQ hnot
  by_cases e1 : nX = M
  case neg =>
    have hb : ((nX : Int) != (M : Int)) = true := by simp; omega
    have HFR := Lib.hid (HNT.out fun h => e1 h.1)
    go_enter Try.func11, Try.ntmps11
    go_wp2_with fail
    go_ret
    exact ⟨ret_bool HFR.out.symm, HB1.out⟩
  by_cases e2 : nE = N
  case neg =>
    subst e1
    have hb : ((nE : Int) != (N : Int)) = true := by simp; omega
    have HFR := Lib.hid (HNT.out fun h => e2 h.2.1)
    go_enter Try.func11, Try.ntmps11
    go_wp2_with fail
    go_ret
    exact ⟨ret_bool HFR.out.symm, HB1.out⟩
  by_cases e3 : nH = N
  case neg =>
    subst e1; subst e2
    have hb : ((nH : Int) != (nE : Int)) = true := by simp; omega
    have HFR := Lib.hid (HNT.out fun h => e3 h.2.2.1)
    go_enter Try.func11, Try.ntmps11
    go_wp2_with fail
    go_ret
    exact ⟨ret_bool HFR.out.symm, HB1.out⟩
  obtain rfl := e1.symm; obtain rfl := e2.symm; obtain rfl := e3.symm
  have HF := Lib.hid (show ¬ SndIs N M s t hd rv cp X E H → r = false from fun h => HNT.out fun h' => h h'.2.2.2)
  have HT := Lib.hid (show SndIs N M s t hd rv cp X E H → r = true from fun h => HR.out.2 ⟨rfl, rfl, rfl, h⟩)
  have HXL := Lib.hid HQ.out.iX.len; have HEL := Lib.hid HQ.out.iE.len; have HHL := Lib.hid HQ.out.iH.len
  have hNz : ((N : Int) == 0) = false := by rw [beq_eq_false_iff_ne]; omega
  clear HNT HR
  go_enter Try.func11, Try.ntmps11
  go_wp2_with fail
  clear hw1 c0 c1 c2 c3 c4 c5 c6 c7 c8 p0 p1 p2 zp zc hNz
  go_loopw [5, 6] (fun i _ wr => ∃ k : Nat, k ≤ M ∧ i = .int .i64 k ∧ (∀ a, a < k → 0 ≤ hOf X a ∧ hOf X a + hOf X (rv a) = cp a + cp (rv a)) ∧ Below w1.heap.size w1 wr) (fun i _ _ => M - (intOf i).toNat)
  case atStart => exact ⟨0, Nat.zero_le _, rfl, fun a h => by omega, Below.refl _ _⟩
  case round =>
    obtain ⟨k, hk, rfl, hpr, hb1⟩ := hrel
    have HPR := Lib.hid hpr; have HB2 := Lib.hid hb1; have HBw := Lib.hid (below_step HB1.out hb1)
    obtain ⟨c0, c1, c2, c3, c4, c5, c6, c7, c8⟩ := (HC1.out.below hb1 HC1.out.lt).at9
    obtain ⟨⟨p0, p1, p2⟩, -, zp⟩ := (HP1.out.below hb1 HP1.out.lt).full3
    have zc := (HC1.out.below hb1 HC1.out.lt).lt
    clear hpr hb1
    by_cases hlt : k < M
    · skip
      have hM0 : 0 < M := by omega
      have HI2 := HI.out.on HBw.out; have HQ2 := HQ.out.on HBw.out
      obtain ⟨bR, oR, hRa⟩ := HI2.gi.iR.adr hM0
      obtain ⟨bC, oC, hCa⟩ := HI2.iC.adr hM0
      obtain ⟨bX, oX, hXa⟩ := HQ2.iX.adr hM0
      have hiR := HI2.gi.iR; have hiC := HI2.iC; have hiX := HQ2.iX
      dsimp only at hRa hCa hXa hiR hiC hiX
      subst hRa; subst hCa; subst hXa
      have hra := HG.out.g.rvl k hlt
      obtain ⟨zR, cr⟩ := tab_cell hiR hlt
      obtain ⟨zC, cc⟩ := hiC.cel (tab_at hlt)
      obtain ⟨-, cc2⟩ := hiC.cel (tab_at hra)
      obtain ⟨zX, cx⟩ := hiX.cel (hOf_get HXL.out hlt)
      obtain ⟨-, cx2⟩ := hiX.cel (hOf_get HXL.out hra)
      have hcp1 := HG.out.cp0 k hlt; have hcp2 := HG.out.cp0 _ hra
      obtain ⟨q, hq⟩ : ∃ q, rv k = q := ⟨_, rfl⟩
      have HQE := Lib.hid hq
      rw [hq] at cr cc2 cx2 hra hcp2
      obtain ⟨x, hx'⟩ : ∃ x, hOf X k = x := ⟨_, rfl⟩
      obtain ⟨y, hy'⟩ : ∃ y, hOf X q = y := ⟨_, rfl⟩
      obtain ⟨ca, hca⟩ : ∃ y, cp k = y := ⟨_, rfl⟩
      obtain ⟨cb, hcb⟩ : ∃ y, cp q = y := ⟨_, rfl⟩
      rw [hx'] at cx; rw [hy'] at cx2; rw [hca] at cc hcp1; rw [hcb] at cc2 hcp2
      have HXE := Lib.hid hx'; have HYE := Lib.hid hy'; have HCA := Lib.hid hca; have HCB := Lib.hid hcb
      obtain ⟨m, hm⟩ : ∃ m, IntKind.i64.wrap (ca + cb) = m := ⟨_, rfl⟩
      have hmm : m = ca + cb ∧ 0 ≤ m ∧ m ≤ 4611686018427387904 := by
        unfold maxSum at hcp1 hcp2
        have hcz : cp k = 0 ∨ cp q = 0 := by
          have hb := HG.out.bkr k hlt
          rw [HQE.out] at hb
          cases hbk : bk k with
          | true => exact .inl (HG.out.cpb k hlt hbk)
          | false => exact .inr (HG.out.cpb _ hra (by rw [hb, hbk]; rfl))
        rw [HCA.out, HCB.out] at hcz
        rw [← hm, wrap_in (by omega) (by omega)]
        omega
      have HMM := Lib.hid hmm
      have hk0 : (0 : Int) ≤ (k : Int) := by omega
      have hkM : (k : Int) < (M : Int) := by omega
      have hq0 : (0 : Int) ≤ (q : Int) := by omega
      have hqM : (q : Int) < (M : Int) := by omega
      clear hcp1 hcp2 hmm hq hx' hy' hca hcb hiR hiC hiX HI2 HQ2 hM0
      by_cases h1 : x < 0
      · have d1 : decide (x < 0) = true := decide_eq_true h1
        have HFR := Lib.hid (HF.out (fun h => by have := (h.bal.2 k hlt).1; rw [HXE.out] at this; omega))
        go_wp2_with fail
        go_quiet (fail)
        go_wp2_with fail
        go_quiet (fail)
        go_wp2_with fail
        go_ret
        exact ⟨ret_bool HFR.out.symm, below_drewN' (below_drewN' HBw.out _) _⟩
      have d1 : decide (x < 0) = false := decide_eq_false h1
      by_cases h2 : m < x
      · have d2 : decide (m < x) = true := decide_eq_true h2
        have HFR := Lib.hid (HF.out (fun h => by have h3 := h.bal.2 k hlt; have h4 := h.bal.2 q hra; rw [HQE.out] at h3; rw [HXE.out, HYE.out, HCA.out, HCB.out] at h3; rw [HYE.out] at h4; have := HMM.out; omega))
        go_wp2_with fail
        go_quiet (fail)
        go_wp2_with fail
        go_quiet (fail)
        go_wp2_with fail
        go_ret
        exact ⟨ret_bool HFR.out.symm, below_drewN' (below_drewN' HBw.out _) _⟩
      have d2 : decide (m < x) = false := decide_eq_false h2
      have hsw : IntKind.i64.wrap (m - x) = m - x := wrap_in (by have := HMM.out; omega) (by have := HMM.out; omega)
      obtain ⟨z, hz⟩ : ∃ z, IntKind.i64.wrap (m - x) = z := ⟨_, rfl⟩
      rw [hz] at hsw
      have HZ := Lib.hid hsw.symm
      clear hsw
      by_cases h3 : y = z
      case neg =>
        have d3 : (y != z) = true := by simpa using h3
        have HFR := Lib.hid (HF.out (fun h => by have h4 := h.bal.2 k hlt; rw [HQE.out, HXE.out, HYE.out, HCA.out, HCB.out] at h4; have := HMM.out; have := HZ.out; omega))
        go_wp2_with fail
        go_quiet (fail)
        go_wp2_with fail
        go_quiet (fail)
        go_wp2_with fail
        go_ret
        exact ⟨ret_bool HFR.out.symm, below_drewN' (below_drewN' HBw.out _) _⟩
      have d3 : (y != z) = false := by simp [h3]
      have hpr1 : ∀ a, a < k + 1 → 0 ≤ hOf X a ∧ hOf X a + hOf X (rv a) = cp a + cp (rv a) := fun a ha => by
        by_cases e : a = k
        · subst e
          rw [HQE.out, HXE.out, HYE.out, HCA.out, HCB.out]
          have := HMM.out; have := HZ.out
          omega
        · exact HPR.out a (by omega)
      have HPR1 := Lib.hid hpr1
      clear hpr1 h1 h2 h3
      go_wp2_with fail
      go_quiet (fail)
      go_wp2_with fail
      go_quiet (fail)
      go_wp2_with fail
      refine ⟨⟨k + 1, by omega, by go_num, HPR1.out, below_drewN' HB2.out _⟩, ?_⟩
      simp [intOf]; omega
    · skip
      have ek : M = k := by omega
      subst ek
      have hlt' : ¬ (M : Int) < (M : Int) := by omega
      have hbal : Bal M rv cp X := ⟨HXL.out, HPR.out⟩
      have hga := exRow_all HG.out hbal
      have HBAL := Lib.hid hbal
      go_wp2_with fail
      refine (HEX.out AX cX X _ HBw.out (HQ.out.on HBw.out).iX).mono ?_
      rintro e w3 ⟨gx, rfl, hge, hgl, b3⟩
      rw [hga] at hge
      have HGE := Lib.hid hge; have HB3 := Lib.hid (below_step HB2.out b3); have HBw3 := Lib.hid (below_step HBw.out b3)
      clear hge hga hbal b3 hlt hlt' c0 c1 c2 c3 c4 c5 c6 c7 c8 p0 p1 p2 zp zc HB2 HBw HEX
      have hw2n : IntKind.i64.wrap (2 * (N : Int)) = 2 * (N : Int) := wrap_in (by omega) (by omega)
      go_wp2_with fail
      go_loopw [8] (fun i wr => ∃ (v : Nat), v ≤ N ∧ i = .int .i64 v ∧ (∀ u, u < v → hOf E u = exT M hd rv cp X u ∧ (u ≠ s → 0 ≤ hOf E u) ∧ 0 ≤ hOf H u ∧ hOf H u ≤ 2 * N) ∧ Below w3.heap.size w3 wr) (fun i _ => N - (intOf i).toNat)
      case atStart => exact ⟨0, Nat.zero_le _, rfl, fun u h => by omega, Below.refl _ _⟩
      case round =>
        obtain ⟨v, hv, rfl, hpr, hbv⟩ := hrel
        have HBV := Lib.hid hbv; have HPV := Lib.hid hpr
        have hb4 : Below w1.heap.size w1 wr := below_step HB3.out hbv
        have HBw := Lib.hid (below_step HB1.out hb4)
        obtain ⟨c0, c1, c2, c3, c4, c5, c6, c7, c8⟩ := (HC1.out.below hb4 HC1.out.lt).at9
        obtain ⟨⟨p0, p1, p2⟩, -, zp⟩ := (HP1.out.below hb4 HP1.out.lt).full3
        have zc := (HC1.out.below hb4 HC1.out.lt).lt
        clear hpr hb4 hbv
        obtain ⟨bH, oH, hHa⟩ := (HQ.out.on HBw.out).iH.adr (by omega)
        have hiH := (HQ.out.on HBw.out).iH
        dsimp only at hHa hiH
        subst hHa
        by_cases hlt : v < N
        · obtain ⟨bE, oE, hEa⟩ := (HQ.out.on HBw.out).iE.adr (by omega)
          have hiE := (HQ.out.on HBw.out).iE
          dsimp only at hEa hiE
          subst hEa
          obtain ⟨zE, ce⟩ := hiE.cel (hOf_get HEL.out hlt)
          obtain ⟨zH, ch⟩ := hiH.cel (hOf_get HHL.out hlt)
          have cg := (HGE.out.below HBV.out HGE.out.lt).iat (tab_at hlt)
          have zg := (HGE.out.below HBV.out HGE.out.lt).lt
          obtain ⟨e, he⟩ : ∃ e, exT M hd rv cp X v = e := ⟨_, rfl⟩
          obtain ⟨ev, hev⟩ : ∃ e, hOf E v = e := ⟨_, rfl⟩
          obtain ⟨h, hh⟩ : ∃ e, hOf H v = e := ⟨_, rfl⟩
          rw [he] at cg; rw [hev] at ce; rw [hh] at ch
          have HEE := Lib.hid he; have HEV := Lib.hid hev; have HHV := Lib.hid hh
          have hv0 : (0 : Int) ≤ (v : Int) := by omega
          have hvN : (v : Int) < (N : Int) := by omega
          clear hiE hiH he hev hh
          by_cases g1 : ev = e
          case neg =>
            have k1 : (ev != e) = true := by simpa using g1
            have HFR := Lib.hid (HF.out (fun h => g1 (by rw [← HEV.out, ← HEE.out]; exact h.exc v hlt)))
            go_wp2_with fail
            go_quiet (fail)
            go_wp2_with fail
            go_ret
            exact ⟨ret_bool HFR.out.symm, below_drewN' HBw.out _⟩
          subst g1
          have k1 : (ev != ev) = false := by simp
          by_cases gs : v = s
          · have k2 : ((v : Int) != (s : Int)) = false := by simp [gs]
            have HGS := Lib.hid gs
            clear gs
            by_cases g3 : h < 0
            · have k3 : decide (h < 0) = true := decide_eq_true g3
              have HFR := Lib.hid (HF.out (fun h' => by have := (h'.bnd v hlt).1; rw [HHV.out] at this; omega))
              go_wp2_with fail
              go_quiet (fail)
              go_wp2_with fail
              go_ret
              exact ⟨ret_bool HFR.out.symm, below_drewN' HBw.out _⟩
            have k3 : decide (h < 0) = false := decide_eq_false g3
            by_cases g4 : 2 * (N : Int) < h
            · have k4 : decide (2 * (N : Int) < h) = true := decide_eq_true g4
              have HFR := Lib.hid (HF.out (fun h' => by have := (h'.bnd v hlt).2; rw [HHV.out] at this; omega))
              go_wp2_with fail
              go_quiet (fail)
              go_wp2_with fail
              go_ret
              exact ⟨ret_bool HFR.out.symm, below_drewN' HBw.out _⟩
            have k4 : decide (2 * (N : Int) < h) = false := decide_eq_false g4
            have hpv : ∀ u, u < v + 1 → hOf E u = exT M hd rv cp X u ∧ (u ≠ s → 0 ≤ hOf E u) ∧ 0 ≤ hOf H u ∧ hOf H u ≤ 2 * N := fun u hu => by
              by_cases e' : u = v
              · subst e'
                rw [HEV.out, HEE.out, HHV.out]
                exact ⟨rfl, fun h => absurd HGS.out h, by omega, by omega⟩
              · exact HPV.out u (by omega)
            have HPV1 := Lib.hid hpv
            clear hpv g3 g4
            go_wp2_with fail
            go_quiet (fail)
            go_wp2_with fail
            refine ⟨⟨v + 1, by omega, by go_num, HPV1.out, below_drewN' HBV.out _⟩, ?_⟩
            simp [intOf]; omega
          · have k2 : ((v : Int) != (s : Int)) = true := by simp; omega
            by_cases g2 : ev < 0
            · have k5 : decide (ev < 0) = true := decide_eq_true g2
              have HFR := Lib.hid (HF.out (fun h' => by have := h'.neg v hlt gs; rw [HEV.out] at this; omega))
              go_wp2_with fail
              go_quiet (fail)
              go_wp2_with fail
              go_ret
              exact ⟨ret_bool HFR.out.symm, below_drewN' HBw.out _⟩
            have k5 : decide (ev < 0) = false := decide_eq_false g2
            by_cases g3 : h < 0
            · have k3 : decide (h < 0) = true := decide_eq_true g3
              have HFR := Lib.hid (HF.out (fun h' => by have := (h'.bnd v hlt).1; rw [HHV.out] at this; omega))
              go_wp2_with fail
              go_quiet (fail)
              go_wp2_with fail
              go_ret
              exact ⟨ret_bool HFR.out.symm, below_drewN' HBw.out _⟩
            have k3 : decide (h < 0) = false := decide_eq_false g3
            by_cases g4 : 2 * (N : Int) < h
            · have k4 : decide (2 * (N : Int) < h) = true := decide_eq_true g4
              have HFR := Lib.hid (HF.out (fun h' => by have := (h'.bnd v hlt).2; rw [HHV.out] at this; omega))
              go_wp2_with fail
              go_quiet (fail)
              go_wp2_with fail
              go_ret
              exact ⟨ret_bool HFR.out.symm, below_drewN' HBw.out _⟩
            have k4 : decide (2 * (N : Int) < h) = false := decide_eq_false g4
            have hpv : ∀ u, u < v + 1 → hOf E u = exT M hd rv cp X u ∧ (u ≠ s → 0 ≤ hOf E u) ∧ 0 ≤ hOf H u ∧ hOf H u ≤ 2 * N := fun u hu => by
              by_cases e' : u = v
              · subst e'
                rw [HEV.out, HEE.out, HHV.out]
                exact ⟨rfl, fun _ => by omega, by omega, by omega⟩
              · exact HPV.out u (by omega)
            have HPV1 := Lib.hid hpv
            clear hpv g3 g4
            go_wp2_with fail
            go_quiet (fail)
            go_wp2_with fail
            refine ⟨⟨v + 1, by omega, by go_num, HPV1.out, below_drewN' HBV.out _⟩, ?_⟩
            simp [intOf]; omega
        · skip
          have ev : N = v := by omega
          subst ev
          have hlt' : ¬ (N : Int) < (N : Int) := by omega
          obtain ⟨zH, ch⟩ := hiH.cel (hOf_get HHL.out hsN)
          obtain ⟨-, ct⟩ := hiH.cel (hOf_get HHL.out htN)
          obtain ⟨x, hx⟩ : ∃ x, hOf H s = x := ⟨_, rfl⟩
          obtain ⟨y, hy⟩ : ∃ x, hOf H t = x := ⟨_, rfl⟩
          rw [hx] at ch; rw [hy] at ct
          have HXY := Lib.hid (And.intro hx hy)
          have hs0 : (0 : Int) ≤ (s : Int) := by omega
          have hsN' : (s : Int) < (N : Int) := by omega
          have ht0 : (0 : Int) ≤ (t : Int) := by omega
          have htN' : (t : Int) < (N : Int) := by omega
          clear hiH hx hy
          by_cases j1 : x = (N : Int)
          · have j1' : (x == (N : Int)) = true := by simpa using j1
            by_cases j2 : y = 0
            · have j2' : (y == 0) = true := by simpa using j2
              have hall : SndIs N M s t hd rv cp X E H := ⟨HBAL.out, HEL.out, HHL.out, fun v hv => (HPV.out v hv).1, fun v hv hne => (HPV.out v hv).2.1 hne, by rw [HXY.out.1, j1], by rw [HXY.out.2, j2], fun v hv => (HPV.out v hv).2.2⟩
              have HTR := Lib.hid (HT.out hall)
              clear hall j1 j2
              go_wp2_with fail
              go_quiet (fail)
              go_wp2_with fail
              go_ret
              exact ⟨ret_bool HTR.out.symm, below_drewN' HBw.out _⟩
            · have j2' : (y == 0) = false := by simpa using j2
              have HFR := Lib.hid (HF.out fun h => j2 (by rw [← HXY.out.2]; exact h.snk))
              clear j1
              go_wp2_with fail
              go_quiet (fail)
              go_wp2_with fail
              go_ret
              exact ⟨ret_bool HFR.out.symm, below_drewN' HBw.out _⟩
          · have j1' : (x == (N : Int)) = false := by simpa using j1
            have HFR := Lib.hid (HF.out fun h => j1 (by rw [← HXY.out.1]; exact h.src))
            go_wp2_with fail
            go_quiet (fail)
            go_wp2_with fail
            go_ret
            exact ⟨ret_bool HFR.out.symm, below_drewN' HBw.out _⟩
end Go.Proofs.Ytanifbofjecpmaa
