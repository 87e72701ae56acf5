/- Layer 8: a run's start. (Written by wip/gen_star.py.) -/
import Derived.Test.YtfcjmhihheeifaaRunq
import Derived.Test.YtfcjmhihheeifaaActo
namespace Go.Proofs.Ytfcjmhihheeifaa
open Go.RowKit Go.Shelf Go.Conc
set_option maxRecDepth 100000
attribute [local go_sem] Oper.semAt_some

theorem int_bytes8 : ∃ i, Try.prog.info? 3 = some i ∧ i.bytes = 8 := by
  have h : (Try.prog.info? 3).map (·.bytes) = some 8 := by kernel_rfl
  obtain ⟨i, hi, hb⟩ := Option.map_eq_some_iff.1 h
  exact ⟨i, hi, hb⟩
theorem mk_chan (n : Nat) (hn : n ≤ 4096) (W : World) : (Instr.makeChan 95 (.int .i64 (n : Int))).run Try.prog W = .ok (.chan (some W.heap.size)) (W.alloc (.chan n #[] false 0 0 false)) := by
  obtain ⟨i, hi, hb⟩ := int_bytes8
  exact run_makeChan (P := Try.prog) (w := W) Try.underlying95 hi .i64 n (by omega) (by rw [hb]; omega)
theorem chan_new (W : World) (o : Obj) : (W.alloc o).heap[W.heap.size]? = some o := heap_alloc_new W o

/-- The start of a run from a state. -/
abbrev fs0 (s t N : Nat) (fst : Nat → Nat) (X E H : List Int) : FS := { X := X, E := E, H := H, q := selTo (actB s t E) N, nx := fst, P := 0, L := 0 }
def RetRun (N M s t : Nat) (K : CsrS) (σ : FS) (w : World) (e : Ending) (w' : World) : Prop :=
  ∃ g ch AX cX gE cE gH cH gn cn, e = .returned (.pointer (some ⟨g, 0, none⟩)) ∧ RunQ w w' w.heap.size g ch N M s t K AX cX gE cE gH cH gn cn σ

set_option maxHeartbeats 16000000 in
theorem fstart_is (N M s t : Nat) (K : CsrS) (Q : PreS) (fst hd rv ai : Nat → Nat) (cp : Nat → Int) (bk : Nat → Bool) (X E H : List Int) (w : World) (hG : PNet N M s t fst hd rv ai cp bk) (hI : PIn w w.heap.size N M K fst hd rv ai cp bk)
    (hQ : StIn w w.heap.size M N N Q X E H) (hS : StIs N M s t hd rv cp X E H) :
    Calls Try.prog 44 #[csrW N M s t K, preW M N N Q] w (RetRun N M s t K (fs0 s t N fst X E H) w) := by
  have hM := hG.nM; have hN := hG.nN; have hsN := hG.hs; have htN := hG.ht; have hn2 := hG.n2
  have hcp := fun W (hb : Below w.heap.size w W) => pcopy_is M N N Q X E H W (hQ.on hb) (by omega) (by omega) (by omega)
  have hcl := fun W (hb : Below w.heap.size w W) => cloneI_is K.AF (N + 1) K.cF (tab (N + 1) fun v => (fst v : Int)) W (hI.gi.on hb).iF (by omega)
  have hac := fun W (hb : Below w.heap.size w W) => active_is N M s t M N N K Q fst hd rv X E H W hG.g (hI.gi.on hb) (hQ.on hb) hsN htN (by omega) (by omega)
  have hmk := fun W => mk_chan N hN W
  obtain ⟨L, hL⟩ : ∃ L, selTo (actB s t E) N = L := ⟨_, rfl⟩
  have hact : activeTo s t N M M N N E = L := by unfold activeTo; rw [if_pos ⟨rfl, rfl, rfl⟩]; exact hL
  have hLN := sel_len (actB s t E) N
  have hLm : ∀ v, v ∈ L → v < N := fun v hv => by rw [← hL] at hv; exact (sel_mem.1 hv).1
  rw [hL] at hLN
  rw [hact] at hac
  have HCP0 := Lib.hid hcp; have HCL0 := Lib.hid hcl; have HAC := Lib.hid hac; have HL := Lib.hid hL; have HLM := Lib.hid hLm
  obtain ⟨lX, lE, lH⟩ : X.length = M ∧ E.length = N ∧ H.length = N := ⟨hS.bal.1, hS.le, hS.lh⟩
  have HLX := Lib.hid lX; have HLE := Lib.hid lE; have HLH := Lib.hid lH
  have HK := Lib.hid (show K = K from rfl)
  unfold fs0
  rw [hL]
  have HFV := Lib.hid (show nvs (tab (N + 1) fst) = (tab (N + 1) fun v => (fst v : Int)).map (Value.int .i64) from nvs_ints)
  obtain ⟨AF, cF, AH, cH, AR, cR, AC, cC, AA, cA, AB, cB⟩ := K
  obtain ⟨AX, cX, AE, cE, AHH, cHH⟩ := Q
  dsimp only [csrW, preW] at HCP0 HCL0 HAC ⊢
  clear hcp hcl hac hI hQ hS hG hL hact hLm lX lE lH HK
  go_enter Try.func44, Try.ntmps44
  go_upto_region 1 with fail
  obtain ⟨w1, hw1⟩ : ∃ w1, ((w.alloc (.cells #[.int .i64 (N : Int), .int .i64 (s : Int), .int .i64 (t : Int), .slice AF (N + 1) cF, .slice AH M cH, .slice AR M cR, .slice AC M cC, .slice AA M cA, .slice AB M cB] 45)).alloc (.cells #[.slice AX M cX, .slice AE N cE, .slice AHH N cHH] 49)) = w1 := ⟨_, rfl⟩
  have B1 : Below w.heap.size w w1 := by rw [← hw1]; exact ((Below.refl _ w).alloc (Nat.le_refl _) _).alloc (by simp) _
  have C1 : Blk w1 w.heap.size 45 #[.int .i64 (N : Int), .int .i64 (s : Int), .int .i64 (t : Int), .slice AF (N + 1) cF, .slice AH M cH, .slice AR M cR, .slice AC M cC, .slice AA M cA, .slice AB M cB] := by rw [← hw1]; exact (Blk.new rfl).alloc _
  have P1 : Blk w1 (w.heap.size + 1) 49 #[.slice AX M cX, .slice AE N cE, .slice AHH N cHH] := by rw [← hw1]; exact Blk.new (by simp)
  rw [hw1]
  clear hw1
  obtain ⟨w2, hw2⟩ : ∃ w2, w1.drew = w2 := ⟨_, rfl⟩
  have h12 : Below w1.heap.size w1 w2 := by rw [← hw2]; exact (Below.refl _ w1).drew
  have HB2 := Lib.hid (below_step B1 h12)
  have HC2 := Lib.hid (C1.below h12 C1.lt)
  have HP2 := Lib.hid (P1.below h12 P1.lt)
  obtain ⟨b2, hb2⟩ : ∃ b2, w2.heap.size = b2 := ⟨_, rfl⟩
  have HBE := Lib.hid hb2
  have HCP := Lib.hid (fun W (hb : Below b2 w2 W) => HCP0.out W (below_step HB2.out (by rw [HBE.out]; exact hb)))
  have HCL := Lib.hid (fun W (hb : Below b2 w2 W) => HCL0.out W (below_step HB2.out (by rw [HBE.out]; exact hb)))
  have hkeep : ∀ W', Below b2 w2 W' → Below b2 w2 W' ∧ W'.cell? ⟨w.heap.size, 0, none⟩ = some (.int .i64 (N : Int)) ∧ W'.cell? ⟨w.heap.size, 1, none⟩ = some (.int .i64 (s : Int)) ∧ W'.cell? ⟨w.heap.size, 2, none⟩ = some (.int .i64 (t : Int)) ∧ W'.cell? ⟨w.heap.size, 3, none⟩ = some (.slice AF (N + 1) cF) ∧ W'.cell? ⟨w.heap.size, 4, none⟩ = some (.slice AH M cH) ∧ W'.cell? ⟨w.heap.size, 5, none⟩ = some (.slice AR M cR) ∧ W'.cell? ⟨w.heap.size, 6, none⟩ = some (.slice AC M cC) ∧ W'.cell? ⟨w.heap.size, 7, none⟩ = some (.slice AA M cA) ∧ W'.cell? ⟨w.heap.size, 8, none⟩ = some (.slice AB M cB) ∧ W'.cell? ⟨w.heap.size + 1, 0, none⟩ = some (.slice AX M cX) ∧ W'.cell? ⟨w.heap.size + 1, 1, none⟩ = some (.slice AE N cE) ∧ W'.cell? ⟨w.heap.size + 1, 2, none⟩ = some (.slice AHH N cHH) := fun W' hb => by
    obtain ⟨a0, a1, a2, a3, a4, a5, a6, a7, a8⟩ := (HC2.out.below hb (by have := HC2.out.lt; have := HBE.out; omega)).at9
    obtain ⟨⟨q0, q1, q2⟩, -, -⟩ := (HP2.out.below hb (by have := HP2.out.lt; have := HBE.out; omega)).full3
    exact ⟨hb, a0, a1, a2, a3, a4, a5, a6, a7, a8, q0, q1, q2⟩
  have HKEEP := Lib.hid hkeep
  have hz2 : w.heap.size + 1 < b2 := by have := HP2.out.lt; have := HBE.out; omega
  clear hkeep h12 hb2 C1 P1 B1
  refine wp_region_held_drew (S := fun W' => Below b2 w2 W' ∧ W'.cell? ⟨w.heap.size, 0, none⟩ = some (.int .i64 (N : Int)) ∧ W'.cell? ⟨w.heap.size, 1, none⟩ = some (.int .i64 (s : Int)) ∧ W'.cell? ⟨w.heap.size, 2, none⟩ = some (.int .i64 (t : Int)) ∧ W'.cell? ⟨w.heap.size, 3, none⟩ = some (.slice AF (N + 1) cF) ∧ W'.cell? ⟨w.heap.size, 4, none⟩ = some (.slice AH M cH) ∧ W'.cell? ⟨w.heap.size, 5, none⟩ = some (.slice AR M cR) ∧ W'.cell? ⟨w.heap.size, 6, none⟩ = some (.slice AC M cC) ∧ W'.cell? ⟨w.heap.size, 7, none⟩ = some (.slice AA M cA) ∧ W'.cell? ⟨w.heap.size, 8, none⟩ = some (.slice AB M cB) ∧ W'.cell? ⟨w.heap.size + 1, 0, none⟩ = some (.slice AX M cX) ∧ W'.cell? ⟨w.heap.size + 1, 1, none⟩ = some (.slice AE N cE) ∧ W'.cell? ⟨w.heap.size + 1, 2, none⟩ = some (.slice AHH N cHH)) (by kernel_rfl) (by rw [hw2]; exact HKEEP.out _ (Below.refl _ _)) (fun hS0 => ?_)
  rw [hw2] at hS0 ⊢
  clear hw2
  refine tk (v := ?_) 0 8 rfl ?_ ?_
  rotate_left
  · (intro W hSw; obtain ⟨-, a0, a1, a2, a3, a4, a5, a6, a7, a8, q0, q1, q2⟩ := hSw; go_simp; try with_reducible rfl)
  simp only [Act.put, pa, pz, ps]
  refine tk (v := ?_) 1 9 rfl ?_ ?_
  rotate_left
  · (intro W hSw; obtain ⟨-, a0, a1, a2, a3, a4, a5, a6, a7, a8, q0, q1, q2⟩ := hSw; go_simp; try with_reducible rfl)
  simp only [Act.put, pa, pz, ps]
  refine tk (v := ?_) 3 11 rfl ?_ ?_
  rotate_left
  · (intro W hSw; obtain ⟨-, a0, a1, a2, a3, a4, a5, a6, a7, a8, q0, q1, q2⟩ := hSw; go_simp; try with_reducible rfl)
  simp only [Act.put, pa, pz, ps]
  refine tk (v := ?_) 4 12 rfl ?_ ?_
  rotate_left
  · (intro W hSw; obtain ⟨-, a0, a1, a2, a3, a4, a5, a6, a7, a8, q0, q1, q2⟩ := hSw; go_simp; try with_reducible rfl)
  simp only [Act.put, pa, pz, ps]
  refine tk (v := ?_) 6 14 rfl ?_ ?_
  rotate_left
  · (intro W hSw; obtain ⟨-, a0, a1, a2, a3, a4, a5, a6, a7, a8, q0, q1, q2⟩ := hSw; go_simp; try with_reducible rfl)
  simp only [Act.put, pa, pz, ps]
  refine tk (v := ?_) 7 15 rfl ?_ ?_
  rotate_left
  · (intro W hSw; obtain ⟨-, a0, a1, a2, a3, a4, a5, a6, a7, a8, q0, q1, q2⟩ := hSw; go_simp; try with_reducible rfl)
  simp only [Act.put, pa, pz, ps]
  refine (have tail : Hid ?T := ?tailp; ?main)
  case main =>
    have hSn := hS0
    refine wpAnyH_ready (rs := [2, 5]) (by kernel_rfl) (by simp) ?_
    refine AllReadyH.cons rfl (fun K hK => ?_) (AllReadyH.cons rfl (fun K hK => ?_) (AllReadyH.nil))
    · go_simp
      (with_reducible refine (HCP.out _ (Below.refl _ _)).mono ?_); rintro e W1 ⟨Q2, rfl, hR0⟩
      have hB0 := hR0.bel
      have HX := hR0.low (base' := b2) (w1 := w2) (by rw [HBE.out]; exact Nat.le_refl _) (Below.refl _ _)
      refine hK.out _ _ (HKEEP.out _ HX.bel) (fun hSm => ?_)
      clear hK K hR0 hB0 hSn
      have hSn := hSm
      clear hSm
      try simp only [Act.put, pa, pz, ps]
      refine wpAnyH_ready (rs := [5, 8]) (by kernel_rfl) (by simp) ?_
      refine AllReadyH.cons rfl (fun K hK => ?_) (AllReadyH.cons rfl (fun K hK => ?_) (AllReadyH.nil))
      · go_simp
        obtain ⟨ch, hgn⟩ : ∃ g, W1.heap.size = g := ⟨_, rfl⟩
        have hch : b2 ≤ ch := by have := HX.bas; omega
        replace HX := HX.alloc (.chan N #[] false 0 0 false)
        have HC : (W1.alloc (.chan N #[] false 0 0 false)).heap[ch]? = some (.chan N #[] false 0 0 false) := by rw [← hgn]; exact chan_new _ _
        refine hK.out _ _ (HKEEP.out _ HX.bel) (fun hSm => ?_)
        clear hK K hSn
        have hSn := hSm
        clear hSm
        try simp only [Act.put, pa, pz, ps]
        obtain ⟨W2, hWn⟩ : ∃ W, W1.alloc (.chan N #[] false 0 0 false) = W := ⟨_, rfl⟩
        rw [hWn] at HX hSn HC ⊢
        rw [hgn]
        clear hWn hgn
        refine wpAnyH_ready (rs := [8]) (by kernel_rfl) (by simp) ?_
        refine AllReadyH.cons rfl (fun K hK => ?_) (AllReadyH.nil)
        · go_simp
          (with_reducible refine (HCL.out _ HX.bel).mono ?_); rintro e W3 ⟨An, cn, rfl, hR0, hB0⟩
          replace HX := HX.add hB0 hR0
          replace HC := (hB0.block ch (Array.getElem?_eq_some_iff.1 HC).1).trans HC
          refine hK.out _ _ (HKEEP.out _ HX.bel) (fun hSm => ?_)
          clear hK K hR0 hB0 hSn
          have hSn := hSm
          clear hSm
          try simp only [Act.put, pa, pz, ps]
          clear hSn
          revert HC
          revert HX
          revert hch
          revert W3
          revert ch
          revert cn
          revert An
          revert Q2
          exact tail.out
      · go_simp
        (with_reducible refine (HCL.out _ HX.bel).mono ?_); rintro e W2 ⟨An, cn, rfl, hR0, hB0⟩
        replace HX := HX.add hB0 hR0
        refine hK.out _ _ (HKEEP.out _ HX.bel) (fun hSm => ?_)
        clear hK K hR0 hB0 hSn
        have hSn := hSm
        clear hSm
        try simp only [Act.put, pa, pz, ps]
        refine wpAnyH_ready (rs := [5]) (by kernel_rfl) (by simp) ?_
        refine AllReadyH.cons rfl (fun K hK => ?_) (AllReadyH.nil)
        · go_simp
          obtain ⟨ch, hgn⟩ : ∃ g, W2.heap.size = g := ⟨_, rfl⟩
          have hch : b2 ≤ ch := by have := HX.bas; omega
          replace HX := HX.alloc (.chan N #[] false 0 0 false)
          have HC : (W2.alloc (.chan N #[] false 0 0 false)).heap[ch]? = some (.chan N #[] false 0 0 false) := by rw [← hgn]; exact chan_new _ _
          refine hK.out _ _ (HKEEP.out _ HX.bel) (fun hSm => ?_)
          clear hK K hSn
          have hSn := hSm
          clear hSm
          try simp only [Act.put, pa, pz, ps]
          obtain ⟨W3, hWn⟩ : ∃ W, W2.alloc (.chan N #[] false 0 0 false) = W := ⟨_, rfl⟩
          rw [hWn] at HX hSn HC ⊢
          rw [hgn]
          clear hWn hgn
          clear hSn
          revert HC
          revert HX
          revert hch
          revert W3
          revert ch
          revert cn
          revert An
          revert Q2
          exact tail.out
    · go_simp
      obtain ⟨ch, hgn⟩ : ∃ g, w2.heap.size = g := ⟨_, rfl⟩
      have hch : b2 ≤ ch := by have := HBE.out; omega
      have HW1 : Below b2 w2 (w2.alloc (.chan N #[] false 0 0 false)) := by have := below_alloc (w := w2) (.chan N #[] false 0 0 false); rw [HBE.out] at this; exact this
      have HC : (w2.alloc (.chan N #[] false 0 0 false)).heap[ch]? = some (.chan N #[] false 0 0 false) := by rw [← hgn]; exact chan_new _ _
      refine hK.out _ _ (HKEEP.out _ HW1) (fun hSm => ?_)
      clear hK K hSn
      have hSn := hSm
      clear hSm
      try simp only [Act.put, pa, pz, ps]
      obtain ⟨W1, hWn⟩ : ∃ W, w2.alloc (.chan N #[] false 0 0 false) = W := ⟨_, rfl⟩
      rw [hWn] at HW1 hSn HC ⊢
      rw [hgn]
      clear hWn hgn
      refine wpAnyH_ready (rs := [2]) (by kernel_rfl) (by simp) ?_
      refine AllReadyH.cons rfl (fun K hK => ?_) (AllReadyH.nil)
      · go_simp
        (with_reducible refine (HCP.out _ HW1).mono ?_); rintro e W2 ⟨Q2, rfl, hR0⟩
        have hB0 := hR0.bel
        have HX := hR0.low (base' := b2) (w1 := w2) (by have := HW1.size; have := HBE.out; omega) HW1
        replace HC := (hB0.block ch (Array.getElem?_eq_some_iff.1 HC).1).trans HC
        refine hK.out _ _ (HKEEP.out _ HX.bel) (fun hSm => ?_)
        clear hK K hR0 hB0 hSn
        have hSn := hSm
        clear hSm
        try simp only [Act.put, pa, pz, ps]
        refine wpAnyH_ready (rs := [8]) (by kernel_rfl) (by simp) ?_
        refine AllReadyH.cons rfl (fun K hK => ?_) (AllReadyH.nil)
        · go_simp
          (with_reducible refine (HCL.out _ HX.bel).mono ?_); rintro e W3 ⟨An, cn, rfl, hR0, hB0⟩
          replace HX := HX.add hB0 hR0
          replace HC := (hB0.block ch (Array.getElem?_eq_some_iff.1 HC).1).trans HC
          refine hK.out _ _ (HKEEP.out _ HX.bel) (fun hSm => ?_)
          clear hK K hR0 hB0 hSn
          have hSn := hSm
          clear hSm
          try simp only [Act.put, pa, pz, ps]
          clear hSn
          revert HC
          revert HX
          revert hch
          revert W3
          revert ch
          revert cn
          revert An
          revert Q2
          exact tail.out
  case tailp =>
    refine Lib.hid ?_
    intro Q2 An cn ch W3 hch HX HC
    have hSn := HKEEP.out _ HX.bel
    refine tk (v := ?_) 9 17 rfl ?_ ?_
    rotate_left
    · (intro W hSw; obtain ⟨-, a0, a1, a2, a3, a4, a5, a6, a7, a8, q0, q1, q2⟩ := hSw; go_simp; try with_reducible rfl)
    simp only [Act.put, pa, pz, ps]
    refine wpAnyH_ready (rs := [10]) (by kernel_rfl) (by simp) ?_
    refine AllReadyH.cons rfl (fun K hK => ?_) AllReadyH.nil
    go_simp
    obtain ⟨AX2, cX2, AE2, cE2, AH2, cH2⟩ := Q2
    obtain ⟨gE, rfl⟩ := own_some (HX.held.own 1 _ rfl) (by show 0 < N; omega)
    obtain ⟨gH, rfl⟩ := own_some (HX.held.own 2 _ rfl) (by show 0 < N; omega)
    obtain ⟨gn, rfl⟩ := own_some (HX.held.own 3 _ rfl) (by show 0 < N + 1; omega)
    obtain ⟨g, hgn⟩ : ∃ g, W3.heap.size = g := ⟨_, rfl⟩
    have hgb : b2 ≤ g := by have := HX.bas; omega
    have HR : RunQ w (W3.alloc (.cells #[.int .i64 (N : Int), .int .i64 (s : Int), .int .i64 (t : Int), .slice AF (N + 1) cF, .slice AH M cH, .slice AR M cR, .slice AC M cC, .slice AA M cA, .slice AB M cB, .slice AX2 M cX2, .slice (some ⟨gE, 0, none⟩) N cE2, .slice (some ⟨gH, 0, none⟩) N cH2, .int .i64 0, .int .i64 0, .chan (some ch), .slice (some ⟨gn, 0, none⟩) (N + 1) cn] 97)) w.heap.size g ch N M s t ⟨AF, cF, AH, cH, AR, cR, AC, cC, AA, cA, AB, cB⟩ AX2 cX2 gE cE2 gH cH2 gn cn { X := X, E := E, H := H, q := [], nx := fst, P := 0, L := 0 } := by
      have h1 := (HX.alloc (.cells #[.int .i64 (N : Int), .int .i64 (s : Int), .int .i64 (t : Int), .slice AF (N + 1) cF, .slice AH M cH, .slice AR M cR, .slice AC M cC, .slice AA M cA, .slice AB M cB, .slice AX2 M cX2, .slice (some ⟨gE, 0, none⟩) N cE2, .slice (some ⟨gH, 0, none⟩) N cH2, .int .i64 0, .int .i64 0, .chan (some ch), .slice (some ⟨gn, 0, none⟩) (N + 1) cn] 97)).low (base' := w.heap.size) (w1 := w) (by omega) HB2.out
      refine ⟨?_, Blk.new hgn, by omega, ⟨0, 0, (Below.heap_alloc _ _ ch (Array.getElem?_eq_some_iff.1 HC).1).trans HC⟩, by omega⟩
      unfold runR fvs
      rw [HFV.out]
      exact h1
    have hBw := (HX.alloc (.cells #[.int .i64 (N : Int), .int .i64 (s : Int), .int .i64 (t : Int), .slice AF (N + 1) cF, .slice AH M cH, .slice AR M cR, .slice AC M cC, .slice AA M cA, .slice AB M cB, .slice AX2 M cX2, .slice (some ⟨gE, 0, none⟩) N cE2, .slice (some ⟨gH, 0, none⟩) N cH2, .int .i64 0, .int .i64 0, .chan (some ch), .slice (some ⟨gn, 0, none⟩) (N + 1) cn] 97)).bel
    refine hK.out _ _ (HKEEP.out _ hBw) (fun hSm => ?_)
    clear hK K hSn hSm
    obtain ⟨W4, hWn⟩ : ∃ W, W3.alloc (.cells #[.int .i64 (N : Int), .int .i64 (s : Int), .int .i64 (t : Int), .slice AF (N + 1) cF, .slice AH M cH, .slice AR M cR, .slice AC M cC, .slice AA M cA, .slice AB M cB, .slice AX2 M cX2, .slice (some ⟨gE, 0, none⟩) N cE2, .slice (some ⟨gH, 0, none⟩) N cH2, .int .i64 0, .int .i64 0, .chan (some ch), .slice (some ⟨gn, 0, none⟩) (N + 1) cn] 97) = W := ⟨_, rfl⟩
    rw [hWn] at HR hBw ⊢
    rw [hgn]
    have HR4 := Lib.hid HR
    have hB4 := hBw
    have hSn := HKEEP.out _ hB4
    clear HR hBw hgn HC HX hWn

    refine tk (v := ?_) 11 5 rfl ?_ ?_
    rotate_left
    · (intro W hSw; obtain ⟨-, a0, a1, a2, a3, a4, a5, a6, a7, a8, q0, q1, q2⟩ := hSw; go_simp; try with_reducible rfl)
    simp only [Act.put, pa, pz, ps]
    refine wpAnyH_done (by kernel_rfl) ?_ _
    obtain ⟨-, a0, a1, a2, a3, a4, a5, a6, a7, a8, q0, q1, q2⟩ := hSn
    have hz4 : w.heap.size + 1 < W4.heap.size := by have := hB4.size; have := HBE.out; omega
    have HAC4 := Lib.hid (HAC.out W4 (below_step HB2.out (by rw [HBE.out]; exact hB4)))
    clear hB4
    go_wp2_with (go_at_call 21; refine HAC4.out.mono ?_; rintro e w5 ⟨A, cA5, rfl, hrow, B5⟩; have HROW := Lib.hid hrow; have HB5 := Lib.hid B5; clear hrow B5)
    go_loopw [23] (fun i wr => ∃ k : Nat, k ≤ L.length ∧ i = .int .i64 (k : Int) ∧ RunQ w wr w.heap.size g ch N M s t ⟨AF, cF, AH, cH, AR, cR, AC, cC, AA, cA, AB, cB⟩ AX2 cX2 gE cE2 gH cH2 gn cn { X := X, E := E, H := H, q := L.take k, nx := fst, P := 0, L := 0 } ∧ ∀ b o, b ≠ ch → wr.cell? ⟨b, o, none⟩ = w5.cell? ⟨b, o, none⟩) (fun i _ => L.length - (intOf i).toNat)
    case atStart => exact ⟨0, Nat.zero_le _, rfl, HR4.out.on HB5.out, fun _ _ _ => rfl⟩
    case round =>
      obtain ⟨k, hk, rfl, hQ, hcl⟩ := hrel
      have HQ := Lib.hid hQ; have HCC := Lib.hid hcl
      obtain ⟨-, -, ⟨-, -, c14, -⟩, -, hz⟩ := hQ.cells
      obtain ⟨sn, rc, hck⟩ := hQ.ck
      have hbw := hQ.hx.bas
      clear a0 a1 a2 a3 a4 a5 a6 a7 a8 q0 q1 q2 hz4 hQ hcl
      by_cases hlt : k < L.length
      · have hdl : decide (k < L.length) = true := decide_eq_true hlt
        obtain ⟨v, hv⟩ : ∃ v, L[k]? = some v := ⟨_, List.getElem?_eq_getElem hlt⟩
        obtain ⟨gA, rfl⟩ := own_some HROW.out (by omega)
        have hcv : w5.cell? ⟨gA, k, none⟩ = some (.int .i64 (v : Int)) := by
          have h1 : (nvs L)[k]? = some (.int .i64 (v : Int)) := by simp [nvs, hv]
          exact (HROW.out.cellAt k (by omega)).trans h1
        have hne : gA ≠ ch := fun e => by
          subst e
          have h1 := HCC.out
          have h2 := (HROW.out.lt gA rfl).1
          have h3 := (Array.getElem?_eq_some_iff.1 HR4.out.ck.choose_spec.choose_spec).1
          omega
        rw [← HCC.out gA k hne] at hcv
        have htk : L.take (k + 1) = L.take k ++ [v] := by rw [List.take_add_one, hv]; rfl
        have HTK := Lib.hid htk; have HV := Lib.hid hv
        have hroom : (nvs (L.take k)).toArray.size < N := by simp [nvs]; omega
        clear hv htk
        go_upto_region 5 with fail
        refine wp_region_to ?_
        refine to_val rfl rfl (v := .pointer (some ⟨g, 0, none⟩)) (w' := wr) (by simp [go_sem]) ?_
        refine to_val rfl rfl (v := .pointer (some ⟨g, 0, none⟩)) (w' := wr) (by simp [go_sem, Act.put]) ?_
        refine to_val rfl rfl (v := .pointer (some ⟨g, 14, none⟩)) (w' := wr) (by simp [go_sem, Act.put]) ?_
        refine to_val rfl rfl (v := .chan (some ch)) (w' := wr) (by simp [go_sem, Act.put, c14]) ?_
        refine to_val rfl rfl (v := .int .i64 (v : Int)) (w' := wr) (by simp [go_sem, Act.put]) ?_
        refine to_send (c := ch) (v := .int .i64 (v : Int)) (z := .tuple #[]) rfl rfl (by simp [execOp, scase, Act.eval, Act.put]) hck hroom ?_
        refine to_nil ?_
        have hQ2 := HQ.out.chan (L.take (k + 1)) (sn + 1) rc
        have e9 : (nvs (L.take k)).toArray.push (.int .i64 (v : Int)) = (nvs (L.take (k + 1))).toArray := by rw [HTK.out]; simp [nvs]
        rw [e9]
        have hcl2 : ∀ b o, b ≠ ch → (wr.setChan ch N (nvs (L.take (k + 1))).toArray false (sn + 1) rc false).cell? ⟨b, o, none⟩ = w5.cell? ⟨b, o, none⟩ := fun b o hb => (cell_chan (p := ⟨b, o, none⟩) hb).trans (HCC.out b o hb)
        obtain ⟨w6, hw6⟩ : ∃ w6, wr.setChan ch N (nvs (L.take (k + 1))).toArray false (sn + 1) rc false = w6 := ⟨_, rfl⟩
        rw [hw6] at hQ2 hcl2 ⊢
        have HQ2 := Lib.hid hQ2; have HC2' := Lib.hid hcl2
        clear hQ2 hcl2 hw6 e9 hck hcv c14 hz hbw hroom
        go_wp2_with fail
        go_roundw
        case rel => exact ⟨k + 1, by omega, by go_num, HQ2.out, HC2'.out⟩
        case measure => simp [intOf]; omega
      · have hdl : decide (k < L.length) = false := decide_eq_false hlt
        have hfin : L.take k = L := List.take_of_length_le (by omega)
        have HFN := Lib.hid hfin
        clear hfin hck
        go_wp2_with fail
        go_ret
        have := HQ.out
        rw [HFN.out] at this
        exact ⟨_, _, _, _, _, _, _, _, _, _, rfl, this⟩

end Go.Proofs.Ytfcjmhihheeifaa
