/- Layer 8: Solve. (Written by wip/gen_solv.py.) -/
import Derived.Test.YtfcjmhihheeifaaFrun
import Derived.Test.YtfcjmhihheeifaaBego
namespace Go.Proofs.Ytfcjmhihheeifaa
open Go.RowKit Go.Shelf Go.Conc
set_option maxRecDepth 100000
attribute [local go_sem] Oper.semAt_some

/-- The first state of a run from a net's first state. -/
abbrev fsB (N M s t : Nat) (fst hd rv : Nat → Nat) (cp : Nat → Int) : FS := fs0 s t N fst (begX fst rv cp M s (fst (s + 1) - fst s)) (begE fst hd rv cp M N s (fst (s + 1) - fst s)) (begH N s)
/-- What Solve finds. -/
structure SolIs (N M s t : Nat) (fst hd rv : Nat → Nat) (cp : Nat → Int) (l : List ArcN) (F : List Int) (K : List Bool) (v : Int) (σ : FS) : Prop where
  fin : Fin N s t fst hd rv (fsB N M s t fst hd rv cp) σ
  qe : σ.q = []
  head : HeadS N M s t fst hd rv cp 0 (hsum N (begH N s)) σ
  flow : FlowIn l F
  right : RightIn N s t l F
  val : exOf l F t = v
  cut : IsCut N s t K
  side : ∀ v : Nat, v < N → (inS K (v : Int) = true ↔ ¬ Star (Opn l F) (v : Int) (t : Int))
  tight : TightFor K l F
def RetSol (N M s t n : Nat) (fst hd rv : Nat → Nat) (cp : Nat → Int) (l : List ArcN) (w : World) (e : Ending) (w' : World) : Prop :=
  ∃ (gf gs : Nat) (F : List Int) (K : List Bool) (v : Int) (σ : FS), e = .returned (.tuple #[.agg #[.slice (some ⟨gf, 0, none⟩) n n, .slice (some ⟨gs, 0, none⟩) N N, .int .i64 v], .agg #[.int .i64 (σ.P : Int), .int .i64 (σ.L : Int)], .int .i64 0]) ∧
    (w.heap.size ≤ gf ∧ w.heap.size ≤ gs) ∧ Blk w' gf 2 (ivs F) ∧ Blk w' gs 4 (bvs K) ∧ SolIs N M s t fst hd rv cp l F K v σ ∧ Below w.heap.size w w'
theorem beg_low {N M s t : Nat} {fst hd rv ai : Nat → Nat} {cp : Nat → Int} {bk : Nat → Bool} (hG : PNet N M s t fst hd rv ai cp bk) (E : List Int) : ∀ v, v < N → actB s t E v = true → hOf (begH N s) v ≤ (0 : Nat) := fun v hv ha => by
  obtain ⟨h1, -, -⟩ := act_iff.1 ha
  unfold begH
  rw [hOf_put (by simp; have := hG.hs; omega), if_neg (fun e => h1 e.symm), hOf_rep]
  exact Int.le_refl _

theorem cell_far {w : World} {p q : Addr} {u : Value} (h : p.block ≠ q.block) : (w.setCell q u).cell? p = w.cell? p := by
  simp only [World.cell?]
  rw [Below.heap_setCell w q u p.block h]

set_option maxHeartbeats 16000000 in
theorem fsolve_is (N M s t n c : Nat) (A : Option Addr) (l : List ArcN) (fst hd rv ai : Nat → Nat) (cp : Nat → Int) (bk : Nat → Bool) (w : World) (hA : Arcs w w.heap.size A n l) (hc : checkF N s t l = 0) (hMe : firstOf l N = M)
    (hG : PNet N M s t fst hd rv ai cp bk) (hI : ∀ (W : World) (n0 gF gH gR gC gA gB : Nat), CsrAt W n0 N l gF gH gR gC gA gB → PIn W n0 N M (csrK N M gF gH gR gC gA gB) fst hd rv ai cp bk) (hai : ∀ a, a < M → ai a < l.length)
    (hEnd : ∀ X E H, StIs N M s t hd rv cp X E H → (∀ v, v < N → actB s t E v = false) → FlowIn l (flF ai bk X l.length M) ∧ RightIn N s t l (flF ai bk X l.length M) ∧ exOf l (flF ai bk X l.length M) t = hOf E t ∧ ¬ Star (Opn l (flF ai bk X l.length M)) (s : Int) (t : Int)) :
    Calls Try.prog 10 #[.agg #[.int .i64 (N : Int), .int .i64 (s : Int), .int .i64 (t : Int), .slice A n c]] w (RetSol N M s t n fst hd rv cp l w) := by
  have hM := hG.nM; have hN := hG.nN; have hn2 := hG.n2; have hsN := hG.hs; have htN := hG.ht
  have hln := hA.len
  have hl16 := (ends_in hc).2.2.1
  have hbeg := beg_ok hG (k := fst (s + 1) - fst s) (by have := hG.g.mono s hG.hs; omega)
  obtain ⟨X0, hX0⟩ : ∃ X, begX fst rv cp M s (fst (s + 1) - fst s) = X := ⟨_, rfl⟩
  obtain ⟨E0, hE0⟩ : ∃ X, begE fst hd rv cp M N s (fst (s + 1) - fst s) = X := ⟨_, rfl⟩
  obtain ⟨H0, hH0⟩ : ∃ X, begH N s = X := ⟨_, rfl⟩
  have hlow := beg_low hG E0
  rw [hX0, hE0, hH0] at hbeg
  rw [hH0] at hlow
  have hfsB : fsB N M s t fst hd rv cp = fs0 s t N fst X0 E0 H0 := by unfold fsB; rw [hX0, hE0, hH0]
  have hmk := fun W (hb : Below w.heap.size w W) => make_good N s t A n c l W (hA.on hb) hc
  have hbg := fun W gF gHd gR gC gA gB (h : CsrAt W W.heap.size N l gF gHd gR gC gA gB) => begin_is N M s t (csrK N M gF gHd gR gC gA gB) fst hd rv ai cp bk W hG (hI _ _ _ _ _ _ _ _ h)
  have hrn := fun W gF gHd gR gC gA gB Q (h : CsrAt W W.heap.size N l gF gHd gR gC gA gB) (hQ : StIn W W.heap.size M N N Q X0 E0 H0) => frun_is N M s t 0 gF gHd gR gC gA gB l Q fst hd rv ai cp bk X0 E0 H0 W h hc hMe hG hI hQ hbeg hlow (by omega)
  have hfl := fun W gF gHd gR gC gA gB AX cX X E H (h : CsrAt W W.heap.size N l gF gHd gR gC gA gB) (hX : Ints W W.heap.size AX M X) (hS : StIs N M s t hd rv cp X E H) => flow3 N M s t n (csrK N M gF gHd gR gC gA gB) fst hd rv ai cp bk AX cX X W hG (hI _ _ _ _ _ _ _ _ h) hX (st_inr hG hS).1 hS.bal (by omega) (fun a ha => by have := hai a ha; omega)
  have hto := fun W g F (hb : Below w.heap.size w W) (hF : Ints W W.heap.size (some ⟨g, 0, none⟩) n F) (hFI : FlowIn l F) => to_good N s t A n c l (some ⟨g, 0, none⟩) n n F W (hA.on hb) hc hF hFI
  rw [hX0, hE0, hH0] at hbg
  have hlenS := fun X E H (hS : StIs N M s t hd rv cp X E H) => (⟨hS.bal.1, hS.le, hS.lh⟩ : X.length = M ∧ E.length = N ∧ H.length = N)
  have HMK := Lib.hid hmk; have HBG := Lib.hid hbg; have HRN := Lib.hid hrn; have HFL := Lib.hid hfl; have HTO := Lib.hid hto; have HEN := Lib.hid hEnd; have HLS := Lib.hid hlenS; have HBE := Lib.hid hbeg
  have HEND := Lib.hid (ends_in hc).2.2.2.1; have HFB := Lib.hid hfsB; have HME := Lib.hid hMe; have HG := Lib.hid hG; have HH0 := Lib.hid hH0; have HLN := Lib.hid hln
  clear hmk hbg hrn hfl hto hEnd hlenS hbeg hfsB hMe hG hX0 hE0 hH0 hA hI hc hai hlow hln
  go_enter Try.func10, Try.ntmps10
  go_wp2_with fail
  obtain ⟨w0, hw0⟩ : ∃ w0, (((w.alloc (.cells #[.int .i64 (N : Int), .int .i64 (s : Int), .int .i64 (t : Int), .slice A n c] 24)).alloc (.cells #[.slice none 0 0, .slice none 0 0, .int .i64 0] 29)).alloc (.cells #[.int .i64 0, .int .i64 0] 31)) = w0 := ⟨_, rfl⟩
  have B0 : Below w.heap.size w w0 := by rw [← hw0]; exact ((below_alloc _).alloc (by simp) _).alloc (by simp; omega) _
  have K0 : Blk w0 w.heap.size 24 #[.int .i64 (N : Int), .int .i64 (s : Int), .int .i64 (t : Int), .slice A n c] := by rw [← hw0]; exact ((Blk.new rfl).alloc _).alloc _
  have E0' : Blk w0 (w.heap.size + 1) 29 #[.slice none 0 0, .slice none 0 0, .int .i64 0] := by rw [← hw0]; exact (Blk.new (by simp)).alloc _
  have F0 : Blk w0 (w.heap.size + 2) 31 #[.int .i64 0, .int .i64 0] := by rw [← hw0]; exact Blk.new (by simp)
  first | rw [hw0] | (simp only [Nat.add_assoc, Nat.reduceAdd] at hw0 ⊢; rw [hw0])
  clear hw0
  refine (HMK.out _ B0).mono ?_
  rintro e w1 ⟨gF, gHd, gR, gC, gA, gB, rfl, hgs, C1, X1⟩
  rw [HME.out]
  have B1 := below_step B0 X1; have K1 := K0.below X1 K0.lt; have E1 := E0'.below X1 E0'.lt; have F1 := F0.below X1 F0.lt
  have hz1 := F1.lt
  obtain ⟨a0, a1, a2, a3⟩ := K1.at4
  clear B0 K0 E0' F0 X1 hgs
  go_upto_region 4 with fail
  obtain ⟨w2, hw2⟩ : ∃ w2, w1.alloc (.cells #[.int .i64 (N : Int), .int .i64 (s : Int), .int .i64 (t : Int), .slice (some ⟨gF, 0, none⟩) (N + 1) (N + 1), .slice (some ⟨gHd, 0, none⟩) M M, .slice (some ⟨gR, 0, none⟩) M M, .slice (some ⟨gC, 0, none⟩) M M, .slice (some ⟨gA, 0, none⟩) M M, .slice (some ⟨gB, 0, none⟩) M M] 45) = w2 := ⟨_, rfl⟩
  have h12 : Below w1.heap.size w1 w2 := by rw [← hw2]; exact below_alloc _
  have D2 : Blk w2 w1.heap.size 45 #[.int .i64 (N : Int), .int .i64 (s : Int), .int .i64 (t : Int), .slice (some ⟨gF, 0, none⟩) (N + 1) (N + 1), .slice (some ⟨gHd, 0, none⟩) M M, .slice (some ⟨gR, 0, none⟩) M M, .slice (some ⟨gC, 0, none⟩) M M, .slice (some ⟨gA, 0, none⟩) M M, .slice (some ⟨gB, 0, none⟩) M M] := by rw [← hw2]; exact Blk.new rfl
  rw [hw2]
  clear hw2
  obtain ⟨gc, hgc⟩ : ∃ g, w1.heap.size = g := ⟨_, rfl⟩
  have hgc0 : w.heap.size + 2 < gc := by omega
  obtain ⟨w3, hw3⟩ : ∃ w3, w2.drew = w3 := ⟨_, rfl⟩
  have h23 : Below w2.heap.size w2 w3 := by rw [← hw3]; exact (Below.refl _ w2).drew
  have h13 : Below w1.heap.size w1 w3 := below_step h12 h23
  have HB3 := Lib.hid (below_step B1 h13); have HK3 := Lib.hid (K1.below h13 K1.lt); have HE3 := Lib.hid (E1.below h13 E1.lt); have HF3 := Lib.hid (F1.below h13 F1.lt); have HC3 := Lib.hid (C1.on h13)
  rw [hgc] at D2
  have HD3 := Lib.hid (D2.below h23 D2.lt)
  have hz3 : gc < w3.heap.size := HD3.out.lt
  rw [hgc]
  clear B1 K1 E1 F1 C1 D2 h12 h23 h13 a0 a1 a2 a3 hz1 hgc
  obtain ⟨b3, hb3⟩ : ∃ b3, w3.heap.size = b3 := ⟨_, rfl⟩
  have HBQ := Lib.hid hb3
  rw [hb3] at hz3
  have HBG3 := Lib.hid (fun W (hb : Below b3 w3 W) => HBG.out W gF gHd gR gC gA gB (HC3.out.on (by rw [HBQ.out]; exact hb)))
  have HRN3 := Lib.hid (fun W Q (hb : Below b3 w3 W) hQ => HRN.out W gF gHd gR gC gA gB Q (HC3.out.on (by rw [HBQ.out]; exact hb)) hQ)
  have hkeep : ∀ W', Below b3 w3 W' → Below b3 w3 W' ∧ W'.cell? ⟨gc, 0, none⟩ = some (.int .i64 (N : Int)) ∧ W'.cell? ⟨gc, 1, none⟩ = some (.int .i64 (s : Int)) ∧ W'.cell? ⟨gc, 2, none⟩ = some (.int .i64 (t : Int)) ∧ W'.cell? ⟨gc, 3, none⟩ = some (.slice (some ⟨gF, 0, none⟩) (N + 1) (N + 1)) ∧ W'.cell? ⟨gc, 4, none⟩ = some (.slice (some ⟨gHd, 0, none⟩) M M) ∧ W'.cell? ⟨gc, 5, none⟩ = some (.slice (some ⟨gR, 0, none⟩) M M) ∧ W'.cell? ⟨gc, 6, none⟩ = some (.slice (some ⟨gC, 0, none⟩) M M) ∧ W'.cell? ⟨gc, 7, none⟩ = some (.slice (some ⟨gA, 0, none⟩) M M) ∧ W'.cell? ⟨gc, 8, none⟩ = some (.slice (some ⟨gB, 0, none⟩) M M) := fun W' hb => by
    obtain ⟨a0, a1, a2, a3, a4, a5, a6, a7, a8⟩ := (HD3.out.below hb hz3).at9
    exact ⟨hb, a0, a1, a2, a3, a4, a5, a6, a7, a8⟩
  have HKEEP := Lib.hid hkeep
  clear hkeep hb3
  refine wp_region_held_drew (S := fun W' => Below b3 w3 W' ∧ W'.cell? ⟨gc, 0, none⟩ = some (.int .i64 (N : Int)) ∧ W'.cell? ⟨gc, 1, none⟩ = some (.int .i64 (s : Int)) ∧ W'.cell? ⟨gc, 2, none⟩ = some (.int .i64 (t : Int)) ∧ W'.cell? ⟨gc, 3, none⟩ = some (.slice (some ⟨gF, 0, none⟩) (N + 1) (N + 1)) ∧ W'.cell? ⟨gc, 4, none⟩ = some (.slice (some ⟨gHd, 0, none⟩) M M) ∧ W'.cell? ⟨gc, 5, none⟩ = some (.slice (some ⟨gR, 0, none⟩) M M) ∧ W'.cell? ⟨gc, 6, none⟩ = some (.slice (some ⟨gC, 0, none⟩) M M) ∧ W'.cell? ⟨gc, 7, none⟩ = some (.slice (some ⟨gA, 0, none⟩) M M) ∧ W'.cell? ⟨gc, 8, none⟩ = some (.slice (some ⟨gB, 0, none⟩) M M)) (by kernel_rfl) (by rw [hw3]; exact HKEEP.out _ (Below.refl _ _)) (fun hS0 => ?_)
  rw [hw3] at hS0 ⊢
  clear hw3
  refine tk (v := ?_) 0 22 rfl ?_ ?_
  rotate_left
  · (intro W hSw; obtain ⟨-, a0, a1, a2, a3, a4, a5, a6, a7, a8⟩ := hSw; go_simp; try with_reducible rfl)
  simp only [Act.put, pa, pz, ps]
  refine tk (v := ?_) 1 23 rfl ?_ ?_
  rotate_left
  · (intro W hSw; obtain ⟨-, a0, a1, a2, a3, a4, a5, a6, a7, a8⟩ := hSw; go_simp; try with_reducible rfl)
  simp only [Act.put, pa, pz, ps]
  refine (have tail : Hid ?T := ?tailp; ?main)
  case main =>
    have hSn := hS0
    have HW0 : Below b3 w3 w3 := Below.refl _ _
    refine wpAnyH_ready (rs := [2, 7, 8]) (by kernel_rfl) (by simp) ?_
    refine AllReadyH.cons rfl (fun K hK => ?_) (AllReadyH.cons rfl (fun K hK => ?_) (AllReadyH.cons rfl (fun K hK => ?_) (AllReadyH.nil)))
    · go_simp
      (with_reducible refine (HBG3.out _ HW0).mono ?_); rintro e W1 ⟨Q2, rfl, hR0⟩
      have hB0 := hR0.bel
      have HW1 : Below b3 w3 W1 := HW0.trans (hB0.mono (by have := HW0.size; have := HBQ.out; omega))
      have HX := hR0.st (HLS.out _ _ _ HBE.out).1 (HLS.out _ _ _ HBE.out).2.1 (HLS.out _ _ _ HBE.out).2.2
      have hst2 := Lib.hid HX
      refine hK.out _ _ (HKEEP.out _ HW1) (fun hSm => ?_)
      clear hK K hR0 hB0 hSn hst2
      have hSn := hSm
      clear hSm
      try simp only [Act.put, pa, pz, ps]
      refine wpAnyH_ready (rs := [3, 7, 8]) (by kernel_rfl) (by simp) ?_
      refine AllReadyH.cons rfl (fun K hK => ?_) (AllReadyH.cons rfl (fun K hK => ?_) (AllReadyH.cons rfl (fun K hK => ?_) (AllReadyH.nil)))
      · go_simp
        (with_reducible refine (HRN3.out _ _ HW1 HX).mono ?_); rintro e W2 ⟨Q3, σ, rfl, hf1, hf2, HF4, hR0⟩
        have hB0 := hR0.bel
        have HY := hR0.low (base' := b3) (w1 := w3) (by have := HW1.size; have := HBQ.out; omega) HW1
        have HW2 : Below b3 w3 W2 := HY.bel
        refine hK.out _ _ (HKEEP.out _ HW2) (fun hSm => ?_)
        clear hK K hR0 hB0 hSn HX
        have hSn := hSm
        clear hSm
        try simp only [Act.put, pa, pz, ps]
        refine tk (v := ?_) 4 21 rfl ?_ ?_
        rotate_left
        · (intro W hSw; obtain ⟨-, a0, a1, a2, a3, a4, a5, a6, a7, a8⟩ := hSw; go_simp; try with_reducible rfl)
        simp only [Act.put, pa, pz, ps]
        refine tk (v := ?_) 5 26 rfl ?_ ?_
        rotate_left
        · (intro W hSw; obtain ⟨-, a0, a1, a2, a3, a4, a5, a6, a7, a8⟩ := hSw; go_simp; try with_reducible rfl)
        simp only [Act.put, pa, pz, ps]
        refine tk (v := ?_) 6 27 rfl ?_ ?_
        rotate_left
        · (intro W hSw; obtain ⟨-, a0, a1, a2, a3, a4, a5, a6, a7, a8⟩ := hSw; go_simp; try with_reducible rfl)
        simp only [Act.put, pa, pz, ps]
        refine wpAnyH_ready (rs := [7, 8]) (by kernel_rfl) (by simp) ?_
        refine AllReadyH.cons rfl (fun K hK => ?_) (AllReadyH.cons rfl (fun K hK => ?_) (AllReadyH.nil))
        · go_simp
          obtain ⟨gP, hgn⟩ : ∃ g, W2.heap.size = g := ⟨_, rfl⟩
          have hgP : b3 ≤ gP := by have := HW2.size; have := HBQ.out; omega
          have HW3 : Below b3 w3 (W2.alloc (.cells #[.slice none 0 0, .slice none 0 0, .slice none 0 0] 49)) := HW2.alloc (by omega) _
          have HP : Blk (W2.alloc (.cells #[.slice none 0 0, .slice none 0 0, .slice none 0 0] 49)) gP 49 #[.slice none 0 0, .slice none 0 0, .slice none 0 0] := Blk.new hgn
          replace HY := HY.alloc (.cells #[.slice none 0 0, .slice none 0 0, .slice none 0 0] 49)
          refine hK.out _ _ (HKEEP.out _ HW3) (fun hSm => ?_)
          clear hK K hSn
          have hSn := hSm
          clear hSm
          try simp only [Act.put, pa, pz, ps]
          obtain ⟨W3, hWn⟩ : ∃ W, W2.alloc (.cells #[.slice none 0 0, .slice none 0 0, .slice none 0 0] 49) = W := ⟨_, rfl⟩
          rw [hWn] at HW3 hSn HP HY ⊢
          rw [hgn]
          clear hWn hgn
          refine wpAnyH_ready (rs := [8]) (by kernel_rfl) (by simp) ?_
          refine AllReadyH.cons rfl (fun K hK => ?_) (AllReadyH.nil)
          · go_simp
            obtain ⟨gW, hgn⟩ : ∃ g, W3.heap.size = g := ⟨_, rfl⟩
            have hgW : b3 ≤ gW := by have := HW3.size; have := HBQ.out; omega
            have HW4 : Below b3 w3 (W3.alloc (.cells #[.int .i64 0, .int .i64 0] 31)) := HW3.alloc (by omega) _
            replace HP := HP.alloc (.cells #[.int .i64 0, .int .i64 0] 31)
            have HWk : Blk (W3.alloc (.cells #[.int .i64 0, .int .i64 0] 31)) gW 31 #[.int .i64 0, .int .i64 0] := Blk.new hgn
            replace HY := HY.alloc (.cells #[.int .i64 0, .int .i64 0] 31)
            refine hK.out _ _ (HKEEP.out _ HW4) (fun hSm => ?_)
            clear hK K hSn
            have hSn := hSm
            clear hSm
            try simp only [Act.put, pa, pz, ps]
            obtain ⟨W4, hWn⟩ : ∃ W, W3.alloc (.cells #[.int .i64 0, .int .i64 0] 31) = W := ⟨_, rfl⟩
            rw [hWn] at HW4 hSn HP HWk HY ⊢
            rw [hgn]
            clear hWn hgn
            clear hSn
            revert HWk
            revert HP
            revert hgW
            revert hgP
            revert HY
            revert W4
            revert gW
            revert gP
            revert HF4
            revert hf2
            revert hf1
            revert σ
            revert Q3
            revert Q2
            exact tail.out
        · go_simp
          obtain ⟨gW, hgn⟩ : ∃ g, W2.heap.size = g := ⟨_, rfl⟩
          have hgW : b3 ≤ gW := by have := HW2.size; have := HBQ.out; omega
          have HW3 : Below b3 w3 (W2.alloc (.cells #[.int .i64 0, .int .i64 0] 31)) := HW2.alloc (by omega) _
          have HWk : Blk (W2.alloc (.cells #[.int .i64 0, .int .i64 0] 31)) gW 31 #[.int .i64 0, .int .i64 0] := Blk.new hgn
          replace HY := HY.alloc (.cells #[.int .i64 0, .int .i64 0] 31)
          refine hK.out _ _ (HKEEP.out _ HW3) (fun hSm => ?_)
          clear hK K hSn
          have hSn := hSm
          clear hSm
          try simp only [Act.put, pa, pz, ps]
          obtain ⟨W3, hWn⟩ : ∃ W, W2.alloc (.cells #[.int .i64 0, .int .i64 0] 31) = W := ⟨_, rfl⟩
          rw [hWn] at HW3 hSn HWk HY ⊢
          rw [hgn]
          clear hWn hgn
          refine wpAnyH_ready (rs := [7]) (by kernel_rfl) (by simp) ?_
          refine AllReadyH.cons rfl (fun K hK => ?_) (AllReadyH.nil)
          · go_simp
            obtain ⟨gP, hgn⟩ : ∃ g, W3.heap.size = g := ⟨_, rfl⟩
            have hgP : b3 ≤ gP := by have := HW3.size; have := HBQ.out; omega
            have HW4 : Below b3 w3 (W3.alloc (.cells #[.slice none 0 0, .slice none 0 0, .slice none 0 0] 49)) := HW3.alloc (by omega) _
            replace HWk := HWk.alloc (.cells #[.slice none 0 0, .slice none 0 0, .slice none 0 0] 49)
            have HP : Blk (W3.alloc (.cells #[.slice none 0 0, .slice none 0 0, .slice none 0 0] 49)) gP 49 #[.slice none 0 0, .slice none 0 0, .slice none 0 0] := Blk.new hgn
            replace HY := HY.alloc (.cells #[.slice none 0 0, .slice none 0 0, .slice none 0 0] 49)
            refine hK.out _ _ (HKEEP.out _ HW4) (fun hSm => ?_)
            clear hK K hSn
            have hSn := hSm
            clear hSm
            try simp only [Act.put, pa, pz, ps]
            obtain ⟨W4, hWn⟩ : ∃ W, W3.alloc (.cells #[.slice none 0 0, .slice none 0 0, .slice none 0 0] 49) = W := ⟨_, rfl⟩
            rw [hWn] at HW4 hSn HP HWk HY ⊢
            rw [hgn]
            clear hWn hgn
            clear hSn
            revert HWk
            revert HP
            revert hgW
            revert hgP
            revert HY
            revert W4
            revert gW
            revert gP
            revert HF4
            revert hf2
            revert hf1
            revert σ
            revert Q3
            revert Q2
            exact tail.out
      · go_simp
        obtain ⟨gP, hgn⟩ : ∃ g, W1.heap.size = g := ⟨_, rfl⟩
        have hgP : b3 ≤ gP := by have := HW1.size; have := HBQ.out; omega
        have HW2 : Below b3 w3 (W1.alloc (.cells #[.slice none 0 0, .slice none 0 0, .slice none 0 0] 49)) := HW1.alloc (by omega) _
        have HP : Blk (W1.alloc (.cells #[.slice none 0 0, .slice none 0 0, .slice none 0 0] 49)) gP 49 #[.slice none 0 0, .slice none 0 0, .slice none 0 0] := Blk.new hgn
        replace HX := HX.onAlloc (.cells #[.slice none 0 0, .slice none 0 0, .slice none 0 0] 49)
        refine hK.out _ _ (HKEEP.out _ HW2) (fun hSm => ?_)
        clear hK K hSn
        have hSn := hSm
        clear hSm
        try simp only [Act.put, pa, pz, ps]
        obtain ⟨W2, hWn⟩ : ∃ W, W1.alloc (.cells #[.slice none 0 0, .slice none 0 0, .slice none 0 0] 49) = W := ⟨_, rfl⟩
        rw [hWn] at HW2 hSn HP HX ⊢
        rw [hgn]
        clear hWn hgn
        refine wpAnyH_ready (rs := [3, 8]) (by kernel_rfl) (by simp) ?_
        refine AllReadyH.cons rfl (fun K hK => ?_) (AllReadyH.cons rfl (fun K hK => ?_) (AllReadyH.nil))
        · go_simp
          (with_reducible refine (HRN3.out _ _ HW2 HX).mono ?_); rintro e W3 ⟨Q3, σ, rfl, hf1, hf2, HF4, hR0⟩
          have hB0 := hR0.bel
          have HY := hR0.low (base' := b3) (w1 := w3) (by have := HW2.size; have := HBQ.out; omega) HW2
          have HW3 : Below b3 w3 W3 := HY.bel
          replace HP := HP.below hB0 HP.lt
          refine hK.out _ _ (HKEEP.out _ HW3) (fun hSm => ?_)
          clear hK K hR0 hB0 hSn HX
          have hSn := hSm
          clear hSm
          try simp only [Act.put, pa, pz, ps]
          refine tk (v := ?_) 4 21 rfl ?_ ?_
          rotate_left
          · (intro W hSw; obtain ⟨-, a0, a1, a2, a3, a4, a5, a6, a7, a8⟩ := hSw; go_simp; try with_reducible rfl)
          simp only [Act.put, pa, pz, ps]
          refine tk (v := ?_) 5 26 rfl ?_ ?_
          rotate_left
          · (intro W hSw; obtain ⟨-, a0, a1, a2, a3, a4, a5, a6, a7, a8⟩ := hSw; go_simp; try with_reducible rfl)
          simp only [Act.put, pa, pz, ps]
          refine tk (v := ?_) 6 27 rfl ?_ ?_
          rotate_left
          · (intro W hSw; obtain ⟨-, a0, a1, a2, a3, a4, a5, a6, a7, a8⟩ := hSw; go_simp; try with_reducible rfl)
          simp only [Act.put, pa, pz, ps]
          refine wpAnyH_ready (rs := [8]) (by kernel_rfl) (by simp) ?_
          refine AllReadyH.cons rfl (fun K hK => ?_) (AllReadyH.nil)
          · go_simp
            obtain ⟨gW, hgn⟩ : ∃ g, W3.heap.size = g := ⟨_, rfl⟩
            have hgW : b3 ≤ gW := by have := HW3.size; have := HBQ.out; omega
            have HW4 : Below b3 w3 (W3.alloc (.cells #[.int .i64 0, .int .i64 0] 31)) := HW3.alloc (by omega) _
            replace HP := HP.alloc (.cells #[.int .i64 0, .int .i64 0] 31)
            have HWk : Blk (W3.alloc (.cells #[.int .i64 0, .int .i64 0] 31)) gW 31 #[.int .i64 0, .int .i64 0] := Blk.new hgn
            replace HY := HY.alloc (.cells #[.int .i64 0, .int .i64 0] 31)
            refine hK.out _ _ (HKEEP.out _ HW4) (fun hSm => ?_)
            clear hK K hSn
            have hSn := hSm
            clear hSm
            try simp only [Act.put, pa, pz, ps]
            obtain ⟨W4, hWn⟩ : ∃ W, W3.alloc (.cells #[.int .i64 0, .int .i64 0] 31) = W := ⟨_, rfl⟩
            rw [hWn] at HW4 hSn HP HWk HY ⊢
            rw [hgn]
            clear hWn hgn
            clear hSn
            revert HWk
            revert HP
            revert hgW
            revert hgP
            revert HY
            revert W4
            revert gW
            revert gP
            revert HF4
            revert hf2
            revert hf1
            revert σ
            revert Q3
            revert Q2
            exact tail.out
        · go_simp
          obtain ⟨gW, hgn⟩ : ∃ g, W2.heap.size = g := ⟨_, rfl⟩
          have hgW : b3 ≤ gW := by have := HW2.size; have := HBQ.out; omega
          have HW3 : Below b3 w3 (W2.alloc (.cells #[.int .i64 0, .int .i64 0] 31)) := HW2.alloc (by omega) _
          replace HP := HP.alloc (.cells #[.int .i64 0, .int .i64 0] 31)
          have HWk : Blk (W2.alloc (.cells #[.int .i64 0, .int .i64 0] 31)) gW 31 #[.int .i64 0, .int .i64 0] := Blk.new hgn
          replace HX := HX.onAlloc (.cells #[.int .i64 0, .int .i64 0] 31)
          refine hK.out _ _ (HKEEP.out _ HW3) (fun hSm => ?_)
          clear hK K hSn
          have hSn := hSm
          clear hSm
          try simp only [Act.put, pa, pz, ps]
          obtain ⟨W3, hWn⟩ : ∃ W, W2.alloc (.cells #[.int .i64 0, .int .i64 0] 31) = W := ⟨_, rfl⟩
          rw [hWn] at HW3 hSn HP HWk HX ⊢
          rw [hgn]
          clear hWn hgn
          refine wpAnyH_ready (rs := [3]) (by kernel_rfl) (by simp) ?_
          refine AllReadyH.cons rfl (fun K hK => ?_) (AllReadyH.nil)
          · go_simp
            (with_reducible refine (HRN3.out _ _ HW3 HX).mono ?_); rintro e W4 ⟨Q3, σ, rfl, hf1, hf2, HF4, hR0⟩
            have hB0 := hR0.bel
            have HY := hR0.low (base' := b3) (w1 := w3) (by have := HW3.size; have := HBQ.out; omega) HW3
            have HW4 : Below b3 w3 W4 := HY.bel
            replace HP := HP.below hB0 HP.lt
            replace HWk := HWk.below hB0 HWk.lt
            refine hK.out _ _ (HKEEP.out _ HW4) (fun hSm => ?_)
            clear hK K hR0 hB0 hSn HX
            have hSn := hSm
            clear hSm
            try simp only [Act.put, pa, pz, ps]
            refine tk (v := ?_) 4 21 rfl ?_ ?_
            rotate_left
            · (intro W hSw; obtain ⟨-, a0, a1, a2, a3, a4, a5, a6, a7, a8⟩ := hSw; go_simp; try with_reducible rfl)
            simp only [Act.put, pa, pz, ps]
            refine tk (v := ?_) 5 26 rfl ?_ ?_
            rotate_left
            · (intro W hSw; obtain ⟨-, a0, a1, a2, a3, a4, a5, a6, a7, a8⟩ := hSw; go_simp; try with_reducible rfl)
            simp only [Act.put, pa, pz, ps]
            refine tk (v := ?_) 6 27 rfl ?_ ?_
            rotate_left
            · (intro W hSw; obtain ⟨-, a0, a1, a2, a3, a4, a5, a6, a7, a8⟩ := hSw; go_simp; try with_reducible rfl)
            simp only [Act.put, pa, pz, ps]
            clear hSn
            revert HWk
            revert HP
            revert hgW
            revert hgP
            revert HY
            revert W4
            revert gW
            revert gP
            revert HF4
            revert hf2
            revert hf1
            revert σ
            revert Q3
            revert Q2
            exact tail.out
      · go_simp
        obtain ⟨gW, hgn⟩ : ∃ g, W1.heap.size = g := ⟨_, rfl⟩
        have hgW : b3 ≤ gW := by have := HW1.size; have := HBQ.out; omega
        have HW2 : Below b3 w3 (W1.alloc (.cells #[.int .i64 0, .int .i64 0] 31)) := HW1.alloc (by omega) _
        have HWk : Blk (W1.alloc (.cells #[.int .i64 0, .int .i64 0] 31)) gW 31 #[.int .i64 0, .int .i64 0] := Blk.new hgn
        replace HX := HX.onAlloc (.cells #[.int .i64 0, .int .i64 0] 31)
        refine hK.out _ _ (HKEEP.out _ HW2) (fun hSm => ?_)
        clear hK K hSn
        have hSn := hSm
        clear hSm
        try simp only [Act.put, pa, pz, ps]
        obtain ⟨W2, hWn⟩ : ∃ W, W1.alloc (.cells #[.int .i64 0, .int .i64 0] 31) = W := ⟨_, rfl⟩
        rw [hWn] at HW2 hSn HWk HX ⊢
        rw [hgn]
        clear hWn hgn
        refine wpAnyH_ready (rs := [3, 7]) (by kernel_rfl) (by simp) ?_
        refine AllReadyH.cons rfl (fun K hK => ?_) (AllReadyH.cons rfl (fun K hK => ?_) (AllReadyH.nil))
        · go_simp
          (with_reducible refine (HRN3.out _ _ HW2 HX).mono ?_); rintro e W3 ⟨Q3, σ, rfl, hf1, hf2, HF4, hR0⟩
          have hB0 := hR0.bel
          have HY := hR0.low (base' := b3) (w1 := w3) (by have := HW2.size; have := HBQ.out; omega) HW2
          have HW3 : Below b3 w3 W3 := HY.bel
          replace HWk := HWk.below hB0 HWk.lt
          refine hK.out _ _ (HKEEP.out _ HW3) (fun hSm => ?_)
          clear hK K hR0 hB0 hSn HX
          have hSn := hSm
          clear hSm
          try simp only [Act.put, pa, pz, ps]
          refine tk (v := ?_) 4 21 rfl ?_ ?_
          rotate_left
          · (intro W hSw; obtain ⟨-, a0, a1, a2, a3, a4, a5, a6, a7, a8⟩ := hSw; go_simp; try with_reducible rfl)
          simp only [Act.put, pa, pz, ps]
          refine tk (v := ?_) 5 26 rfl ?_ ?_
          rotate_left
          · (intro W hSw; obtain ⟨-, a0, a1, a2, a3, a4, a5, a6, a7, a8⟩ := hSw; go_simp; try with_reducible rfl)
          simp only [Act.put, pa, pz, ps]
          refine tk (v := ?_) 6 27 rfl ?_ ?_
          rotate_left
          · (intro W hSw; obtain ⟨-, a0, a1, a2, a3, a4, a5, a6, a7, a8⟩ := hSw; go_simp; try with_reducible rfl)
          simp only [Act.put, pa, pz, ps]
          refine wpAnyH_ready (rs := [7]) (by kernel_rfl) (by simp) ?_
          refine AllReadyH.cons rfl (fun K hK => ?_) (AllReadyH.nil)
          · go_simp
            obtain ⟨gP, hgn⟩ : ∃ g, W3.heap.size = g := ⟨_, rfl⟩
            have hgP : b3 ≤ gP := by have := HW3.size; have := HBQ.out; omega
            have HW4 : Below b3 w3 (W3.alloc (.cells #[.slice none 0 0, .slice none 0 0, .slice none 0 0] 49)) := HW3.alloc (by omega) _
            replace HWk := HWk.alloc (.cells #[.slice none 0 0, .slice none 0 0, .slice none 0 0] 49)
            have HP : Blk (W3.alloc (.cells #[.slice none 0 0, .slice none 0 0, .slice none 0 0] 49)) gP 49 #[.slice none 0 0, .slice none 0 0, .slice none 0 0] := Blk.new hgn
            replace HY := HY.alloc (.cells #[.slice none 0 0, .slice none 0 0, .slice none 0 0] 49)
            refine hK.out _ _ (HKEEP.out _ HW4) (fun hSm => ?_)
            clear hK K hSn
            have hSn := hSm
            clear hSm
            try simp only [Act.put, pa, pz, ps]
            obtain ⟨W4, hWn⟩ : ∃ W, W3.alloc (.cells #[.slice none 0 0, .slice none 0 0, .slice none 0 0] 49) = W := ⟨_, rfl⟩
            rw [hWn] at HW4 hSn HP HWk HY ⊢
            rw [hgn]
            clear hWn hgn
            clear hSn
            revert HWk
            revert HP
            revert hgW
            revert hgP
            revert HY
            revert W4
            revert gW
            revert gP
            revert HF4
            revert hf2
            revert hf1
            revert σ
            revert Q3
            revert Q2
            exact tail.out
        · go_simp
          obtain ⟨gP, hgn⟩ : ∃ g, W2.heap.size = g := ⟨_, rfl⟩
          have hgP : b3 ≤ gP := by have := HW2.size; have := HBQ.out; omega
          have HW3 : Below b3 w3 (W2.alloc (.cells #[.slice none 0 0, .slice none 0 0, .slice none 0 0] 49)) := HW2.alloc (by omega) _
          replace HWk := HWk.alloc (.cells #[.slice none 0 0, .slice none 0 0, .slice none 0 0] 49)
          have HP : Blk (W2.alloc (.cells #[.slice none 0 0, .slice none 0 0, .slice none 0 0] 49)) gP 49 #[.slice none 0 0, .slice none 0 0, .slice none 0 0] := Blk.new hgn
          replace HX := HX.onAlloc (.cells #[.slice none 0 0, .slice none 0 0, .slice none 0 0] 49)
          refine hK.out _ _ (HKEEP.out _ HW3) (fun hSm => ?_)
          clear hK K hSn
          have hSn := hSm
          clear hSm
          try simp only [Act.put, pa, pz, ps]
          obtain ⟨W3, hWn⟩ : ∃ W, W2.alloc (.cells #[.slice none 0 0, .slice none 0 0, .slice none 0 0] 49) = W := ⟨_, rfl⟩
          rw [hWn] at HW3 hSn HP HWk HX ⊢
          rw [hgn]
          clear hWn hgn
          refine wpAnyH_ready (rs := [3]) (by kernel_rfl) (by simp) ?_
          refine AllReadyH.cons rfl (fun K hK => ?_) (AllReadyH.nil)
          · go_simp
            (with_reducible refine (HRN3.out _ _ HW3 HX).mono ?_); rintro e W4 ⟨Q3, σ, rfl, hf1, hf2, HF4, hR0⟩
            have hB0 := hR0.bel
            have HY := hR0.low (base' := b3) (w1 := w3) (by have := HW3.size; have := HBQ.out; omega) HW3
            have HW4 : Below b3 w3 W4 := HY.bel
            replace HP := HP.below hB0 HP.lt
            replace HWk := HWk.below hB0 HWk.lt
            refine hK.out _ _ (HKEEP.out _ HW4) (fun hSm => ?_)
            clear hK K hR0 hB0 hSn HX
            have hSn := hSm
            clear hSm
            try simp only [Act.put, pa, pz, ps]
            refine tk (v := ?_) 4 21 rfl ?_ ?_
            rotate_left
            · (intro W hSw; obtain ⟨-, a0, a1, a2, a3, a4, a5, a6, a7, a8⟩ := hSw; go_simp; try with_reducible rfl)
            simp only [Act.put, pa, pz, ps]
            refine tk (v := ?_) 5 26 rfl ?_ ?_
            rotate_left
            · (intro W hSw; obtain ⟨-, a0, a1, a2, a3, a4, a5, a6, a7, a8⟩ := hSw; go_simp; try with_reducible rfl)
            simp only [Act.put, pa, pz, ps]
            refine tk (v := ?_) 6 27 rfl ?_ ?_
            rotate_left
            · (intro W hSw; obtain ⟨-, a0, a1, a2, a3, a4, a5, a6, a7, a8⟩ := hSw; go_simp; try with_reducible rfl)
            simp only [Act.put, pa, pz, ps]
            clear hSn
            revert HWk
            revert HP
            revert hgW
            revert hgP
            revert HY
            revert W4
            revert gW
            revert gP
            revert HF4
            revert hf2
            revert hf1
            revert σ
            revert Q3
            revert Q2
            exact tail.out
    · go_simp
      obtain ⟨gP, hgn⟩ : ∃ g, w3.heap.size = g := ⟨_, rfl⟩
      have hgP : b3 ≤ gP := by have := HW0.size; have := HBQ.out; omega
      have HW1 : Below b3 w3 (w3.alloc (.cells #[.slice none 0 0, .slice none 0 0, .slice none 0 0] 49)) := HW0.alloc (by omega) _
      have HP : Blk (w3.alloc (.cells #[.slice none 0 0, .slice none 0 0, .slice none 0 0] 49)) gP 49 #[.slice none 0 0, .slice none 0 0, .slice none 0 0] := Blk.new hgn
      refine hK.out _ _ (HKEEP.out _ HW1) (fun hSm => ?_)
      clear hK K hSn
      have hSn := hSm
      clear hSm
      try simp only [Act.put, pa, pz, ps]
      obtain ⟨W1, hWn⟩ : ∃ W, w3.alloc (.cells #[.slice none 0 0, .slice none 0 0, .slice none 0 0] 49) = W := ⟨_, rfl⟩
      rw [hWn] at HW1 hSn HP ⊢
      rw [hgn]
      clear hWn hgn
      refine wpAnyH_ready (rs := [2, 8]) (by kernel_rfl) (by simp) ?_
      refine AllReadyH.cons rfl (fun K hK => ?_) (AllReadyH.cons rfl (fun K hK => ?_) (AllReadyH.nil))
      · go_simp
        (with_reducible refine (HBG3.out _ HW1).mono ?_); rintro e W2 ⟨Q2, rfl, hR0⟩
        have hB0 := hR0.bel
        have HW2 : Below b3 w3 W2 := HW1.trans (hB0.mono (by have := HW1.size; have := HBQ.out; omega))
        have HX := hR0.st (HLS.out _ _ _ HBE.out).1 (HLS.out _ _ _ HBE.out).2.1 (HLS.out _ _ _ HBE.out).2.2
        have hst2 := Lib.hid HX
        replace HP := HP.below hB0 HP.lt
        refine hK.out _ _ (HKEEP.out _ HW2) (fun hSm => ?_)
        clear hK K hR0 hB0 hSn hst2
        have hSn := hSm
        clear hSm
        try simp only [Act.put, pa, pz, ps]
        refine wpAnyH_ready (rs := [3, 8]) (by kernel_rfl) (by simp) ?_
        refine AllReadyH.cons rfl (fun K hK => ?_) (AllReadyH.cons rfl (fun K hK => ?_) (AllReadyH.nil))
        · go_simp
          (with_reducible refine (HRN3.out _ _ HW2 HX).mono ?_); rintro e W3 ⟨Q3, σ, rfl, hf1, hf2, HF4, hR0⟩
          have hB0 := hR0.bel
          have HY := hR0.low (base' := b3) (w1 := w3) (by have := HW2.size; have := HBQ.out; omega) HW2
          have HW3 : Below b3 w3 W3 := HY.bel
          replace HP := HP.below hB0 HP.lt
          refine hK.out _ _ (HKEEP.out _ HW3) (fun hSm => ?_)
          clear hK K hR0 hB0 hSn HX
          have hSn := hSm
          clear hSm
          try simp only [Act.put, pa, pz, ps]
          refine tk (v := ?_) 4 21 rfl ?_ ?_
          rotate_left
          · (intro W hSw; obtain ⟨-, a0, a1, a2, a3, a4, a5, a6, a7, a8⟩ := hSw; go_simp; try with_reducible rfl)
          simp only [Act.put, pa, pz, ps]
          refine tk (v := ?_) 5 26 rfl ?_ ?_
          rotate_left
          · (intro W hSw; obtain ⟨-, a0, a1, a2, a3, a4, a5, a6, a7, a8⟩ := hSw; go_simp; try with_reducible rfl)
          simp only [Act.put, pa, pz, ps]
          refine tk (v := ?_) 6 27 rfl ?_ ?_
          rotate_left
          · (intro W hSw; obtain ⟨-, a0, a1, a2, a3, a4, a5, a6, a7, a8⟩ := hSw; go_simp; try with_reducible rfl)
          simp only [Act.put, pa, pz, ps]
          refine wpAnyH_ready (rs := [8]) (by kernel_rfl) (by simp) ?_
          refine AllReadyH.cons rfl (fun K hK => ?_) (AllReadyH.nil)
          · go_simp
            obtain ⟨gW, hgn⟩ : ∃ g, W3.heap.size = g := ⟨_, rfl⟩
            have hgW : b3 ≤ gW := by have := HW3.size; have := HBQ.out; omega
            have HW4 : Below b3 w3 (W3.alloc (.cells #[.int .i64 0, .int .i64 0] 31)) := HW3.alloc (by omega) _
            replace HP := HP.alloc (.cells #[.int .i64 0, .int .i64 0] 31)
            have HWk : Blk (W3.alloc (.cells #[.int .i64 0, .int .i64 0] 31)) gW 31 #[.int .i64 0, .int .i64 0] := Blk.new hgn
            replace HY := HY.alloc (.cells #[.int .i64 0, .int .i64 0] 31)
            refine hK.out _ _ (HKEEP.out _ HW4) (fun hSm => ?_)
            clear hK K hSn
            have hSn := hSm
            clear hSm
            try simp only [Act.put, pa, pz, ps]
            obtain ⟨W4, hWn⟩ : ∃ W, W3.alloc (.cells #[.int .i64 0, .int .i64 0] 31) = W := ⟨_, rfl⟩
            rw [hWn] at HW4 hSn HP HWk HY ⊢
            rw [hgn]
            clear hWn hgn
            clear hSn
            revert HWk
            revert HP
            revert hgW
            revert hgP
            revert HY
            revert W4
            revert gW
            revert gP
            revert HF4
            revert hf2
            revert hf1
            revert σ
            revert Q3
            revert Q2
            exact tail.out
        · go_simp
          obtain ⟨gW, hgn⟩ : ∃ g, W2.heap.size = g := ⟨_, rfl⟩
          have hgW : b3 ≤ gW := by have := HW2.size; have := HBQ.out; omega
          have HW3 : Below b3 w3 (W2.alloc (.cells #[.int .i64 0, .int .i64 0] 31)) := HW2.alloc (by omega) _
          replace HP := HP.alloc (.cells #[.int .i64 0, .int .i64 0] 31)
          have HWk : Blk (W2.alloc (.cells #[.int .i64 0, .int .i64 0] 31)) gW 31 #[.int .i64 0, .int .i64 0] := Blk.new hgn
          replace HX := HX.onAlloc (.cells #[.int .i64 0, .int .i64 0] 31)
          refine hK.out _ _ (HKEEP.out _ HW3) (fun hSm => ?_)
          clear hK K hSn
          have hSn := hSm
          clear hSm
          try simp only [Act.put, pa, pz, ps]
          obtain ⟨W3, hWn⟩ : ∃ W, W2.alloc (.cells #[.int .i64 0, .int .i64 0] 31) = W := ⟨_, rfl⟩
          rw [hWn] at HW3 hSn HP HWk HX ⊢
          rw [hgn]
          clear hWn hgn
          refine wpAnyH_ready (rs := [3]) (by kernel_rfl) (by simp) ?_
          refine AllReadyH.cons rfl (fun K hK => ?_) (AllReadyH.nil)
          · go_simp
            (with_reducible refine (HRN3.out _ _ HW3 HX).mono ?_); rintro e W4 ⟨Q3, σ, rfl, hf1, hf2, HF4, hR0⟩
            have hB0 := hR0.bel
            have HY := hR0.low (base' := b3) (w1 := w3) (by have := HW3.size; have := HBQ.out; omega) HW3
            have HW4 : Below b3 w3 W4 := HY.bel
            replace HP := HP.below hB0 HP.lt
            replace HWk := HWk.below hB0 HWk.lt
            refine hK.out _ _ (HKEEP.out _ HW4) (fun hSm => ?_)
            clear hK K hR0 hB0 hSn HX
            have hSn := hSm
            clear hSm
            try simp only [Act.put, pa, pz, ps]
            refine tk (v := ?_) 4 21 rfl ?_ ?_
            rotate_left
            · (intro W hSw; obtain ⟨-, a0, a1, a2, a3, a4, a5, a6, a7, a8⟩ := hSw; go_simp; try with_reducible rfl)
            simp only [Act.put, pa, pz, ps]
            refine tk (v := ?_) 5 26 rfl ?_ ?_
            rotate_left
            · (intro W hSw; obtain ⟨-, a0, a1, a2, a3, a4, a5, a6, a7, a8⟩ := hSw; go_simp; try with_reducible rfl)
            simp only [Act.put, pa, pz, ps]
            refine tk (v := ?_) 6 27 rfl ?_ ?_
            rotate_left
            · (intro W hSw; obtain ⟨-, a0, a1, a2, a3, a4, a5, a6, a7, a8⟩ := hSw; go_simp; try with_reducible rfl)
            simp only [Act.put, pa, pz, ps]
            clear hSn
            revert HWk
            revert HP
            revert hgW
            revert hgP
            revert HY
            revert W4
            revert gW
            revert gP
            revert HF4
            revert hf2
            revert hf1
            revert σ
            revert Q3
            revert Q2
            exact tail.out
      · go_simp
        obtain ⟨gW, hgn⟩ : ∃ g, W1.heap.size = g := ⟨_, rfl⟩
        have hgW : b3 ≤ gW := by have := HW1.size; have := HBQ.out; omega
        have HW2 : Below b3 w3 (W1.alloc (.cells #[.int .i64 0, .int .i64 0] 31)) := HW1.alloc (by omega) _
        replace HP := HP.alloc (.cells #[.int .i64 0, .int .i64 0] 31)
        have HWk : Blk (W1.alloc (.cells #[.int .i64 0, .int .i64 0] 31)) gW 31 #[.int .i64 0, .int .i64 0] := Blk.new hgn
        refine hK.out _ _ (HKEEP.out _ HW2) (fun hSm => ?_)
        clear hK K hSn
        have hSn := hSm
        clear hSm
        try simp only [Act.put, pa, pz, ps]
        obtain ⟨W2, hWn⟩ : ∃ W, W1.alloc (.cells #[.int .i64 0, .int .i64 0] 31) = W := ⟨_, rfl⟩
        rw [hWn] at HW2 hSn HP HWk ⊢
        rw [hgn]
        clear hWn hgn
        refine wpAnyH_ready (rs := [2]) (by kernel_rfl) (by simp) ?_
        refine AllReadyH.cons rfl (fun K hK => ?_) (AllReadyH.nil)
        · go_simp
          (with_reducible refine (HBG3.out _ HW2).mono ?_); rintro e W3 ⟨Q2, rfl, hR0⟩
          have hB0 := hR0.bel
          have HW3 : Below b3 w3 W3 := HW2.trans (hB0.mono (by have := HW2.size; have := HBQ.out; omega))
          have HX := hR0.st (HLS.out _ _ _ HBE.out).1 (HLS.out _ _ _ HBE.out).2.1 (HLS.out _ _ _ HBE.out).2.2
          have hst2 := Lib.hid HX
          replace HP := HP.below hB0 HP.lt
          replace HWk := HWk.below hB0 HWk.lt
          refine hK.out _ _ (HKEEP.out _ HW3) (fun hSm => ?_)
          clear hK K hR0 hB0 hSn hst2
          have hSn := hSm
          clear hSm
          try simp only [Act.put, pa, pz, ps]
          refine wpAnyH_ready (rs := [3]) (by kernel_rfl) (by simp) ?_
          refine AllReadyH.cons rfl (fun K hK => ?_) (AllReadyH.nil)
          · go_simp
            (with_reducible refine (HRN3.out _ _ HW3 HX).mono ?_); rintro e W4 ⟨Q3, σ, rfl, hf1, hf2, HF4, hR0⟩
            have hB0 := hR0.bel
            have HY := hR0.low (base' := b3) (w1 := w3) (by have := HW3.size; have := HBQ.out; omega) HW3
            have HW4 : Below b3 w3 W4 := HY.bel
            replace HP := HP.below hB0 HP.lt
            replace HWk := HWk.below hB0 HWk.lt
            refine hK.out _ _ (HKEEP.out _ HW4) (fun hSm => ?_)
            clear hK K hR0 hB0 hSn HX
            have hSn := hSm
            clear hSm
            try simp only [Act.put, pa, pz, ps]
            refine tk (v := ?_) 4 21 rfl ?_ ?_
            rotate_left
            · (intro W hSw; obtain ⟨-, a0, a1, a2, a3, a4, a5, a6, a7, a8⟩ := hSw; go_simp; try with_reducible rfl)
            simp only [Act.put, pa, pz, ps]
            refine tk (v := ?_) 5 26 rfl ?_ ?_
            rotate_left
            · (intro W hSw; obtain ⟨-, a0, a1, a2, a3, a4, a5, a6, a7, a8⟩ := hSw; go_simp; try with_reducible rfl)
            simp only [Act.put, pa, pz, ps]
            refine tk (v := ?_) 6 27 rfl ?_ ?_
            rotate_left
            · (intro W hSw; obtain ⟨-, a0, a1, a2, a3, a4, a5, a6, a7, a8⟩ := hSw; go_simp; try with_reducible rfl)
            simp only [Act.put, pa, pz, ps]
            clear hSn
            revert HWk
            revert HP
            revert hgW
            revert hgP
            revert HY
            revert W4
            revert gW
            revert gP
            revert HF4
            revert hf2
            revert hf1
            revert σ
            revert Q3
            revert Q2
            exact tail.out
    · go_simp
      obtain ⟨gW, hgn⟩ : ∃ g, w3.heap.size = g := ⟨_, rfl⟩
      have hgW : b3 ≤ gW := by have := HW0.size; have := HBQ.out; omega
      have HW1 : Below b3 w3 (w3.alloc (.cells #[.int .i64 0, .int .i64 0] 31)) := HW0.alloc (by omega) _
      have HWk : Blk (w3.alloc (.cells #[.int .i64 0, .int .i64 0] 31)) gW 31 #[.int .i64 0, .int .i64 0] := Blk.new hgn
      refine hK.out _ _ (HKEEP.out _ HW1) (fun hSm => ?_)
      clear hK K hSn
      have hSn := hSm
      clear hSm
      try simp only [Act.put, pa, pz, ps]
      obtain ⟨W1, hWn⟩ : ∃ W, w3.alloc (.cells #[.int .i64 0, .int .i64 0] 31) = W := ⟨_, rfl⟩
      rw [hWn] at HW1 hSn HWk ⊢
      rw [hgn]
      clear hWn hgn
      refine wpAnyH_ready (rs := [2, 7]) (by kernel_rfl) (by simp) ?_
      refine AllReadyH.cons rfl (fun K hK => ?_) (AllReadyH.cons rfl (fun K hK => ?_) (AllReadyH.nil))
      · go_simp
        (with_reducible refine (HBG3.out _ HW1).mono ?_); rintro e W2 ⟨Q2, rfl, hR0⟩
        have hB0 := hR0.bel
        have HW2 : Below b3 w3 W2 := HW1.trans (hB0.mono (by have := HW1.size; have := HBQ.out; omega))
        have HX := hR0.st (HLS.out _ _ _ HBE.out).1 (HLS.out _ _ _ HBE.out).2.1 (HLS.out _ _ _ HBE.out).2.2
        have hst2 := Lib.hid HX
        replace HWk := HWk.below hB0 HWk.lt
        refine hK.out _ _ (HKEEP.out _ HW2) (fun hSm => ?_)
        clear hK K hR0 hB0 hSn hst2
        have hSn := hSm
        clear hSm
        try simp only [Act.put, pa, pz, ps]
        refine wpAnyH_ready (rs := [3, 7]) (by kernel_rfl) (by simp) ?_
        refine AllReadyH.cons rfl (fun K hK => ?_) (AllReadyH.cons rfl (fun K hK => ?_) (AllReadyH.nil))
        · go_simp
          (with_reducible refine (HRN3.out _ _ HW2 HX).mono ?_); rintro e W3 ⟨Q3, σ, rfl, hf1, hf2, HF4, hR0⟩
          have hB0 := hR0.bel
          have HY := hR0.low (base' := b3) (w1 := w3) (by have := HW2.size; have := HBQ.out; omega) HW2
          have HW3 : Below b3 w3 W3 := HY.bel
          replace HWk := HWk.below hB0 HWk.lt
          refine hK.out _ _ (HKEEP.out _ HW3) (fun hSm => ?_)
          clear hK K hR0 hB0 hSn HX
          have hSn := hSm
          clear hSm
          try simp only [Act.put, pa, pz, ps]
          refine tk (v := ?_) 4 21 rfl ?_ ?_
          rotate_left
          · (intro W hSw; obtain ⟨-, a0, a1, a2, a3, a4, a5, a6, a7, a8⟩ := hSw; go_simp; try with_reducible rfl)
          simp only [Act.put, pa, pz, ps]
          refine tk (v := ?_) 5 26 rfl ?_ ?_
          rotate_left
          · (intro W hSw; obtain ⟨-, a0, a1, a2, a3, a4, a5, a6, a7, a8⟩ := hSw; go_simp; try with_reducible rfl)
          simp only [Act.put, pa, pz, ps]
          refine tk (v := ?_) 6 27 rfl ?_ ?_
          rotate_left
          · (intro W hSw; obtain ⟨-, a0, a1, a2, a3, a4, a5, a6, a7, a8⟩ := hSw; go_simp; try with_reducible rfl)
          simp only [Act.put, pa, pz, ps]
          refine wpAnyH_ready (rs := [7]) (by kernel_rfl) (by simp) ?_
          refine AllReadyH.cons rfl (fun K hK => ?_) (AllReadyH.nil)
          · go_simp
            obtain ⟨gP, hgn⟩ : ∃ g, W3.heap.size = g := ⟨_, rfl⟩
            have hgP : b3 ≤ gP := by have := HW3.size; have := HBQ.out; omega
            have HW4 : Below b3 w3 (W3.alloc (.cells #[.slice none 0 0, .slice none 0 0, .slice none 0 0] 49)) := HW3.alloc (by omega) _
            replace HWk := HWk.alloc (.cells #[.slice none 0 0, .slice none 0 0, .slice none 0 0] 49)
            have HP : Blk (W3.alloc (.cells #[.slice none 0 0, .slice none 0 0, .slice none 0 0] 49)) gP 49 #[.slice none 0 0, .slice none 0 0, .slice none 0 0] := Blk.new hgn
            replace HY := HY.alloc (.cells #[.slice none 0 0, .slice none 0 0, .slice none 0 0] 49)
            refine hK.out _ _ (HKEEP.out _ HW4) (fun hSm => ?_)
            clear hK K hSn
            have hSn := hSm
            clear hSm
            try simp only [Act.put, pa, pz, ps]
            obtain ⟨W4, hWn⟩ : ∃ W, W3.alloc (.cells #[.slice none 0 0, .slice none 0 0, .slice none 0 0] 49) = W := ⟨_, rfl⟩
            rw [hWn] at HW4 hSn HP HWk HY ⊢
            rw [hgn]
            clear hWn hgn
            clear hSn
            revert HWk
            revert HP
            revert hgW
            revert hgP
            revert HY
            revert W4
            revert gW
            revert gP
            revert HF4
            revert hf2
            revert hf1
            revert σ
            revert Q3
            revert Q2
            exact tail.out
        · go_simp
          obtain ⟨gP, hgn⟩ : ∃ g, W2.heap.size = g := ⟨_, rfl⟩
          have hgP : b3 ≤ gP := by have := HW2.size; have := HBQ.out; omega
          have HW3 : Below b3 w3 (W2.alloc (.cells #[.slice none 0 0, .slice none 0 0, .slice none 0 0] 49)) := HW2.alloc (by omega) _
          replace HWk := HWk.alloc (.cells #[.slice none 0 0, .slice none 0 0, .slice none 0 0] 49)
          have HP : Blk (W2.alloc (.cells #[.slice none 0 0, .slice none 0 0, .slice none 0 0] 49)) gP 49 #[.slice none 0 0, .slice none 0 0, .slice none 0 0] := Blk.new hgn
          replace HX := HX.onAlloc (.cells #[.slice none 0 0, .slice none 0 0, .slice none 0 0] 49)
          refine hK.out _ _ (HKEEP.out _ HW3) (fun hSm => ?_)
          clear hK K hSn
          have hSn := hSm
          clear hSm
          try simp only [Act.put, pa, pz, ps]
          obtain ⟨W3, hWn⟩ : ∃ W, W2.alloc (.cells #[.slice none 0 0, .slice none 0 0, .slice none 0 0] 49) = W := ⟨_, rfl⟩
          rw [hWn] at HW3 hSn HP HWk HX ⊢
          rw [hgn]
          clear hWn hgn
          refine wpAnyH_ready (rs := [3]) (by kernel_rfl) (by simp) ?_
          refine AllReadyH.cons rfl (fun K hK => ?_) (AllReadyH.nil)
          · go_simp
            (with_reducible refine (HRN3.out _ _ HW3 HX).mono ?_); rintro e W4 ⟨Q3, σ, rfl, hf1, hf2, HF4, hR0⟩
            have hB0 := hR0.bel
            have HY := hR0.low (base' := b3) (w1 := w3) (by have := HW3.size; have := HBQ.out; omega) HW3
            have HW4 : Below b3 w3 W4 := HY.bel
            replace HP := HP.below hB0 HP.lt
            replace HWk := HWk.below hB0 HWk.lt
            refine hK.out _ _ (HKEEP.out _ HW4) (fun hSm => ?_)
            clear hK K hR0 hB0 hSn HX
            have hSn := hSm
            clear hSm
            try simp only [Act.put, pa, pz, ps]
            refine tk (v := ?_) 4 21 rfl ?_ ?_
            rotate_left
            · (intro W hSw; obtain ⟨-, a0, a1, a2, a3, a4, a5, a6, a7, a8⟩ := hSw; go_simp; try with_reducible rfl)
            simp only [Act.put, pa, pz, ps]
            refine tk (v := ?_) 5 26 rfl ?_ ?_
            rotate_left
            · (intro W hSw; obtain ⟨-, a0, a1, a2, a3, a4, a5, a6, a7, a8⟩ := hSw; go_simp; try with_reducible rfl)
            simp only [Act.put, pa, pz, ps]
            refine tk (v := ?_) 6 27 rfl ?_ ?_
            rotate_left
            · (intro W hSw; obtain ⟨-, a0, a1, a2, a3, a4, a5, a6, a7, a8⟩ := hSw; go_simp; try with_reducible rfl)
            simp only [Act.put, pa, pz, ps]
            clear hSn
            revert HWk
            revert HP
            revert hgW
            revert hgP
            revert HY
            revert W4
            revert gW
            revert gP
            revert HF4
            revert hf2
            revert hf1
            revert σ
            revert Q3
            revert Q2
            exact tail.out
      · go_simp
        obtain ⟨gP, hgn⟩ : ∃ g, W1.heap.size = g := ⟨_, rfl⟩
        have hgP : b3 ≤ gP := by have := HW1.size; have := HBQ.out; omega
        have HW2 : Below b3 w3 (W1.alloc (.cells #[.slice none 0 0, .slice none 0 0, .slice none 0 0] 49)) := HW1.alloc (by omega) _
        replace HWk := HWk.alloc (.cells #[.slice none 0 0, .slice none 0 0, .slice none 0 0] 49)
        have HP : Blk (W1.alloc (.cells #[.slice none 0 0, .slice none 0 0, .slice none 0 0] 49)) gP 49 #[.slice none 0 0, .slice none 0 0, .slice none 0 0] := Blk.new hgn
        refine hK.out _ _ (HKEEP.out _ HW2) (fun hSm => ?_)
        clear hK K hSn
        have hSn := hSm
        clear hSm
        try simp only [Act.put, pa, pz, ps]
        obtain ⟨W2, hWn⟩ : ∃ W, W1.alloc (.cells #[.slice none 0 0, .slice none 0 0, .slice none 0 0] 49) = W := ⟨_, rfl⟩
        rw [hWn] at HW2 hSn HP HWk ⊢
        rw [hgn]
        clear hWn hgn
        refine wpAnyH_ready (rs := [2]) (by kernel_rfl) (by simp) ?_
        refine AllReadyH.cons rfl (fun K hK => ?_) (AllReadyH.nil)
        · go_simp
          (with_reducible refine (HBG3.out _ HW2).mono ?_); rintro e W3 ⟨Q2, rfl, hR0⟩
          have hB0 := hR0.bel
          have HW3 : Below b3 w3 W3 := HW2.trans (hB0.mono (by have := HW2.size; have := HBQ.out; omega))
          have HX := hR0.st (HLS.out _ _ _ HBE.out).1 (HLS.out _ _ _ HBE.out).2.1 (HLS.out _ _ _ HBE.out).2.2
          have hst2 := Lib.hid HX
          replace HP := HP.below hB0 HP.lt
          replace HWk := HWk.below hB0 HWk.lt
          refine hK.out _ _ (HKEEP.out _ HW3) (fun hSm => ?_)
          clear hK K hR0 hB0 hSn hst2
          have hSn := hSm
          clear hSm
          try simp only [Act.put, pa, pz, ps]
          refine wpAnyH_ready (rs := [3]) (by kernel_rfl) (by simp) ?_
          refine AllReadyH.cons rfl (fun K hK => ?_) (AllReadyH.nil)
          · go_simp
            (with_reducible refine (HRN3.out _ _ HW3 HX).mono ?_); rintro e W4 ⟨Q3, σ, rfl, hf1, hf2, HF4, hR0⟩
            have hB0 := hR0.bel
            have HY := hR0.low (base' := b3) (w1 := w3) (by have := HW3.size; have := HBQ.out; omega) HW3
            have HW4 : Below b3 w3 W4 := HY.bel
            replace HP := HP.below hB0 HP.lt
            replace HWk := HWk.below hB0 HWk.lt
            refine hK.out _ _ (HKEEP.out _ HW4) (fun hSm => ?_)
            clear hK K hR0 hB0 hSn HX
            have hSn := hSm
            clear hSm
            try simp only [Act.put, pa, pz, ps]
            refine tk (v := ?_) 4 21 rfl ?_ ?_
            rotate_left
            · (intro W hSw; obtain ⟨-, a0, a1, a2, a3, a4, a5, a6, a7, a8⟩ := hSw; go_simp; try with_reducible rfl)
            simp only [Act.put, pa, pz, ps]
            refine tk (v := ?_) 5 26 rfl ?_ ?_
            rotate_left
            · (intro W hSw; obtain ⟨-, a0, a1, a2, a3, a4, a5, a6, a7, a8⟩ := hSw; go_simp; try with_reducible rfl)
            simp only [Act.put, pa, pz, ps]
            refine tk (v := ?_) 6 27 rfl ?_ ?_
            rotate_left
            · (intro W hSw; obtain ⟨-, a0, a1, a2, a3, a4, a5, a6, a7, a8⟩ := hSw; go_simp; try with_reducible rfl)
            simp only [Act.put, pa, pz, ps]
            clear hSn
            revert HWk
            revert HP
            revert hgW
            revert hgP
            revert HY
            revert W4
            revert gW
            revert gP
            revert HF4
            revert hf2
            revert hf1
            revert σ
            revert Q3
            revert Q2
            exact tail.out
  case tailp =>
    refine Lib.hid ?_
    intro Q2 Q3 σ hf1 hf2 HF4 gP gW W5 hbW5 HY hgP hgW HP HWk
    have hSn := HKEEP.out _ HY.bel
    obtain ⟨AX, cX, AE, cE, AHH, cHH⟩ := Q3
    obtain ⟨⟨e0, e1, e2⟩, ⟨f0, f1, f2⟩, hze⟩ := HP.full3
    refine wpAnyH_ready (rs := [9]) (by kernel_rfl) (by simp) ?_
    refine AllReadyH.cons rfl (fun K hK => ?_) AllReadyH.nil
    go_simp
    have hne1 : gW ≠ gP := HWk.ne HP (by decide)
    have hY6 := HY.put3 (x := .slice AX M cX) (y := .slice AE N cE) (z := .slice AHH N cHH) HP pst_ne (by omega)
    have hP6 := HP.put3 (x := .slice AX M cX) (y := .slice AE N cE) (z := .slice AHH N cHH)
    have hW6 := HWk.far3 (g := gP) (x := .slice AX M cX) (y := .slice AE N cE) (z := .slice AHH N cHH) hne1
    refine hK.out _ _ (HKEEP.out _ hY6.bel) (fun hSm => ?_)
    clear hK K hSn hbW5 HY HP HWk e0 e1 e2 f0 f1 f2 hze
    have hSn := hSm
    clear hSm
    dsimp only [put3] at hY6 hP6 hW6
    generalize ((W5.setCell ⟨gP, 0, none⟩ (.slice AX M cX)).setCell ⟨gP, 1, none⟩ (.slice AE N cE)).setCell ⟨gP, 2, none⟩ (.slice AHH N cHH) = W6 at *
    have p0 := hW6.cell 0; have p1 := hW6.cell 1; have r0 := hW6.frozen 0; have r1 := hW6.frozen 1
    simp only [List.getElem?_toArray, List.getElem?_cons_zero, List.getElem?_cons_succ] at p0 p1
    have hzw := hW6.lt
    refine wpAnyH_ready (rs := [10]) (by kernel_rfl) (by simp) ?_
    refine AllReadyH.cons rfl (fun K hK => ?_) AllReadyH.nil
    go_simp
    have hY7 := (hY6.far hW6 wk_ne (by omega) 0 (.int .i64 (σ.P : Int))).far (hW6.set 0 _) wk_ne (by omega) 1 (.int .i64 (σ.L : Int))
    have hW7 : Blk _ _ _ #[.int .i64 (σ.P : Int), .int .i64 (σ.L : Int)] := (hW6.set 0 (.int .i64 (σ.P : Int))).set 1 (.int .i64 (σ.L : Int))
    have hP7 := (hP6.far (p := ⟨gW, 0, none⟩) (fun e => hne1 e.symm) (.int .i64 (σ.P : Int))).far (p := ⟨gW, 1, none⟩) (fun e => hne1 e.symm) (.int .i64 (σ.L : Int))
    refine hK.out _ _ (HKEEP.out _ hY7.bel) (fun hSm => ?_)
    clear hK K hSn hSm hY6 hP6 hW6 p0 p1 r0 r1 hzw
    generalize (W6.setCell ⟨gW, 0, none⟩ (.int .i64 (σ.P : Int))).setCell ⟨gW, 1, none⟩ (.int .i64 (σ.L : Int)) = W7 at *
    refine wpAnyH_done (by kernel_rfl) ?_ _
    obtain ⟨hst, hno⟩ := head_end HF4 hf2
    obtain ⟨x1, x2, x3, x4⟩ := HEN.out _ _ _ hst hno
    obtain ⟨lX, lE, lH⟩ := HLS.out _ _ _ hst
    have hB7 := hY7.bel
    have hC7 := HC3.out.on (show Below w3.heap.size w3 W7 by rw [HBQ.out]; exact hB7)
    have hStn := hY7.st lX lE lH
    have hfl7 := HFL.out W7 gF gHd gR gC gA gB AX cX σ.X σ.E σ.H hC7 hStn.iX hst
    have hE7 := HE3.out.below hB7 (by have := HE3.out.lt; have := HBQ.out; omega)
    have hF7 := HF3.out.below hB7 (by have := HF3.out.lt; have := HBQ.out; omega)
    have hK7 := HK3.out.below hB7 (by have := HK3.out.lt; have := HBQ.out; omega)
    have hD7 := HD3.out.below hB7 hz3
    have hBw7 : Below w.heap.size w W7 := below_step HB3.out (by rw [HBQ.out]; exact hB7)
    obtain ⟨a0, a1, a2, a3, a4, a5, a6, a7, a8⟩ := hD7.at9
    obtain ⟨n0, n1, n2, n3⟩ := hK7.at4
    obtain ⟨⟨q0, q1, q2⟩, ⟨f0, f1, f2⟩, hzq⟩ := hP7.full3
    have hz7 := hF7.lt; have hz8 := hD7.lt; have hz9 := hW7.lt
    obtain ⟨gE, hgE⟩ := own_some (hY7.held.own 1 _ rfl) (by show 0 < N; omega)
    have hgE' : AE = some ⟨gE, 0, none⟩ := hgE
    subst hgE'
    obtain ⟨cEt, -, zE, -⟩ := hY7.cell (i := 1) (j := t) rfl htN (lvs_at (by omega))
    obtain ⟨v, hv⟩ : ∃ v, hOf σ.E t = v := ⟨_, rfl⟩
    rw [hv] at cEt x3
    obtain ⟨FF, hFF⟩ : ∃ F, flF ai bk σ.X l.length M = F := ⟨_, rfl⟩
    rw [HLN.out] at hFF x1 x2 x3 x4
    rw [hFF] at hfl7 x1 x2 x3 x4
    have hFlen : FF.length = n := by rw [← hFF]; exact flF_len _
    have HFL7 := Lib.hid hfl7; have HX1 := Lib.hid x1; have HX2 := Lib.hid x2; have HX3 := Lib.hid x3; have HX4 := Lib.hid x4; have HY7 := Lib.hid hY7; have HP7 := Lib.hid hP7; have HW7 := Lib.hid hW7; have HE7 := Lib.hid hE7; have HF7 := Lib.hid hF7; have HK7 := Lib.hid hK7; have HD7 := Lib.hid hD7
    have HF1 := Lib.hid hf1; have HF2 := Lib.hid hf2; have HHD := Lib.hid HF4; have HV := Lib.hid hv; have HBW7 := Lib.hid hBw7; have HFLEN := Lib.hid hFlen
    clear hfl7 x1 x2 x3 x4 hY7 hP7 hW7 hE7 hF7 hK7 hD7 hf1 hf2 HF4 hv hBw7 hst hno hC7 hStn lX lE lH hgE f0 f1 f2 hFF hFlen
    have hzz7 := HK7.out.lt
    go_wp2_with fail
    refine HFL7.out.mono ?_
    rintro e w8 ⟨gf, rfl, hgf, hbf, B8⟩
    have K8 := HK7.out.below B8 HK7.out.lt; have E8 := HE7.out.below B8 HE7.out.lt; have F8 := HF7.out.below B8 HF7.out.lt; have P8 := HP7.out.below B8 HP7.out.lt; have W8 := HW7.out.below B8 HW7.out.lt
    have cE8 := B8.cell (p := ⟨gE, t, none⟩) zE
    rw [cEt] at cE8
    have hBw8 := below_step HBW7.out B8
    clear a0 a1 a2 a3 a4 a5 a6 a7 a8 n0 n1 n2 n3 q0 q1 q2 hz7 hz8 hz9 hzq hzz7 cEt
    obtain ⟨n0, n1, n2, n3⟩ := K8.at4
    have hz7 := K8.lt; have hz8 := F8.lt
    have hto8 := HTO.out w8 gf FF hBw8 (hbf.ints HFLEN.out) HX1.out
    have HTO8 := Lib.hid hto8
    have hz9 := HW7.out.lt; have hz10 := HP7.out.lt
    have hsz8 := B8.size
    have HGF := Lib.hid hgf; have HBF := Lib.hid hbf; have HB8 := Lib.hid B8; have HK8 := Lib.hid K8; have HE8 := Lib.hid E8; have HF8 := Lib.hid F8; have HP8 := Lib.hid P8; have HW8 := Lib.hid W8; have HCE8 := Lib.hid cE8; have HBW8 := Lib.hid hBw8
    clear hto8 hgf hbf B8 K8 E8 F8 P8 W8 cE8 hBw8
    go_wp2_with fail
    refine HTO8.out.mono ?_
    rintro e w9 ⟨gs, KK, rfl, hgs, hbk, hKl, hKp, B9⟩
    have hsz9 := B9.size
    have K9 := HK8.out.below B9 HK8.out.lt; have E9 := HE8.out.below B9 HE8.out.lt; have F9 := HF8.out.below B9 HF8.out.lt; have P9 := HP8.out.below B9 HP8.out.lt; have W9 := HW8.out.below B9 HW8.out.lt
    have cE9 := B9.cell (p := ⟨gE, t, none⟩) (by show gE < _; omega)
    rw [HCE8.out] at cE9
    have hBF9 := HBF.out.below B9 HBF.out.lt
    have hBw9 := below_step HBW8.out B9
    have hgf9 := HGF.out
    have hgfl := HBF.out.lt
    clear n0 n1 n2 n3 hz7 hz8
    obtain ⟨n0, n1, n2, n3⟩ := K9.at4
    have hz7 := K9.lt; have hz8 := F9.lt
    have HK9 := Lib.hid K9; have HE9 := Lib.hid E9; have HF9 := Lib.hid F9; have HP9 := Lib.hid P9; have HW9 := Lib.hid W9; have HCE9 := Lib.hid cE9; have HBW9 := Lib.hid hBw9; have HBF9 := Lib.hid hBF9; have HBK := Lib.hid hbk; have HKL := Lib.hid hKl; have HKP := Lib.hid hKp; have HGS := Lib.hid hgs
    clear B9 K9 E9 F9 P9 W9 cE9 hBw9 hBF9 hbk hKl hKp hgs
    go_upto_region 11 with fail
    simp only [Nat.add_assoc, Nat.reduceAdd]
    obtain ⟨wa, hwa⟩ : ∃ wa, w9.drew = wa := ⟨_, rfl⟩
    have h9a : Below w9.heap.size w9 wa := by rw [← hwa]; exact (Below.refl _ w9).drew
    have hE := HE9.out.below h9a HE9.out.lt; have hF := HF9.out.below h9a HF9.out.lt; have hP := HP9.out.below h9a HP9.out.lt; have hW := HW9.out.below h9a HW9.out.lt; have hK9 := HK9.out.below h9a HK9.out.lt
    have hcE := h9a.cell (p := ⟨gE, t, none⟩) (by show gE < _; omega)
    rw [HCE9.out] at hcE
    have hGF := HBF9.out.below h9a HBF9.out.lt; have hGS := HBK.out.below h9a HBK.out.lt
    have hBw := below_step HBW9.out h9a
    have hkp2 : ∀ W : World, Blk W gP 49 #[.slice AX M cX, .slice (some ⟨gE, 0, none⟩) N cE, .slice AHH N cHH] → Blk W gW 31 #[.int .i64 (σ.P : Int), .int .i64 (σ.L : Int)] → Blk W w.heap.size 24 #[.int .i64 (N : Int), .int .i64 (s : Int), .int .i64 (t : Int), .slice A n c] → W.cell? ⟨gE, t, none⟩ = some (.int .i64 v) →
        (W.cell? ⟨gP, 1, none⟩ = some (.slice (some ⟨gE, 0, none⟩) N cE) ∧ W.cell? ⟨w.heap.size, 2, none⟩ = some (.int .i64 (t : Int)) ∧ W.cell? ⟨gE, t, none⟩ = some (.int .i64 v) ∧ W.cell? ⟨gW, 0, none⟩ = some (.int .i64 (σ.P : Int)) ∧ W.cell? ⟨gW, 1, none⟩ = some (.int .i64 (σ.L : Int))) := fun W h1 h2 h3 h4 => ⟨h1.cell 1, h3.cell 2, h4, h2.cell 0, h2.cell 1⟩
    have HKP2 := Lib.hid hkp2
    have htN' : (t : Int) < (N : Int) := by omega
    have hgw0 := HGS.out
    have hEb := h9a.size
    have hgE3 : b3 ≤ gE := by have := (HY7.out.held.own 1 _ rfl).lt gE rfl; exact this.1
    clear hkp2 h9a n0 n1 n2 n3
    refine wp_region_held_drew (S := fun W => W.cell? ⟨gP, 1, none⟩ = some (.slice (some ⟨gE, 0, none⟩) N cE) ∧ W.cell? ⟨w.heap.size, 2, none⟩ = some (.int .i64 (t : Int)) ∧ W.cell? ⟨gE, t, none⟩ = some (.int .i64 v) ∧ W.cell? ⟨gW, 0, none⟩ = some (.int .i64 (σ.P : Int)) ∧ W.cell? ⟨gW, 1, none⟩ = some (.int .i64 (σ.L : Int))) (by kernel_rfl) (by rw [hwa]; exact HKP2.out _ hP hW hK9 hcE) (fun hS0 => ?_)
    rw [hwa] at hS0 ⊢
    clear hwa
    refine tk (v := ?_) 0 54 rfl ?_ ?_
    rotate_left
    · (intro W hSw; obtain ⟨s1, s2, s3, s4, s5⟩ := hSw; go_simp; try with_reducible rfl)
    simp only [Act.put, pa, pz, ps]
    refine tk (v := ?_) 1 55 rfl ?_ ?_
    rotate_left
    · (intro W hSw; obtain ⟨s1, s2, s3, s4, s5⟩ := hSw; go_simp; try with_reducible rfl)
    simp only [Act.put, pa, pz, ps]
    refine tk (v := ?_) 2 56 rfl ?_ ?_
    rotate_left
    · (intro W hSw; obtain ⟨s1, s2, s3, s4, s5⟩ := hSw; go_simp; try with_reducible rfl)
    simp only [Act.put, pa, pz, ps]
    refine tk (v := ?_) 3 57 rfl ?_ ?_
    rotate_left
    · (intro W hSw; obtain ⟨s1, s2, s3, s4, s5⟩ := hSw; go_simp; try with_reducible rfl)
    simp only [Act.put, pa, pz, ps]
    refine tk (v := ?_) 4 58 rfl ?_ ?_
    rotate_left
    · (intro W hSw; obtain ⟨s1, s2, s3, s4, s5⟩ := hSw; go_simp; try with_reducible rfl)
    simp only [Act.put, pa, pz, ps]
    refine tk (v := ?_) 5 59 rfl ?_ ?_
    rotate_left
    · (intro W hSw; obtain ⟨s1, s2, s3, s4, s5⟩ := hSw; go_simp; try with_reducible rfl)
    simp only [Act.put, pa, pz, ps]
    refine tk (v := ?_) 6 60 rfl ?_ ?_
    rotate_left
    · (intro W hSw; obtain ⟨s1, s2, s3, s4, s5⟩ := hSw; go_simp; try with_reducible rfl)
    simp only [Act.put, pa, pz, ps]
    refine tk (v := ?_) 7 61 rfl ?_ ?_
    rotate_left
    · (intro W hSw; obtain ⟨s1, s2, s3, s4, s5⟩ := hSw; go_simp; try with_reducible rfl)
    simp only [Act.put, pa, pz, ps]
    refine tk (v := ?_) 8 62 rfl ?_ ?_
    rotate_left
    · (intro W hSw; obtain ⟨s1, s2, s3, s4, s5⟩ := hSw; go_simp; try with_reducible rfl)
    simp only [Act.put, pa, pz, ps]
    refine tk (v := ?_) 9 63 rfl ?_ ?_
    rotate_left
    · (intro W hSw; obtain ⟨s1, s2, s3, s4, s5⟩ := hSw; go_simp; try with_reducible rfl)
    simp only [Act.put, pa, pz, ps]
    obtain ⟨⟨e0, e1, e2⟩, ⟨f0, f1, f2⟩, hze⟩ := hE.full3
    refine wpAnyH_ready (rs := [10]) (by kernel_rfl) (by simp) ?_
    refine AllReadyH.cons rfl (fun K hK => ?_) AllReadyH.nil
    go_simp
    have hE1 := hE.put3 (x := .slice (some ⟨gf, 0, none⟩) n n) (y := .slice (some ⟨gs, 0, none⟩) N N) (z := .int .i64 v)
    have hF1 := hF.far3 (g := w.heap.size + 1) (x := .slice (some ⟨gf, 0, none⟩) n n) (y := .slice (some ⟨gs, 0, none⟩) N N) (z := .int .i64 v) (by omega)
    have hP1 := hP.far3 (g := w.heap.size + 1) (x := .slice (some ⟨gf, 0, none⟩) n n) (y := .slice (some ⟨gs, 0, none⟩) N N) (z := .int .i64 v) (by omega)
    have hW1 := hW.far3 (g := w.heap.size + 1) (x := .slice (some ⟨gf, 0, none⟩) n n) (y := .slice (some ⟨gs, 0, none⟩) N N) (z := .int .i64 v) (by omega)
    have hK1 := hK9.far3 (g := w.heap.size + 1) (x := .slice (some ⟨gf, 0, none⟩) n n) (y := .slice (some ⟨gs, 0, none⟩) N N) (z := .int .i64 v) (by omega)
    have hGF1 := hGF.far3 (g := w.heap.size + 1) (x := .slice (some ⟨gf, 0, none⟩) n n) (y := .slice (some ⟨gs, 0, none⟩) N N) (z := .int .i64 v) (by omega)
    have hGS1 := hGS.far3 (g := w.heap.size + 1) (x := .slice (some ⟨gf, 0, none⟩) n n) (y := .slice (some ⟨gs, 0, none⟩) N N) (z := .int .i64 v) (by omega)
    have hBw1 := below_put3 (g := w.heap.size + 1) (x := .slice (some ⟨gf, 0, none⟩) n n) (y := .slice (some ⟨gs, 0, none⟩) N N) (z := .int .i64 v) hBw (by omega)
    have hcE1 : (put3 wa (w.heap.size + 1) (.slice (some ⟨gf, 0, none⟩) n n) (.slice (some ⟨gs, 0, none⟩) N N) (.int .i64 v)).cell? ⟨gE, t, none⟩ = some (.int .i64 v) := by
      unfold put3
      rw [cell_far (by show gE ≠ w.heap.size + 1; omega), cell_far (by show gE ≠ w.heap.size + 1; omega), cell_far (by show gE ≠ w.heap.size + 1; omega)]; exact hcE
    refine hK.out _ _ (HKP2.out _ hP1 hW1 hK1 hcE1) (fun hSm => ?_)
    clear hK K hS0
    have hS0 := hSm
    clear hSm hE hF hP hW hK9 hGF hGS hBw hcE e0 e1 e2 f0 f1 f2 hze
    dsimp only [put3] at hE1 hF1 hP1 hW1 hK1 hGF1 hGS1 hBw1 hcE1
    generalize ((wa.setCell ⟨w.heap.size + 1, 0, none⟩ (.slice (some ⟨gf, 0, none⟩) n n)).setCell ⟨w.heap.size + 1, 1, none⟩ (.slice (some ⟨gs, 0, none⟩) N N)).setCell ⟨w.heap.size + 1, 2, none⟩ (.int .i64 v) = wb at *
    have p0 := hF1.cell 0; have p1 := hF1.cell 1; have r0 := hF1.frozen 0; have r1 := hF1.frozen 1
    simp only [List.getElem?_toArray, List.getElem?_cons_zero, List.getElem?_cons_succ] at p0 p1
    have hzw := hF1.lt
    refine wpAnyH_ready (rs := [11]) (by kernel_rfl) (by simp) ?_
    refine AllReadyH.cons rfl (fun K hK => ?_) AllReadyH.nil
    go_simp
    have hF2 : Blk _ _ _ #[.int .i64 (σ.P : Int), .int .i64 (σ.L : Int)] := (hF1.set 0 (.int .i64 (σ.P : Int))).set 1 (.int .i64 (σ.L : Int))
    have hE2 := (hE1.far (p := ⟨w.heap.size + 2, 0, none⟩) (by show w.heap.size + 1 ≠ w.heap.size + 2; omega) (.int .i64 (σ.P : Int))).far (p := ⟨w.heap.size + 2, 1, none⟩) (by show w.heap.size + 1 ≠ w.heap.size + 2; omega) (.int .i64 (σ.L : Int))
    have hP2 := (hP1.far (p := ⟨w.heap.size + 2, 0, none⟩) (by show gP ≠ w.heap.size + 2; omega) (.int .i64 (σ.P : Int))).far (p := ⟨w.heap.size + 2, 1, none⟩) (by show gP ≠ w.heap.size + 2; omega) (.int .i64 (σ.L : Int))
    have hW2 := (hW1.far (p := ⟨w.heap.size + 2, 0, none⟩) (by show gW ≠ w.heap.size + 2; omega) (.int .i64 (σ.P : Int))).far (p := ⟨w.heap.size + 2, 1, none⟩) (by show gW ≠ w.heap.size + 2; omega) (.int .i64 (σ.L : Int))
    have hK2 := (hK1.far (p := ⟨w.heap.size + 2, 0, none⟩) (by show w.heap.size ≠ w.heap.size + 2; omega) (.int .i64 (σ.P : Int))).far (p := ⟨w.heap.size + 2, 1, none⟩) (by show w.heap.size ≠ w.heap.size + 2; omega) (.int .i64 (σ.L : Int))
    have hGF2 := (hGF1.far (p := ⟨w.heap.size + 2, 0, none⟩) (by show gf ≠ w.heap.size + 2; omega) (.int .i64 (σ.P : Int))).far (p := ⟨w.heap.size + 2, 1, none⟩) (by show gf ≠ w.heap.size + 2; omega) (.int .i64 (σ.L : Int))
    have hGS2 := (hGS1.far (p := ⟨w.heap.size + 2, 0, none⟩) (by show gs ≠ w.heap.size + 2; omega) (.int .i64 (σ.P : Int))).far (p := ⟨w.heap.size + 2, 1, none⟩) (by show gs ≠ w.heap.size + 2; omega) (.int .i64 (σ.L : Int))
    have hBw2 := (hBw1.setCell (p := ⟨w.heap.size + 2, 0, none⟩) (by show w.heap.size ≤ w.heap.size + 2; omega) (.int .i64 (σ.P : Int))).setCell (p := ⟨w.heap.size + 2, 1, none⟩) (by show w.heap.size ≤ w.heap.size + 2; omega) (.int .i64 (σ.L : Int))
    have hcE2 : ((wb.setCell ⟨w.heap.size + 2, 0, none⟩ (.int .i64 (σ.P : Int))).setCell ⟨w.heap.size + 2, 1, none⟩ (.int .i64 (σ.L : Int))).cell? ⟨gE, t, none⟩ = some (.int .i64 v) := by
      rw [cell_far (by show gE ≠ w.heap.size + 2; omega), cell_far (by show gE ≠ w.heap.size + 2; omega)]; exact hcE1
    refine hK.out _ _ (HKP2.out _ hP2 hW2 hK2 hcE2) (fun hSm => ?_)
    clear hK K hS0
    have hS0 := hSm
    clear hSm hE1 hF1 hP1 hW1 hK1 hGF1 hGS1 hBw1 hcE1 p0 p1 r0 r1 hzw
    generalize (wb.setCell ⟨w.heap.size + 2, 0, none⟩ (.int .i64 (σ.P : Int))).setCell ⟨w.heap.size + 2, 1, none⟩ (.int .i64 (σ.L : Int)) = wc at *
    refine tk (v := ?_) 12 4 rfl ?_ ?_
    rotate_left
    · (intro W hSw; obtain ⟨s1, s2, s3, s4, s5⟩ := hSw; go_simp; try with_reducible rfl)
    simp only [Act.put, pa, pz, ps]
    obtain ⟨⟨e0, e1, e2⟩, -, -⟩ := hE2.full3
    have p0 := hF2.cell 0; have p1 := hF2.cell 1
    simp only [List.getElem?_toArray, List.getElem?_cons_zero, List.getElem?_cons_succ] at p0 p1
    refine wpAnyH_done (by kernel_rfl) ?_ _
    have hcut := to_cut hsN htN HKL.out HX4.out HKP.out
    have htight := to_tight HEND.out HX1.out HKP.out
    have HCUT := Lib.hid hcut; have HTIGHT := Lib.hid htight
    clear hcut htight
    go_wp2_with fail
    refine bodyPost_ret (v := .tuple #[.agg #[.slice (some ⟨gf, 0, none⟩) n n, .slice (some ⟨gs, 0, none⟩) N N, .int .i64 v], .agg #[.int .i64 (σ.P : Int), .int .i64 (σ.L : Int)], .int .i64 0]) (by simp [results, Try.results10, go_sem, e0, e1, e2, p0, p1]) rfl ?_
    exact ⟨gf, gs, FF, KK, v, σ, rfl, ⟨by omega, by omega⟩, hGF2, hGS2, ⟨by rw [HFB.out]; exact HF1.out, HF2.out, by rw [HH0.out]; exact HHD.out, HX1.out, HX2.out, HX3.out, HCUT.out, HKP.out, HTIGHT.out⟩, hBw2⟩

end Go.Proofs.Ytfcjmhihheeifaa
