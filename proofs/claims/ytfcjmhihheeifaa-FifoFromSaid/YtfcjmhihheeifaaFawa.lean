/- Layer 8: the chapter's examples: plain facts. Layer 8: the chapter's examples ('awake'). -/
import Derived.Test.YtfcjmhihheeifaaSolv
import Derived.Test.YtfcjmhihheeifaaFour
import Derived.Test.YtfcjmhihheeifaaLongc
import Derived.Test.YtfcjmhihheeifaaCuts
/-! Fawp -/
namespace Go.Proofs.Ytfcjmhihheeifaa
open Go.RowKit
set_option maxRecDepth 100000

theorem five_of {F : List Int} (h : F.length = 5) : ∃ a b c d e, F = [a, b, c, d, e] := by
  match F, h with
  | [a, b, c, d, e], _ => exact ⟨a, b, c, d, e, rfl⟩
theorem fw_sol {F : List Int} {K : List Bool} (hF : FlowIn fourArcs F) (hR : RightIn 4 0 3 fourArcs F) (hK : IsCut 4 0 3 K) (hT : TightFor K fourArcs F) : F = [5, 4, 3, 6, 2] := by
  obtain ⟨a, b, c, d, e, rfl⟩ := five_of hF.len
  obtain ⟨k0, k1, k2, k3, hKl⟩ : ∃ k0 k1 k2 k3, K = [k0, k1, k2, k3] := by
    match K, hK.len with
    | [k0, k1, k2, k3], _ => exact ⟨k0, k1, k2, k3, rfl⟩
  subst hKl
  have h0 : k0 = true := hK.src
  have h3 : k3 = false := hK.snk
  subst h0; subst h3
  obtain ⟨f0, f1, f2, f3, f4⟩ := four_flow.1 hF
  have r1 := hR 1 (by omega)
  have r2 := hR 2 (by omega)
  have t0 := hT 0 _ _ rfl rfl
  have t1 := hT 1 _ _ rfl rfl
  have t2 := hT 2 _ _ rfl rfl
  have t3 := hT 3 _ _ rfl rfl
  have t4 := hT 4 _ _ rfl rfl
  simp [exOf, dlt, fourArcs] at r1 r2
  cases k1 <;> cases k2 <;> simp [outB, innB, inS] at t0 t1 t2 t3 t4 <;> simp <;> omega
theorem fw_open {v u : Int} (h : Opn fourArcs [5, 4, 3, 6, 2] v u) : v ≠ 0 ∧ u ≠ 3 := by
  obtain ⟨i, a, x, ha, hx, hne, hh⟩ := h
  match i, ha, hx with
  | 0, ha, hx => simp [fourArcs] at ha hx; subst ha; subst hx; simp at hh; omega
  | 1, ha, hx => simp [fourArcs] at ha hx; subst ha; subst hx; simp at hh; omega
  | 2, ha, hx => simp [fourArcs] at ha hx; subst ha; subst hx; simp at hh; omega
  | 3, ha, hx => simp [fourArcs] at ha hx; subst ha; subst hx; simp at hh; omega
  | 4, ha, hx => simp [fourArcs] at ha hx; subst ha; subst hx; simp at hh; omega
  | i + 5, ha, hx => simp [fourArcs] at ha
theorem fw_to {v : Int} : Star (Opn fourArcs [5, 4, 3, 6, 2]) v 3 ↔ v = 3 := by
  constructor
  · intro h
    exact h.flip.shut (p := fun x => x = 3) rfl fun a b ha hR => absurd ha (fw_open hR).2
  · rintro rfl; exact .here _
theorem fw_side {K : List Bool} (hl : K.length = 4) (h : ∀ v : Nat, v < 4 → (inS K (v : Int) = true ↔ ¬ Star (Opn fourArcs [5, 4, 3, 6, 2]) (v : Int) ((3 : Nat) : Int))) : K = [true, true, true, false] := by
  obtain ⟨k0, k1, k2, k3, rfl⟩ : ∃ k0 k1 k2 k3, K = [k0, k1, k2, k3] := by
    match K, hl with
    | [k0, k1, k2, k3], _ => exact ⟨k0, k1, k2, k3, rfl⟩
  have e3 : ((3 : Nat) : Int) = 3 := rfl
  rw [e3] at h
  have h0 := h 0 (by omega); have h1 := h 1 (by omega); have h2 := h 2 (by omega); have h3 := h 3 (by omega)
  rw [fw_to] at h0 h1 h2 h3
  simp [inS] at h0 h1 h2 h3
  rw [h0, h1, h2, h3]
def twoArcs : List ArcN := [⟨0, 1, 7⟩, ⟨1, 0, 3⟩]
theorem tw_check : checkF (2 : Nat) (0 : Nat) (1 : Nat) twoArcs = 0 := by decide +kernel
theorem fw_check : checkF (4 : Nat) (0 : Nat) (3 : Nat) fourArcs = 0 := by decide +kernel
theorem tw_sol {F : List Int} {K : List Bool} (hF : FlowIn twoArcs F) (hK : IsCut 2 (0 : Nat) (1 : Nat) K) (hT : TightFor K twoArcs F) : F = [7, 0] ∧ K = [true, false] := by
  obtain ⟨a, b, rfl⟩ : ∃ a b, F = [a, b] := by
    match F, hF.len with
    | [a, b], _ => exact ⟨a, b, rfl⟩
  obtain ⟨k0, k1, rfl⟩ : ∃ k0 k1, K = [k0, k1] := by
    match K, hK.len with
    | [k0, k1], _ => exact ⟨k0, k1, rfl⟩
  have h0 : k0 = true := hK.src
  have h3 : k1 = false := hK.snk
  subst h0; subst h3
  have t0 := hT 0 _ _ rfl rfl
  have t1 := hT 1 _ _ rfl rfl
  simp [outB, innB, inS] at t0 t1
  subst t0; subst t1
  exact ⟨rfl, rfl⟩
theorem Fin.rest {N s t : Nat} {fst hd rv : Nat → Nat} {σ σ' : FS} (h : Fin N s t fst hd rv σ σ') (hq : σ.q = []) : σ' = σ := (Fin.stop hq).same h |>.symm
theorem SolIs.rest {N M s t : Nat} {fst hd rv : Nat → Nat} {cp : Nat → Int} {l : List ArcN} {F : List Int} {K : List Bool} {v : Int} {σ : FS} (h : SolIs N M s t fst hd rv cp l F K v σ) (hq : ∀ u, u < N → actB s t (begE fst hd rv cp M N s (fst (s + 1) - fst s)) u = false) : σ.P = 0 ∧ σ.L = 0 := by
  have := h.fin.rest (by
    show selTo _ N = []
    exact sel_nil.2 hq)
  rw [this]
  exact ⟨rfl, rfl⟩
theorem fw_all {M : Nat} {fst hd rv : Nat → Nat} {cp : Nat → Int} {F : List Int} {K : List Bool} {v : Int} {σ : FS} (h : SolIs 4 M 0 3 fst hd rv cp fourArcs F K v σ) : F = [5, 4, 3, 6, 2] ∧ K = [true, true, true, false] ∧ v = 9 := by
  have e := fw_sol h.flow h.right h.cut h.tight
  subst e
  refine ⟨rfl, fw_side h.cut.len h.side, ?_⟩
  rw [← h.val]
  decide +kernel
theorem tw_all {M : Nat} {fst hd rv : Nat → Nat} {cp : Nat → Int} {F : List Int} {K : List Bool} {v : Int} {σ : FS} (h : SolIs 2 M 0 1 fst hd rv cp twoArcs F K v σ) : F = [7, 0] ∧ K = [true, false] ∧ v = 7 ∧ σ.P = 0 ∧ σ.L = 0 := by
  obtain ⟨rfl, rfl⟩ := tw_sol h.flow h.cut h.tight
  refine ⟨rfl, rfl, ?_, h.rest fun u hu => ?_⟩
  · rw [← h.val]
    decide +kernel
  · rw [← Bool.not_eq_true, act_iff]
    omega

end Go.Proofs.Ytfcjmhihheeifaa

/-! Fawa -/
namespace Go.Proofs.Ytfcjmhihheeifaa
open Go.RowKit
set_option maxRecDepth 100000

set_option maxHeartbeats 1000000 in
theorem sameans_yes (A B A2 B2 : Option Addr) (n m c d c2 d2 : Nat) (F : List Int) (K : List Bool) (v : Int) (w : World) (h1 : Ints w w.heap.size A n F) (h2 : Ints w w.heap.size A2 n F) (h3 : Bools w w.heap.size B m K) (h4 : Bools w w.heap.size B2 m K) (hn : n ≤ 100000) (hm : m ≤ 100000) :
    Calls Try.prog 38 #[.agg #[.slice A n c, .slice B m d, .int .i64 v], .agg #[.slice A2 n c2, .slice B2 m d2, .int .i64 v]] w fun e w' => e = .returned (.bool true) ∧ Below w.heap.size w w' := by
  have H1 := Lib.hid h1; have H2 := Lib.hid h2; have H3 := Lib.hid h3; have H4 := Lib.hid h4
  clear h1 h2 h3 h4
  go_enter Try.func38, Try.ntmps38
  go_wp2_with fail
  obtain ⟨w0, hw0⟩ : ∃ w0, ((w.alloc (.cells #[.slice A n c, .slice B m d, .int .i64 v] 29)).alloc (.cells #[.slice A2 n c2, .slice B2 m d2, .int .i64 v] 29)) = w0 := ⟨_, rfl⟩
  have B0 : Below w.heap.size w w0 := by rw [← hw0]; exact (below_alloc _).alloc (by simp) _
  have C0 : Blk w0 w.heap.size 29 #[.slice A n c, .slice B m d, .int .i64 v] := by rw [← hw0]; exact (Blk.new rfl).alloc _
  have D0 : Blk w0 (w.heap.size + 1) 29 #[.slice A2 n c2, .slice B2 m d2, .int .i64 v] := by rw [← hw0]; exact Blk.new (by simp)
  rw [hw0]
  clear hw0
  refine (longs_is _ _ (H1.out.on B0) (H2.out.on B0) (by omega) (by omega) (v := true) (by simp)).mono ?_
  rintro e w1 ⟨rfl, X1⟩
  have C1 := C0.below X1 C0.lt; have D1 := D0.below X1 D0.lt; have B1 := below_step B0 X1
  obtain ⟨⟨a0, a1, a2⟩, -, hz1⟩ := C1.full3
  obtain ⟨⟨b0, b1, b2⟩, -, hz2⟩ := D1.full3
  clear C0 D0 B0 X1
  go_wp2_with fail
  refine (bools_is _ _ (H3.out.on B1) (H4.out.on B1) (by omega) (v := true) (by simp)).mono ?_
  rintro e w2 ⟨rfl, X2⟩
  have C2 := C1.below X2 C1.lt; have D2 := D1.below X2 D1.lt; have B2 := below_step B1 X2
  clear a0 a1 a2 b0 b1 b2 hz1 hz2
  obtain ⟨⟨a0, a1, a2⟩, -, hz1⟩ := C2.full3
  obtain ⟨⟨b0, b1, b2⟩, -, hz2⟩ := D2.full3
  clear C1 D1 B1 X2
  go_wp2_with fail
  go_ret
  exact ⟨rfl, B2⟩

set_option maxHeartbeats 8000000 in
theorem awake8_is (w : World) : Calls Try.prog 15 #[] w fun e w' => e = .returned (.bool true) ∧ Below w.heap.size w w' := by
  obtain ⟨M1, fst1, hd1, rv1, ai1, cp1, bk1, g1, g2, g3, g4, g5⟩ := net_rowe fw_check
  obtain ⟨M2, fst2, hd2, rv2, ai2, cp2, bk2, k1, k2, k3, k4, k5⟩ := net_rowe tw_check
  have hs1 := fun A n c W (hA : Arcs W W.heap.size A n fourArcs) => fsolve_is 4 M1 0 3 n c A fourArcs fst1 hd1 rv1 ai1 cp1 bk1 W hA fw_check g1 g2 g3 g4 g5
  have hs2 := fun A n c W (hA : Arcs W W.heap.size A n twoArcs) => fsolve_is 2 M2 0 1 n c A twoArcs fst2 hd2 rv2 ai2 cp2 bk2 W hA tw_check k1 k2 k3 k4 k5
  have HS1 := Lib.hid hs1; have HS2 := Lib.hid hs2
  clear hs1 hs2 g1 g2 g3 g4 g5 k1 k2 k3 k4 k5
  go_enter Try.func15, Try.ntmps15
  go_wp2_with fail
  refine (four_any w).mono ?_
  rintro e w1 ⟨A, n, c, rfl, ho, hn, B1⟩
  have a1 := arcs_own ho hn
  have hn5 : n = 5 := hn.symm
  have HA1 := Lib.hid a1; have HN5 := Lib.hid hn5
  clear ho a1 hn hn5
  go_wp2_with fail
  refine (HS1.out A n c w1 HA1.out).mono ?_
  rintro e w2 ⟨gf, gs, F, K, v, σ, rfl, hgg, hbf, hbk, hsol, B2⟩
  obtain ⟨rfl, rfl, rfl⟩ := fw_all hsol
  obtain rfl := HN5.out
  have HSG := Lib.hid hgg; have HBF := Lib.hid hbf; have HBK := Lib.hid hbk
  have Bw2 := below_step B1 B2
  have HB2 := Lib.hid Bw2
  clear hgg hbf hbk hsol B1 B2 Bw2
  go_upto_region 2 with fail
  obtain ⟨w3, hw3⟩ : ∃ w3, ((w2.alloc (.cells #[.slice (some ⟨gf, 0, none⟩) 5 5, .slice (some ⟨gs, 0, none⟩) 4 4, .int .i64 9] 29)).alloc (.cells #[.int .i64 (σ.P : Int), .int .i64 (σ.L : Int)] 31)) = w3 := ⟨_, rfl⟩
  have B23 : Below w2.heap.size w2 w3 := by rw [← hw3]; exact (below_alloc _).alloc (by simp) _
  have C3 : Blk w3 w2.heap.size 29 #[.slice (some ⟨gf, 0, none⟩) 5 5, .slice (some ⟨gs, 0, none⟩) 4 4, .int .i64 9] := by rw [← hw3]; exact (Blk.new rfl).alloc _
  have hF3 := HBF.out.below B23 HBF.out.lt
  have hK3 := HBK.out.below B23 HBK.out.lt
  have hB3 := below_step HB2.out B23
  have HC3 := Lib.hid C3; have HF3 := Lib.hid hF3; have HK3 := Lib.hid hK3; have HB3 := Lib.hid hB3
  rw [hw3]
  have hz3 := C3.lt
  clear hw3 B23 C3 hF3 hK3 hB3
  go_wp2_with fail
  have hA4 : Arcs (w3.alloc (.cells #[.int .i64 0, .int .i64 1, .int .i64 7, .int .i64 1, .int .i64 0, .int .i64 3] 64)) (w3.alloc (.cells #[.int .i64 0, .int .i64 1, .int .i64 7, .int .i64 1, .int .i64 0, .int .i64 3] 64)).heap.size (some ⟨w3.heap.size, 0, none⟩) 2 twoArcs :=
    arcs_own (own_of_block (base := 0) (n := 2) (xs := twoArcs.flatMap arcCells) (Blk.new rfl) (by omega) (by decide) rfl) rfl
  refine (HS2.out _ 2 2 _ hA4).mono ?_
  rintro e w4 ⟨gf2, gs2, F2, K2, v2, σ2, rfl, hgg2, hbf2, hbk2, hsol2, B4⟩
  obtain ⟨rfl, rfl, rfl, hP, hL⟩ := tw_all hsol2
  rw [hP, hL]
  have h34 := below_step (below_alloc _) B4
  have HC4 := Lib.hid (HC3.out.below h34 HC3.out.lt); have HF4 := Lib.hid (HF3.out.below h34 HF3.out.lt); have HK4 := Lib.hid (HK3.out.below h34 HK3.out.lt); have HB4 := Lib.hid (below_step HB3.out h34)
  have HBF2 := Lib.hid hbf2; have HBK2 := Lib.hid hbk2
  have hz4 := HC4.out.lt
  clear hgg2 hbf2 hbk2 hsol2 B4 hP hL h34 hA4
  go_upto_region 3 with fail
  obtain ⟨w5, hw5⟩ : ∃ w5, ((w4.alloc (.cells #[.slice (some ⟨gf2, 0, none⟩) 2 2, .slice (some ⟨gs2, 0, none⟩) 2 2, .int .i64 7] 29)).alloc (.cells #[.int .i64 0, .int .i64 0] 31)) = w5 := ⟨_, rfl⟩
  have B45 : Below w4.heap.size w4 w5 := by rw [← hw5]; exact (below_alloc _).alloc (by simp) _
  have D5 : Blk w5 w4.heap.size 29 #[.slice (some ⟨gf2, 0, none⟩) 2 2, .slice (some ⟨gs2, 0, none⟩) 2 2, .int .i64 7] := by rw [← hw5]; exact (Blk.new rfl).alloc _
  have W5 : Blk w5 (w4.heap.size + 1) 31 #[.int .i64 0, .int .i64 0] := by rw [← hw5]; exact Blk.new (by simp)
  first | rw [hw5] | (simp only [Int.natCast_zero] at hw5 ⊢; rw [hw5])
  have C5 := HC4.out.below B45 HC4.out.lt
  have HF5 := Lib.hid (HF4.out.below B45 HF4.out.lt); have HK5 := Lib.hid (HK4.out.below B45 HK4.out.lt); have HG5 := Lib.hid (HBF2.out.below B45 HBF2.out.lt); have HH5 := Lib.hid (HBK2.out.below B45 HBK2.out.lt)
  have HB5 := Lib.hid (below_step HB4.out B45)
  have HC5 := Lib.hid C5; have HD5 := Lib.hid D5; have HW5 := Lib.hid W5
  obtain ⟨⟨a0, a1, a2⟩, -, hz5⟩ := C5.full3
  have hz6 := D5.lt
  clear hw5 B45 C5 D5 W5
  go_wp2_with fail
  obtain ⟨w6, hw6⟩ : ∃ w6, ((w5.alloc (.cells #[.int .i64 5, .int .i64 4, .int .i64 3, .int .i64 6, .int .i64 2] 2)).alloc (.cells #[.bool true, .bool true, .bool true, .bool false] 4)) = w6 := ⟨_, rfl⟩
  have B56 : Below w5.heap.size w5 w6 := by rw [← hw6]; exact (below_alloc _).alloc (by simp) _
  have I6 : Blk w6 w5.heap.size 2 (ivs [5, 4, 3, 6, 2]) := by rw [← hw6]; exact (Blk.new rfl).alloc _
  have J6 : Blk w6 (w5.heap.size + 1) 4 (bvs [true, true, true, false]) := by rw [← hw6]; exact Blk.new (by simp)
  rw [hw6]
  refine (sameans_yes _ _ _ _ 5 4 _ _ _ _ [5, 4, 3, 6, 2] [true, true, true, false] 9 w6 ((HF5.out.below B56 HF5.out.lt).ints rfl) (I6.ints rfl) ((HK5.out.below B56 HK5.out.lt).bools rfl) (J6.bools rfl) (by omega) (by omega)).mono ?_
  rintro e w7 ⟨rfl, X7⟩
  have h57 := below_step B56 X7
  have HB7 := Lib.hid (below_step HB5.out h57)
  have HD7 := Lib.hid (HD5.out.below h57 HD5.out.lt); have HW7 := Lib.hid (HW5.out.below h57 HW5.out.lt); have HG7 := Lib.hid (HG5.out.below h57 HG5.out.lt); have HH7 := Lib.hid (HH5.out.below h57 HH5.out.lt)
  clear hw6 B56 I6 J6 X7 h57 a0 a1 a2 hz5 hz6
  obtain ⟨⟨a0, a1, a2⟩, -, hz5⟩ := HD7.out.full3
  go_wp2_with fail
  obtain ⟨w8, hw8⟩ : ∃ w8, ((w7.alloc (.cells #[.int .i64 7, .int .i64 0] 2)).alloc (.cells #[.bool true, .bool false] 4)) = w8 := ⟨_, rfl⟩
  have B78 : Below w7.heap.size w7 w8 := by rw [← hw8]; exact (below_alloc _).alloc (by simp) _
  have I8 : Blk w8 w7.heap.size 2 (ivs [7, 0]) := by rw [← hw8]; exact (Blk.new rfl).alloc _
  have J8 : Blk w8 (w7.heap.size + 1) 4 (bvs [true, false]) := by rw [← hw8]; exact Blk.new (by simp)
  rw [hw8]
  refine (sameans_yes _ _ _ _ 2 2 _ _ _ _ [7, 0] [true, false] 7 w8 ((HG7.out.below B78 HG7.out.lt).ints rfl) (I8.ints rfl) ((HH7.out.below B78 HH7.out.lt).bools rfl) (J8.bools rfl) (by omega) (by omega)).mono ?_
  rintro e w9 ⟨rfl, X9⟩
  have h79 := below_step B78 X9
  have W9 := HW7.out.below h79 HW7.out.lt
  have p0 := W9.cell 0; have p1 := W9.cell 1
  simp only [List.getElem?_toArray, List.getElem?_cons_zero, List.getElem?_cons_succ] at p0 p1
  have hz9 := W9.lt
  have HB9 := Lib.hid (below_step HB7.out h79)
  clear hw8 B78 I8 J8 X9 h79 a0 a1 a2 hz5 W9
  go_wp2_with fail
  go_ret
  exact ⟨rfl, HB9.out⟩

end Go.Proofs.Ytfcjmhihheeifaa
