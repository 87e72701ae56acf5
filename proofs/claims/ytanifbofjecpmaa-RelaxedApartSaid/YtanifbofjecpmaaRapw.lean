/- RelaxedApart: the walk. -/
import Derived.BigQuiet
import Derived.Test.YtanifbofjecpmaaRsb
import Derived.Test.YtanifbofjecpmaaRap
import Derived.Test.YtanifbofjecpmaaRaw
import Derived.Test.YtanifbofjecpmaaOpen8
namespace Go.Proofs.Ytanifbofjecpmaa
open Go.RowKit Go.Shelf
set_option maxRecDepth 100000

/-- The first q of a slice of acts. -/
theorem acts_slice (A : Option Addr) (n c q : Nat) (hq : q ≤ c) (W : World) : (Instr.sliceAt 25 (.slice A n c) none (some (.int .i64 (q : Int))) none).run Try.prog W = .ok (.slice A q c) W := by
  have ht : Try.prog.underlying 25 = some (.slice (Try.prog.elem 25)) := by kernel_rfl
  have hs : ∃ s, ∀ W, (sizeOf (Try.prog.elem 25)).run Try.prog W = .ok s W := ⟨9, fun W => by kernel_rfl⟩
  obtain ⟨s, hs⟩ := hs
  rw [run_sliceAt_slice _ _ _ _ _ _ ht, run_slice_h _ _ _ _ _ ht _ _ (by omega) (by omega), hs]
  simp only [Result.andThen, sliced, Nat.zero_mul, Nat.sub_zero, Int.toNat_natCast]
  congr 2
  split
  · rfl
  · cases A with
    | none => rfl
    | some a => obtain ⟨b, o, s⟩ := a; cases s <;> simp [Addr.add]
theorem acts_short {w : World} {B n m : Nat} {A : Option Addr} {l : List ActS} (h : Acts w B A n l) (hm : m ≤ n) : Acts w B A m (l.take m) :=
  ⟨by rw [List.length_take, h.1]; omega, fun h0 => by
    obtain ⟨b, off, e, hb, hc⟩ := h.2 (by omega)
    refine ⟨b, off, e, hb, fun k a ha j u hu => hc k a ?_ j u hu⟩
    rw [List.getElem?_take] at ha
    split at ha
    · exact ha
    · cases ha⟩

theorem Blk.nine {w : World} {g : Nat} {t : TypeId} {v0 v1 v2 v3 v4 v5 v6 v7 v8 : Value} (h : Blk w g t #[v0, v1, v2, v3, v4, v5, v6, v7, v8]) :
    w.cell? ⟨g, 0, none⟩ = some v0 ∧ w.cell? ⟨g, 1, none⟩ = some v1 ∧ w.cell? ⟨g, 2, none⟩ = some v2 ∧ w.cell? ⟨g, 3, none⟩ = some v3 ∧ w.cell? ⟨g, 4, none⟩ = some v4 ∧ w.cell? ⟨g, 5, none⟩ = some v5 ∧ w.cell? ⟨g, 6, none⟩ = some v6 ∧ w.cell? ⟨g, 7, none⟩ = some v7 ∧ w.cell? ⟨g, 8, none⟩ = some v8 := h.at9

/-- A move stored. -/
abbrev put7 (w : World) (g : Nat) (y0 y1 y2 y3 y4 y5 y6 : Value) : World := ((((((w.setCell ⟨g, 0, none⟩ y0).setCell ⟨g, 1, none⟩ y1).setCell ⟨g, 2, none⟩ y2).setCell ⟨g, 3, none⟩ y3).setCell ⟨g, 4, none⟩ y4).setCell ⟨g, 5, none⟩ y5).setCell ⟨g, 6, none⟩ y6
section
variable {w w' : World} {g k B : Nat} {t : TypeId} {cs : Array Value} {x0 x1 x2 x3 x4 x5 x6 y0 y1 y2 y3 y4 y5 y6 : Value}
set_option maxHeartbeats 4000000 in
theorem Blk.put7 (h : Blk w g t #[x0, x1, x2, x3, x4, x5, x6]) : Blk (Proofs.Ytanifbofjecpmaa.put7 w g y0 y1 y2 y3 y4 y5 y6) g t #[y0, y1, y2, y3, y4, y5, y6] := ((((((h.set 0 y0).set 1 y1).set 2 y2).set 3 y3).set 4 y4).set 5 y5).set 6 y6
theorem Blk.far7 (h : Blk w k t cs) (hk : k ≠ g) : Blk (Proofs.Ytanifbofjecpmaa.put7 w g y0 y1 y2 y3 y4 y5 y6) k t cs := ((((((h.far (p := ⟨g, 0, none⟩) hk _).far (p := ⟨g, 1, none⟩) hk _).far (p := ⟨g, 2, none⟩) hk _).far (p := ⟨g, 3, none⟩) hk _).far (p := ⟨g, 4, none⟩) hk _).far (p := ⟨g, 5, none⟩) hk _).far (p := ⟨g, 6, none⟩) hk _
theorem below_put7 (h : Below B w w') (hg : B ≤ g) : Below B w (Proofs.Ytanifbofjecpmaa.put7 w' g y0 y1 y2 y3 y4 y5 y6) := ((((((h.setCell (p := ⟨g, 0, none⟩) hg _).setCell (p := ⟨g, 1, none⟩) hg _).setCell (p := ⟨g, 2, none⟩) hg _).setCell (p := ⟨g, 3, none⟩) hg _).setCell (p := ⟨g, 4, none⟩) hg _).setCell (p := ⟨g, 5, none⟩) hg _).setCell (p := ⟨g, 6, none⟩) hg _
theorem Blk.free7 (h : Blk w g t cs) : w.frozen? ⟨g, 0, none⟩ = false ∧ w.frozen? ⟨g, 1, none⟩ = false ∧ w.frozen? ⟨g, 2, none⟩ = false ∧ w.frozen? ⟨g, 3, none⟩ = false ∧ w.frozen? ⟨g, 4, none⟩ = false ∧ w.frozen? ⟨g, 5, none⟩ = false ∧ w.frozen? ⟨g, 6, none⟩ = false := ⟨h.frozen 0, h.frozen 1, h.frozen 2, h.frozen 3, h.frozen 4, h.frozen 5, h.frozen 6⟩
theorem evs_cell {d e a : EvS} {i j : Nat} {u : Value} (ha : [d, e][i]? = some a) (hu : (evCells a)[j]? = some u) : (evCells d ++ evCells e)[i * 7 + j]? = some u := by
  have hj := (List.getElem?_eq_some_iff.1 hu).1
  have hd7 : (evCells d).length = 7 := rfl
  match i with
  | 0 =>
    rw [List.getElem?_cons_zero] at ha
    injection ha with ha
    subst ha
    rw [Nat.zero_mul, Nat.zero_add, List.getElem?_append_left hj]
    exact hu
  | 1 =>
    rw [List.getElem?_cons_succ, List.getElem?_cons_zero] at ha
    injection ha with ha
    subst ha
    rw [List.getElem?_append_right (by omega), hd7, Nat.one_mul, Nat.add_sub_cancel_left]
    exact hu
  | i + 2 =>
    rw [List.getElem?_cons_succ, List.getElem?_cons_succ] at ha
    simp at ha
theorem evs_two {d e : EvS} (h : Blk w g t ((evCells d ++ evCells e).toArray)) : Evs w w.heap.size (some ⟨g, 0, none⟩) 2 [d, e] :=
  ⟨rfl, fun _ => ⟨g, 0, rfl, h.lt, fun i a ha j u hu => by
    rw [Nat.zero_add, h.cell, List.getElem?_toArray]
    exact evs_cell ha hu⟩⟩
end

set_option maxHeartbeats 16000000 in
theorem rapart_walk (N S T : Int) (A : Option Addr) (n c : Nat) (l : List ArcN) (AU : Option Addr) (nu cu : Nat) (U : List ActS) (qa qb : ActS) (w : World) (hA : Arcs w w.heap.size A n l) (hf : FitsAll l) (hnc : n ≤ c) (hU : Acts w w.heap.size AU nu U) (hcu : nu ≤ cu) :
    Calls Try.prog 5 #[.agg #[.int .i64 N, .int .i64 S, .int .i64 T, .slice A n c], .slice AU nu cu, .agg (actCells qa).toArray, .agg (actCells qb).toArray] w fun e w' => e = .returned (.bool true) ∧ Below w.heap.size w w' := by
  obtain ⟨N1, M, s, t, hso⟩ := some_begun N S T A n c 12 30 l w hA hf hnc (by omega) (by omega) (by omega)
  have HSO := Lib.hid hso; have HU := Lib.hid hU
  clear hso hU hA hf
  obtain ⟨⟨ka0, ka1, ka2, ka3, ka4, ka5, ka6⟩, kar, kaf⟩ := qa
  obtain ⟨⟨kb0, kb1, kb2, kb3, kb4, kb5, kb6⟩, kbr, kbf⟩ := qb
  dsimp only [actCells]
  go_enter Try.func5, Try.ntmps5
  go_wp2_with fail
  obtain ⟨w0, hw0⟩ : ∃ w0, ((w.alloc (.cells #[.int .i64 N, .int .i64 S, .int .i64 T, .slice A n c] 24)).alloc (.cells #[.int .i64 ka0, .int .u8 ka1, .int .i64 ka2, .int .i64 ka3, .int .i64 ka4, .int .i64 ka5, .int .i64 ka6, .bool kar, .int .u8 kaf] 41)).alloc (.cells #[.int .i64 kb0, .int .u8 kb1, .int .i64 kb2, .int .i64 kb3, .int .i64 kb4, .int .i64 kb5, .int .i64 kb6, .bool kbr, .int .u8 kbf] 41) = w0 := ⟨_, rfl⟩
  have B0 : Below w.heap.size w w0 := by rw [← hw0]; exact ((below_alloc _).alloc (by simp) _).alloc (by simp; omega) _
  have KA0 : Blk w0 (w.heap.size + 1) 41 #[.int .i64 ka0, .int .u8 ka1, .int .i64 ka2, .int .i64 ka3, .int .i64 ka4, .int .i64 ka5, .int .i64 ka6, .bool kar, .int .u8 kaf] := by rw [← hw0]; exact (Blk.new (by simp)).alloc _
  have KB0 : Blk w0 (w.heap.size + 1 + 1) 41 #[.int .i64 kb0, .int .u8 kb1, .int .i64 kb2, .int .i64 kb3, .int .i64 kb4, .int .i64 kb5, .int .i64 kb6, .bool kbr, .int .u8 kbf] := by rw [← hw0]; exact Blk.new (by simp)
  rw [hw0]
  clear hw0
  refine (HSO.out _ B0).mono ?_
  rintro e w1 ⟨v, rfl, B1, hbg⟩
  have HBG := Lib.hid hbg
  have B01 := below_step B0 B1
  have KA1 := KA0.below B1 KA0.lt; have KB1 := KB0.below B1 KB0.lt
  clear hbg HSO KA0 KB0 B0 B1
  go_wp2_with fail
  refine (HBG.out _ (Below.refl _ _)).mono ?_
  rintro e w2 ⟨x0, K, Q, fst, hd, rv, ai, cp, bk, X, E, rfl, hP, hI, hR, hS, hx0, B2⟩
  have B02 := below_step B01 B2
  have hI2 := hI.more hR.bas
  have hQ2 := hR.st hS.bal.1 hS.le hS.lh
  have hN := hP.nN; have hM := hP.nM; have hn2 := hP.n2
  have HP := Lib.hid hP; have HI := Lib.hid hI2; have HQ := Lib.hid hQ2; have HS := Lib.hid hS; have HB := Lib.hid B02
  have HKA := Lib.hid (KA1.below B2 KA1.lt); have HKB := Lib.hid (KB1.below B2 KB1.lt)
  generalize begH N1 s = H at *
  clear hP hI hR hS hI2 hQ2 B01 B02 B2 HBG hx0 KA1 KB1
  obtain ⟨q, hq⟩ : ∃ q, min nu 40 = q := ⟨_, rfl⟩
  have HUQ := Lib.hid (acts_short (m := q) ((HU.out.below HB.out).more HB.out.size) (by omega))
  obtain ⟨L, hL⟩ : ∃ L, U.take q = L := ⟨_, rfl⟩
  rw [hL] at HUQ
  clear HU hL
  have hsl := acts_slice AU nu cu q (by omega)
  have hm1 : (if (nu : Int) < 40 then (nu : Int) else (40 : Int)) = (q : Int) := by rw [← hq]; split <;> omega
  have hm2 : (if nu < 40 then (nu : Int) else (40 : Int)) = (q : Int) := by rw [← hq]; split <;> omega
  have hm3 : min (nu : Int) 40 = (q : Int) := by omega
  have hm4 : (if (40 : Int) < (nu : Int) then (40 : Int) else (nu : Int)) = (q : Int) := by rw [← hq]; split <;> omega
  have hm5 : (if 40 < nu then (40 : Int) else (nu : Int)) = (q : Int) := by rw [← hq]; split <;> omega
  have h0q : (0 : Int) ≤ (q : Int) := by omega
  have hqc : (q : Int) ≤ (cu : Int) := by omega
  have hq40 : q ≤ 40 := by omega
  clear hq
  obtain ⟨AF, cF, AH, cH, AR, cR, AC, cC, AA, cA, AB, cB⟩ := K
  have hfi := fun (Q : PreS) X E H ev raw fit W (hb : Below w2.heap.size w2 W) (hq : StIn W W.heap.size M N1 N1 Q X E H) => fitted_is N1 M s t ⟨AF, cF, AH, cH, AR, cR, AC, cC, AA, cA, AB, cB⟩ Q fst hd rv X E H ev raw fit W HP.out.g ((HI.out.below hb).more hb.size).gi hq hN hn2 hM
  have hmo := fun (Q : PreS) X E H ev W (hb : Below w2.heap.size w2 W) (hq : StIn W W.heap.size M N1 N1 Q X E H) hs => rmove_is N1 M s t ⟨AF, cF, AH, cH, AR, cR, AC, cC, AA, cA, AB, cB⟩ Q fst hd rv ai cp bk X E H ev W HP.out ((HI.out.below hb).more hb.size).gi hq hs
  have hle := fun (Q : PreS) X E H ev W (hb : Below w2.heap.size w2 W) (hq : StIn W W.heap.size M N1 N1 Q X E H) => rlegal_is N1 M s t ⟨AF, cF, AH, cH, AR, cR, AC, cC, AA, cA, AB, cB⟩ Q fst hd rv X E H ev W HP.out.g ((HI.out.below hb).more hb.size).gi hq hN
  have HFI := Lib.hid hfi; have HMO := Lib.hid hmo; have HLE := Lib.hid hle; have HSL := Lib.hid hsl
  clear hfi hmo hle hsl
  dsimp only [csrW, preW, actW, evW] at HFI HMO HLE ⊢
  go_upto_region 2 with fail
  obtain ⟨w3, hw3⟩ : ∃ w3, ((w2.alloc (.cells #[.int .i64 (N1 : Int), .int .i64 (s : Int), .int .i64 (t : Int), .slice AF (N1 + 1) cF, .slice AH M cH, .slice AR M cR, .slice AC M cC, .slice AA M cA, .slice AB M cB] 32)).alloc (.cells #[.slice Q.AX M Q.cX, .slice Q.AE N1 Q.cE, .slice Q.AH N1 Q.cH] 29)) = w3 := ⟨_, rfl⟩
  have B3 : Below w2.heap.size w2 w3 := by rw [← hw3]; exact (below_alloc _).alloc (by simp) _
  have V3 : LpI w2 N1 M s t ⟨AF, cF, AH, cH, AR, cR, AC, cC, AA, cA, AB, cB⟩ hd rv cp w2.heap.size (w2.heap.size + 1) Q X E H w3 := by
    refine ⟨B3, ?_, ?_, HQ.out.on B3, HS.out⟩
    · rw [← hw3]; exact (Blk.new rfl).alloc _
    · rw [← hw3]; exact Blk.new (by simp)
  rw [hw3]
  clear hw3 B3 HQ HS
  have HX := HSL.out
  go_wp2_with fail
  go_loopw [12, 36] (fun _ i wr => ∃ (k : Nat) (Q : PreS) (X E H : List Int), k ≤ q ∧ i = .int .i64 k ∧ LpI w2 N1 M s t ⟨AF, cF, AH, cH, AR, cR, AC, cC, AA, cA, AB, cB⟩ hd rv cp w2.heap.size (w2.heap.size + 1) Q X E H wr) (fun _ i _ => q - (intOf i).toNat)
  case atStart => exact ⟨0, Q, X, E, H, Nat.zero_le _, rfl, V3⟩
  case round =>
    clear V3 HX
    obtain ⟨k, Q, X, E, H, hk, rfl, V⟩ := hrel
    by_cases hlt : k < q
    · obtain ⟨b, off, ⟨⟨j0, j1, j2, j3, j4, j5, j6⟩, jr, jf⟩, rfl, hbl, hla, a0, a1, a2, a3, a4, a5, a6, a7, a8⟩ := acts_at (HUQ.out.below V.bel) hlt
      dsimp only at a0 a1 a2 a3 a4 a5 a6 a7 a8
      have zb : b < wr.heap.size := by have := V.bel.size; omega
      have HV := Lib.hid V
      clear V hla
      go_upto_region 5 with fail
      obtain ⟨gj, hgj⟩ : ∃ g, wr.heap.size = g := ⟨_, rfl⟩
      obtain ⟨wb, hwb⟩ : ∃ wb, wr.alloc (.cells #[.int .i64 j0, .int .u8 j1, .int .i64 j2, .int .i64 j3, .int .i64 j4, .int .i64 j5, .int .i64 j6, .bool jr, .int .u8 jf] 41) = wb := ⟨_, rfl⟩
      have hJb : Blk wb gj 41 #[.int .i64 j0, .int .u8 j1, .int .i64 j2, .int .i64 j3, .int .i64 j4, .int .i64 j5, .int .i64 j6, .bool jr, .int .u8 jf] := by rw [← hwb]; exact Blk.new hgj
      have Vb := HV.out.on (W' := wb) (by rw [← hwb]; exact below_alloc _)
      have hgP : gj ≠ w2.heap.size + 1 := by have := HV.out.p.lt; omega
      rw [hwb]
      rw [hgj]
      clear hwb hgj HV zb hbl a0 a1 a2 a3 a4 a5 a6 a7 a8
      have hkeep : ∀ W', Below wb.heap.size wb W' → W'.cell? ⟨w2.heap.size, 0, none⟩ = some (.int .i64 (N1 : Int)) ∧ W'.cell? ⟨w2.heap.size, 1, none⟩ = some (.int .i64 (s : Int)) ∧ W'.cell? ⟨w2.heap.size, 2, none⟩ = some (.int .i64 (t : Int)) ∧ W'.cell? ⟨w2.heap.size, 3, none⟩ = some (.slice AF (N1 + 1) cF) ∧ W'.cell? ⟨w2.heap.size, 4, none⟩ = some (.slice AH M cH) ∧ W'.cell? ⟨w2.heap.size, 5, none⟩ = some (.slice AR M cR) ∧ W'.cell? ⟨w2.heap.size, 6, none⟩ = some (.slice AC M cC) ∧ W'.cell? ⟨w2.heap.size, 7, none⟩ = some (.slice AA M cA) ∧ W'.cell? ⟨w2.heap.size, 8, none⟩ = some (.slice AB M cB) ∧ W'.cell? ⟨gj, 0, none⟩ = some (.int .i64 j0) ∧ W'.cell? ⟨gj, 1, none⟩ = some (.int .u8 j1) ∧ W'.cell? ⟨gj, 2, none⟩ = some (.int .i64 j2) ∧ W'.cell? ⟨gj, 3, none⟩ = some (.int .i64 j3) ∧ W'.cell? ⟨gj, 4, none⟩ = some (.int .i64 j4) ∧ W'.cell? ⟨gj, 5, none⟩ = some (.int .i64 j5) ∧ W'.cell? ⟨gj, 6, none⟩ = some (.int .i64 j6) ∧ W'.cell? ⟨gj, 7, none⟩ = some (.bool jr) ∧ W'.cell? ⟨gj, 8, none⟩ = some (.int .u8 jf) := fun W' hb => by
        obtain ⟨c0, c1, c2, c3, c4, c5, c6, c7, c8⟩ := (Vb.c.below hb Vb.c.lt).nine
        obtain ⟨a0, a1, a2, a3, a4, a5, a6, a7, a8⟩ := (hJb.below hb hJb.lt).nine
        exact ⟨c0, c1, c2, c3, c4, c5, c6, c7, c8, a0, a1, a2, a3, a4, a5, a6, a7, a8⟩
      have HKEEP := Lib.hid hkeep; have HV := Lib.hid Vb; have HJ := Lib.hid hJb
      clear hkeep Vb hJb
      refine wp_region_held_drew (S := fun W' => W'.cell? ⟨w2.heap.size, 0, none⟩ = some (.int .i64 (N1 : Int)) ∧ W'.cell? ⟨w2.heap.size, 1, none⟩ = some (.int .i64 (s : Int)) ∧ W'.cell? ⟨w2.heap.size, 2, none⟩ = some (.int .i64 (t : Int)) ∧ W'.cell? ⟨w2.heap.size, 3, none⟩ = some (.slice AF (N1 + 1) cF) ∧ W'.cell? ⟨w2.heap.size, 4, none⟩ = some (.slice AH M cH) ∧ W'.cell? ⟨w2.heap.size, 5, none⟩ = some (.slice AR M cR) ∧ W'.cell? ⟨w2.heap.size, 6, none⟩ = some (.slice AC M cC) ∧ W'.cell? ⟨w2.heap.size, 7, none⟩ = some (.slice AA M cA) ∧ W'.cell? ⟨w2.heap.size, 8, none⟩ = some (.slice AB M cB) ∧ W'.cell? ⟨gj, 0, none⟩ = some (.int .i64 j0) ∧ W'.cell? ⟨gj, 1, none⟩ = some (.int .u8 j1) ∧ W'.cell? ⟨gj, 2, none⟩ = some (.int .i64 j2) ∧ W'.cell? ⟨gj, 3, none⟩ = some (.int .i64 j3) ∧ W'.cell? ⟨gj, 4, none⟩ = some (.int .i64 j4) ∧ W'.cell? ⟨gj, 5, none⟩ = some (.int .i64 j5) ∧ W'.cell? ⟨gj, 6, none⟩ = some (.int .i64 j6) ∧ W'.cell? ⟨gj, 7, none⟩ = some (.bool jr) ∧ W'.cell? ⟨gj, 8, none⟩ = some (.int .u8 jf)) (by kernel_rfl) (HKEEP.out _ (Below.refl _ _).drew) (fun hS0 => ?_)
      obtain ⟨W, hW⟩ : ∃ W, wb.drew = W := ⟨_, rfl⟩
      have B : Below wb.heap.size wb W := by rw [← hW]; exact (Below.refl _ _).drew
      rw [hW] at hS0 ⊢
      clear hW
      refine tk (v := ?_) 0 41 rfl ?_ ?_
      rotate_left
      · (intro W hSw; obtain ⟨c0, c1, c2, c3, c4, c5, c6, c7, c8, a0, a1, a2, a3, a4, a5, a6, a7, a8⟩ := hSw; go_simp; try with_reducible rfl)
      simp only [Act.put, pa, pz, ps]
      refine tk (v := ?_) 2 43 rfl ?_ ?_
      rotate_left
      · (intro W hSw; obtain ⟨c0, c1, c2, c3, c4, c5, c6, c7, c8, a0, a1, a2, a3, a4, a5, a6, a7, a8⟩ := hSw; go_simp; try with_reducible rfl)
      simp only [Act.put, pa, pz, ps]
      refine tk (v := ?_) 4 45 rfl ?_ ?_
      rotate_left
      · (intro W hSw; obtain ⟨c0, c1, c2, c3, c4, c5, c6, c7, c8, a0, a1, a2, a3, a4, a5, a6, a7, a8⟩ := hSw; go_simp; try with_reducible rfl)
      simp only [Act.put, pa, pz, ps]
      refine (have r111 : Hid ?Tr111 := ?pr111; ?mr111)
      case mr111 =>
       refine (have r011 : Hid ?Tr011 := ?pr011; ?mr011)
       case mr011 =>
        refine (have r110 : Hid ?Tr110 := ?pr110; ?mr110)
        case mr110 =>
         refine (have r010 : Hid ?Tr010 := ?pr010; ?mr010)
         case mr010 =>
          refine (have r100 : Hid ?Tr100 := ?pr100; ?mr100)
          case mr100 =>
           refine wpAnyH_ready (rs := [1, 3]) (by kernel_rfl) (by simp) ?_
           refine (AllReadyH.cons rfl (fun K hK => ?_) (AllReadyH.cons rfl (fun K hK => ?_) AllReadyH.nil))
           · skip
             obtain ⟨⟨p0, p1, p2⟩, -, zp⟩ := (HV.out.p.below B HV.out.p.lt).full3
             go_simp
             refine hK.out _ _ (HKEEP.out _ B) (fun hSx => ?_)
             clear hK K hSx p0 p1 p2 zp
             try simp only [Act.put, pa, pz, ps]
             obtain ⟨V, hV⟩ : ∃ V, W = V := ⟨_, rfl⟩
             have xB := B
             rw [hV] at xB ⊢
             clear hV
             obtain ⟨W, rfl⟩ : ∃ W, W = V := ⟨_, rfl⟩
             have B := xB
             clear xB
             revert B
             revert W
             exact r100.out
           · skip
             obtain ⟨⟨p0, p1, p2⟩, -, zp⟩ := (HV.out.p.below B HV.out.p.lt).full3
             go_simp
             refine hK.out _ _ (HKEEP.out _ B) (fun hSx => ?_)
             clear hK K hSx p0 p1 p2 zp
             try simp only [Act.put, pa, pz, ps]
             obtain ⟨V, hV⟩ : ∃ V, W = V := ⟨_, rfl⟩
             have xB := B
             rw [hV] at xB ⊢
             clear hV
             obtain ⟨W, rfl⟩ : ∃ W, W = V := ⟨_, rfl⟩
             have B := xB
             clear xB
             revert B
             revert W
             exact r010.out
          case pr100 =>
           refine Lib.hid ?_
           intro W B
           have hS0 := HKEEP.out _ B
           refine wpAnyH_ready (rs := [3]) (by kernel_rfl) (by simp) ?_
           refine (AllReadyH.cons rfl (fun K hK => ?_) AllReadyH.nil)
           · skip
             obtain ⟨⟨p0, p1, p2⟩, -, zp⟩ := (HV.out.p.below B HV.out.p.lt).full3
             go_simp
             refine hK.out _ _ (HKEEP.out _ B) (fun hSx => ?_)
             clear hK K hSx hS0 p0 p1 p2 zp
             try simp only [Act.put, pa, pz, ps]
             revert B
             revert W
             exact r110.out
         case pr010 =>
          refine Lib.hid ?_
          intro W B
          have hS0 := HKEEP.out _ B
          refine wpAnyH_ready (rs := [1, 5]) (by kernel_rfl) (by simp) ?_
          refine (AllReadyH.cons rfl (fun K hK => ?_) (AllReadyH.cons rfl (fun K hK => ?_) AllReadyH.nil))
          · skip
            obtain ⟨⟨p0, p1, p2⟩, -, zp⟩ := (HV.out.p.below B HV.out.p.lt).full3
            go_simp
            refine hK.out _ _ (HKEEP.out _ B) (fun hSx => ?_)
            clear hK K hSx hS0 p0 p1 p2 zp
            try simp only [Act.put, pa, pz, ps]
            revert B
            revert W
            exact r110.out
          · skip
            go_simp
            refine (HFI.out Q X E H ⟨j0, j1, j2, j3, j4, j5, j6⟩ jr jf _ (HV.out.on B).bel (HV.out.on B).st).mono ?_
            rintro e V ⟨⟨v0, v1, v2, v3, v4, v5, v6⟩, rfl, B9⟩
            have xB := below_step B B9
            refine hK.out _ _ (HKEEP.out _ xB) (fun hSx => ?_)
            clear hK K hSx hS0 B B9
            try simp only [Act.put, pa, pz, ps]
            clear W
            obtain ⟨W, rfl⟩ : ∃ W, W = V := ⟨_, rfl⟩
            have B := xB
            clear xB
            revert B
            revert W
            revert v6
            revert v5
            revert v4
            revert v3
            revert v2
            revert v1
            revert v0
            exact r011.out
        case pr110 =>
         refine Lib.hid ?_
         intro W B
         have hS0 := HKEEP.out _ B
         refine wpAnyH_ready (rs := [5]) (by kernel_rfl) (by simp) ?_
         refine (AllReadyH.cons rfl (fun K hK => ?_) AllReadyH.nil)
         · skip
           go_simp
           refine (HFI.out Q X E H ⟨j0, j1, j2, j3, j4, j5, j6⟩ jr jf _ (HV.out.on B).bel (HV.out.on B).st).mono ?_
           rintro e V ⟨⟨v0, v1, v2, v3, v4, v5, v6⟩, rfl, B9⟩
           have xB := below_step B B9
           refine hK.out _ _ (HKEEP.out _ xB) (fun hSx => ?_)
           clear hK K hSx hS0 B B9
           try simp only [Act.put, pa, pz, ps]
           clear W
           obtain ⟨W, rfl⟩ : ∃ W, W = V := ⟨_, rfl⟩
           have B := xB
           clear xB
           revert B
           revert W
           revert v6
           revert v5
           revert v4
           revert v3
           revert v2
           revert v1
           revert v0
           exact r111.out
       case pr011 =>
        refine Lib.hid ?_
        intro v0 v1 v2 v3 v4 v5 v6 W B
        have hS0 := HKEEP.out _ B
        refine wpAnyH_ready (rs := [1]) (by kernel_rfl) (by simp) ?_
        refine (AllReadyH.cons rfl (fun K hK => ?_) AllReadyH.nil)
        · skip
          obtain ⟨⟨p0, p1, p2⟩, -, zp⟩ := (HV.out.p.below B HV.out.p.lt).full3
          go_simp
          refine hK.out _ _ (HKEEP.out _ B) (fun hSx => ?_)
          clear hK K hSx hS0 p0 p1 p2 zp
          try simp only [Act.put, pa, pz, ps]
          revert B
          revert W
          revert v6
          revert v5
          revert v4
          revert v3
          revert v2
          revert v1
          revert v0
          exact r111.out
      case pr111 =>
       refine Lib.hid ?_
       intro v0 v1 v2 v3 v4 v5 v6 W B
       have hS0 := HKEEP.out _ B
       refine wpAnyH_ready (rs := [6]) (by kernel_rfl) (by simp) ?_
       refine AllReadyH.cons rfl (fun K hK => ?_) AllReadyH.nil
       go_simp
       have V1 := HV.out.on B
       refine (HMO.out Q X E H ⟨v0, v1, v2, v3, v4, v5, v6⟩ _ V1.bel V1.st V1.snd).mono ?_
       rintro e V ⟨Q', rfl, B9, st9⟩
       have xB := below_step B B9
       have hnx := V1.snd.next (fst := fst) HP.out ⟨v0, v1, v2, v3, v4, v5, v6⟩
       generalize nxX N1 s t fst rv X E H ⟨v0, v1, v2, v3, v4, v5, v6⟩ = X' at *
       generalize nxE N1 s t fst hd rv X E H ⟨v0, v1, v2, v3, v4, v5, v6⟩ = E' at *
       generalize nxH N1 s t fst X E H ⟨v0, v1, v2, v3, v4, v5, v6⟩ = H' at *
       generalize legI N1 s t fst X E H ⟨v0, v1, v2, v3, v4, v5, v6⟩ = L9 at *
       refine hK.out _ _ (HKEEP.out _ xB) (fun hS1 => ?_)
       clear hK K hS0 B V1
       have R9 := (HV.out.on xB).put (by omega) (by omega) st9 hnx
       have hJ9 := (HJ.out.below xB HJ.out.lt).far3 (x := .slice Q'.AX M Q'.cX) (y := .slice Q'.AE N1 Q'.cE) (z := .slice Q'.AH N1 Q'.cH) hgP
       obtain ⟨⟨p0, p1, p2⟩, ⟨f0, f1, f2⟩, zp⟩ := (HV.out.p.below xB HV.out.p.lt).full3
       have HR9 := Lib.hid R9; have HJ9 := Lib.hid hJ9
       clear B9 st9 hnx R9 hJ9 xB
       dsimp only [preW]
       try simp only [Act.put, pa, pz, ps]
       refine tk (v := ?_) 7 40 rfl ?_ ?_
       rotate_left
       · (intro W hSw; go_simp; try with_reducible rfl)
       simp only [Act.put, pa, pz, ps]
       refine tk (v := ?_) 8 48 rfl ?_ ?_
       rotate_left
       · (intro W hSw; go_simp; try with_reducible rfl)
       simp only [Act.put, pa, pz, ps]
       refine tk (v := ?_) 9 49 rfl ?_ ?_
       rotate_left
       · (intro W hSw; go_simp; try with_reducible rfl)
       simp only [Act.put, pa, pz, ps]
       refine wpAnyH_ready (rs := [10]) (by kernel_rfl) (by simp) ?_
       refine AllReadyH.cons rfl (fun K hK => ?_) AllReadyH.nil
       go_simp
       refine hK.out _ _ (by
         obtain ⟨c0, c1, c2, c3, c4, c5, c6, c7, c8⟩ := HR9.out.c.nine
         obtain ⟨a0, a1, a2, a3, a4, a5, a6, a7, a8⟩ := HJ9.out.nine
         exact ⟨c0, c1, c2, c3, c4, c5, c6, c7, c8, a0, a1, a2, a3, a4, a5, a6, a7, a8⟩) (fun hSy => ?_)
       clear hK K hSy hS1 p0 p1 p2 f0 f1 f2 zp
       refine wpAnyH_done (by kernel_rfl) ?_ _
       go_wp2_with fail
       go_roundw
       case rel => exact ⟨k + 1, Q', X', E', H', by omega, by go_num, HR9.out⟩
       case measure => simp [intOf]; omega
    · skip
      obtain ⟨AX, cX, AE, cE, AHH, cHH⟩ := Q
      have hkeep : ∀ W', Below wr.heap.size wr W' → W'.cell? ⟨w2.heap.size, 0, none⟩ = some (.int .i64 (N1 : Int)) ∧ W'.cell? ⟨w2.heap.size, 1, none⟩ = some (.int .i64 (s : Int)) ∧ W'.cell? ⟨w2.heap.size, 2, none⟩ = some (.int .i64 (t : Int)) ∧ W'.cell? ⟨w2.heap.size, 3, none⟩ = some (.slice AF (N1 + 1) cF) ∧ W'.cell? ⟨w2.heap.size, 4, none⟩ = some (.slice AH M cH) ∧ W'.cell? ⟨w2.heap.size, 5, none⟩ = some (.slice AR M cR) ∧ W'.cell? ⟨w2.heap.size, 6, none⟩ = some (.slice AC M cC) ∧ W'.cell? ⟨w2.heap.size, 7, none⟩ = some (.slice AA M cA) ∧ W'.cell? ⟨w2.heap.size, 8, none⟩ = some (.slice AB M cB) ∧ W'.cell? ⟨w2.heap.size + 1, 0, none⟩ = some (.slice AX M cX) ∧ W'.cell? ⟨w2.heap.size + 1, 1, none⟩ = some (.slice AE N1 cE) ∧ W'.cell? ⟨w2.heap.size + 1, 2, none⟩ = some (.slice AHH N1 cHH) ∧ W'.cell? ⟨w.heap.size + 1, 0, none⟩ = some (.int .i64 ka0) ∧ W'.cell? ⟨w.heap.size + 1, 1, none⟩ = some (.int .u8 ka1) ∧ W'.cell? ⟨w.heap.size + 1, 2, none⟩ = some (.int .i64 ka2) ∧ W'.cell? ⟨w.heap.size + 1, 3, none⟩ = some (.int .i64 ka3) ∧ W'.cell? ⟨w.heap.size + 1, 4, none⟩ = some (.int .i64 ka4) ∧ W'.cell? ⟨w.heap.size + 1, 5, none⟩ = some (.int .i64 ka5) ∧ W'.cell? ⟨w.heap.size + 1, 6, none⟩ = some (.int .i64 ka6) ∧ W'.cell? ⟨w.heap.size + 1, 7, none⟩ = some (.bool kar) ∧ W'.cell? ⟨w.heap.size + 1, 8, none⟩ = some (.int .u8 kaf) ∧ W'.cell? ⟨w.heap.size + 1 + 1, 0, none⟩ = some (.int .i64 kb0) ∧ W'.cell? ⟨w.heap.size + 1 + 1, 1, none⟩ = some (.int .u8 kb1) ∧ W'.cell? ⟨w.heap.size + 1 + 1, 2, none⟩ = some (.int .i64 kb2) ∧ W'.cell? ⟨w.heap.size + 1 + 1, 3, none⟩ = some (.int .i64 kb3) ∧ W'.cell? ⟨w.heap.size + 1 + 1, 4, none⟩ = some (.int .i64 kb4) ∧ W'.cell? ⟨w.heap.size + 1 + 1, 5, none⟩ = some (.int .i64 kb5) ∧ W'.cell? ⟨w.heap.size + 1 + 1, 6, none⟩ = some (.int .i64 kb6) ∧ W'.cell? ⟨w.heap.size + 1 + 1, 7, none⟩ = some (.bool kbr) ∧ W'.cell? ⟨w.heap.size + 1 + 1, 8, none⟩ = some (.int .u8 kbf) := fun W' hb => by
        obtain ⟨c0, c1, c2, c3, c4, c5, c6, c7, c8⟩ := (V.c.below hb V.c.lt).nine
        obtain ⟨⟨p0, p1, p2⟩, -, -⟩ := (V.p.below hb V.p.lt).full3
        obtain ⟨a0, a1, a2, a3, a4, a5, a6, a7, a8⟩ := (HKA.out.below (below_step V.bel hb) HKA.out.lt).nine
        obtain ⟨b0, b1, b2, b3, b4, b5, b6, b7, b8⟩ := (HKB.out.below (below_step V.bel hb) HKB.out.lt).nine
        exact ⟨c0, c1, c2, c3, c4, c5, c6, c7, c8, p0, p1, p2, a0, a1, a2, a3, a4, a5, a6, a7, a8, b0, b1, b2, b3, b4, b5, b6, b7, b8⟩
      have HKEEP := Lib.hid hkeep; have HV := Lib.hid V
      clear hkeep V HUQ HMO HKA HKB
      go_upto_region 7 with fail
      refine wp_region_held_drew (S := fun W' => W'.cell? ⟨w2.heap.size, 0, none⟩ = some (.int .i64 (N1 : Int)) ∧ W'.cell? ⟨w2.heap.size, 1, none⟩ = some (.int .i64 (s : Int)) ∧ W'.cell? ⟨w2.heap.size, 2, none⟩ = some (.int .i64 (t : Int)) ∧ W'.cell? ⟨w2.heap.size, 3, none⟩ = some (.slice AF (N1 + 1) cF) ∧ W'.cell? ⟨w2.heap.size, 4, none⟩ = some (.slice AH M cH) ∧ W'.cell? ⟨w2.heap.size, 5, none⟩ = some (.slice AR M cR) ∧ W'.cell? ⟨w2.heap.size, 6, none⟩ = some (.slice AC M cC) ∧ W'.cell? ⟨w2.heap.size, 7, none⟩ = some (.slice AA M cA) ∧ W'.cell? ⟨w2.heap.size, 8, none⟩ = some (.slice AB M cB) ∧ W'.cell? ⟨w2.heap.size + 1, 0, none⟩ = some (.slice AX M cX) ∧ W'.cell? ⟨w2.heap.size + 1, 1, none⟩ = some (.slice AE N1 cE) ∧ W'.cell? ⟨w2.heap.size + 1, 2, none⟩ = some (.slice AHH N1 cHH) ∧ W'.cell? ⟨w.heap.size + 1, 0, none⟩ = some (.int .i64 ka0) ∧ W'.cell? ⟨w.heap.size + 1, 1, none⟩ = some (.int .u8 ka1) ∧ W'.cell? ⟨w.heap.size + 1, 2, none⟩ = some (.int .i64 ka2) ∧ W'.cell? ⟨w.heap.size + 1, 3, none⟩ = some (.int .i64 ka3) ∧ W'.cell? ⟨w.heap.size + 1, 4, none⟩ = some (.int .i64 ka4) ∧ W'.cell? ⟨w.heap.size + 1, 5, none⟩ = some (.int .i64 ka5) ∧ W'.cell? ⟨w.heap.size + 1, 6, none⟩ = some (.int .i64 ka6) ∧ W'.cell? ⟨w.heap.size + 1, 7, none⟩ = some (.bool kar) ∧ W'.cell? ⟨w.heap.size + 1, 8, none⟩ = some (.int .u8 kaf) ∧ W'.cell? ⟨w.heap.size + 1 + 1, 0, none⟩ = some (.int .i64 kb0) ∧ W'.cell? ⟨w.heap.size + 1 + 1, 1, none⟩ = some (.int .u8 kb1) ∧ W'.cell? ⟨w.heap.size + 1 + 1, 2, none⟩ = some (.int .i64 kb2) ∧ W'.cell? ⟨w.heap.size + 1 + 1, 3, none⟩ = some (.int .i64 kb3) ∧ W'.cell? ⟨w.heap.size + 1 + 1, 4, none⟩ = some (.int .i64 kb4) ∧ W'.cell? ⟨w.heap.size + 1 + 1, 5, none⟩ = some (.int .i64 kb5) ∧ W'.cell? ⟨w.heap.size + 1 + 1, 6, none⟩ = some (.int .i64 kb6) ∧ W'.cell? ⟨w.heap.size + 1 + 1, 7, none⟩ = some (.bool kbr) ∧ W'.cell? ⟨w.heap.size + 1 + 1, 8, none⟩ = some (.int .u8 kbf)) (by kernel_rfl) (HKEEP.out _ (Below.refl _ _).drew) (fun hS0 => ?_)
      obtain ⟨W, hW⟩ : ∃ W, wr.drew = W := ⟨_, rfl⟩
      have B : Below wr.heap.size wr W := by rw [← hW]; exact (Below.refl _ _).drew
      rw [hW] at hS0 ⊢
      clear hW
      refine tk (v := ?_) 0 51 rfl ?_ ?_
      rotate_left
      · (intro W hSw; obtain ⟨c0, c1, c2, c3, c4, c5, c6, c7, c8, p0, p1, p2, a0, a1, a2, a3, a4, a5, a6, a7, a8, b0, b1, b2, b3, b4, b5, b6, b7, b8⟩ := hSw; go_simp; try with_reducible rfl)
      simp only [Act.put, pa, pz, ps]
      refine tk (v := ?_) 1 52 rfl ?_ ?_
      rotate_left
      · (intro W hSw; obtain ⟨c0, c1, c2, c3, c4, c5, c6, c7, c8, p0, p1, p2, a0, a1, a2, a3, a4, a5, a6, a7, a8, b0, b1, b2, b3, b4, b5, b6, b7, b8⟩ := hSw; go_simp; try with_reducible rfl)
      simp only [Act.put, pa, pz, ps]
      refine tk (v := ?_) 2 53 rfl ?_ ?_
      rotate_left
      · (intro W hSw; obtain ⟨c0, c1, c2, c3, c4, c5, c6, c7, c8, p0, p1, p2, a0, a1, a2, a3, a4, a5, a6, a7, a8, b0, b1, b2, b3, b4, b5, b6, b7, b8⟩ := hSw; go_simp; try with_reducible rfl)
      simp only [Act.put, pa, pz, ps]
      refine tk (v := ?_) 4 55 rfl ?_ ?_
      rotate_left
      · (intro W hSw; obtain ⟨c0, c1, c2, c3, c4, c5, c6, c7, c8, p0, p1, p2, a0, a1, a2, a3, a4, a5, a6, a7, a8, b0, b1, b2, b3, b4, b5, b6, b7, b8⟩ := hSw; go_simp; try with_reducible rfl)
      simp only [Act.put, pa, pz, ps]
      refine tk (v := ?_) 5 56 rfl ?_ ?_
      rotate_left
      · (intro W hSw; obtain ⟨c0, c1, c2, c3, c4, c5, c6, c7, c8, p0, p1, p2, a0, a1, a2, a3, a4, a5, a6, a7, a8, b0, b1, b2, b3, b4, b5, b6, b7, b8⟩ := hSw; go_simp; try with_reducible rfl)
      simp only [Act.put, pa, pz, ps]
      refine tk (v := ?_) 6 57 rfl ?_ ?_
      rotate_left
      · (intro W hSw; obtain ⟨c0, c1, c2, c3, c4, c5, c6, c7, c8, p0, p1, p2, a0, a1, a2, a3, a4, a5, a6, a7, a8, b0, b1, b2, b3, b4, b5, b6, b7, b8⟩ := hSw; go_simp; try with_reducible rfl)
      simp only [Act.put, pa, pz, ps]
      refine (have q211 : Hid ?Tq211 := ?pq211; ?mq211)
      case mq211 =>
       refine (have q210 : Hid ?Tq210 := ?pq210; ?mq210)
       case mq210 =>
        refine (have q201 : Hid ?Tq201 := ?pq201; ?mq201)
        case mq201 =>
         refine (have q111 : Hid ?Tq111 := ?pq111; ?mq111)
         case mq111 =>
          refine (have q200 : Hid ?Tq200 := ?pq200; ?mq200)
          case mq200 =>
           refine (have q110 : Hid ?Tq110 := ?pq110; ?mq110)
           case mq110 =>
            refine (have q101 : Hid ?Tq101 := ?pq101; ?mq101)
            case mq101 =>
             refine (have q011 : Hid ?Tq011 := ?pq011; ?mq011)
             case mq011 =>
              refine (have q100 : Hid ?Tq100 := ?pq100; ?mq100)
              case mq100 =>
               refine (have q010 : Hid ?Tq010 := ?pq010; ?mq010)
               case mq010 =>
                refine (have q001 : Hid ?Tq001 := ?pq001; ?mq001)
                case mq001 =>
                 refine wpAnyH_ready (rs := [3, 8, 9]) (by kernel_rfl) (by simp) ?_
                 refine (AllReadyH.cons rfl (fun K hK => ?_) (AllReadyH.cons rfl (fun K hK => ?_) (AllReadyH.cons rfl (fun K hK => ?_) AllReadyH.nil)))
                 · skip
                   go_simp
                   refine (HFI.out ⟨AX, cX, AE, cE, AHH, cHH⟩ X E H ⟨ka0, ka1, ka2, ka3, ka4, ka5, ka6⟩ kar kaf _ (HV.out.on B).bel (HV.out.on B).st).mono ?_
                   rintro e V ⟨⟨v0, v1, v2, v3, v4, v5, v6⟩, rfl, B9⟩
                   have xB := below_step B B9
                   refine hK.out _ _ (HKEEP.out _ xB) (fun hSx => ?_)
                   clear hK K hSx B9 
                   try simp only [Act.put, pa, pz, ps]
                   obtain ⟨W, rfl⟩ : ∃ W, W = V := ⟨_, rfl⟩
                   have B := xB
                   clear xB
                   revert B
                   revert W
                   revert v6
                   revert v5
                   revert v4
                   revert v3
                   revert v2
                   revert v1
                   revert v0
                   exact q100.out
                 · skip
                   go_simp
                   obtain ⟨g13, hgn⟩ : ∃ g, W.heap.size = g := ⟨_, rfl⟩
                   obtain ⟨V, hV⟩ : ∃ V, W.alloc (.cells #[.int .i64 0, .int .u8 0, .int .i64 0, .int .i64 0, .int .i64 0, .int .i64 0, .int .i64 0] 39) = V := ⟨_, rfl⟩
                   have hba : Below W.heap.size W V := by rw [← hV]; exact below_alloc _
                   have xH13 : Blk V g13 39 #[.int .i64 0, .int .u8 0, .int .i64 0, .int .i64 0, .int .i64 0, .int .i64 0, .int .i64 0] := by rw [← hV]; exact Blk.new hgn
                   have xl13 : wr.heap.size ≤ g13 := by rw [← hgn]; exact B.size
                   have xB := below_step B hba
                   refine hK.out _ _ (by rw [hV]; exact HKEEP.out _ xB) (fun hSx => ?_)
                   clear hK K hSx 
                   try simp only [Act.put, pa, pz, ps]
                   rw [hV]
                   rw [hgn]
                   clear hV hba hgn
                   obtain ⟨W, rfl⟩ : ∃ W, W = V := ⟨_, rfl⟩
                   have B := xB
                   clear xB
                   have l13 := xl13
                   clear xl13
                   have H13 := xH13
                   clear xH13
                   revert H13
                   revert l13
                   revert B
                   revert W
                   revert g13
                   exact q010.out
                 · skip
                   go_simp
                   obtain ⟨g14, hgn⟩ : ∃ g, W.heap.size = g := ⟨_, rfl⟩
                   obtain ⟨V, hV⟩ : ∃ V, W.alloc (.cells #[.int .i64 0, .int .u8 0, .int .i64 0, .int .i64 0, .int .i64 0, .int .i64 0, .int .i64 0] 39) = V := ⟨_, rfl⟩
                   have hba : Below W.heap.size W V := by rw [← hV]; exact below_alloc _
                   have xH14 : Blk V g14 39 #[.int .i64 0, .int .u8 0, .int .i64 0, .int .i64 0, .int .i64 0, .int .i64 0, .int .i64 0] := by rw [← hV]; exact Blk.new hgn
                   have xl14 : wr.heap.size ≤ g14 := by rw [← hgn]; exact B.size
                   have xB := below_step B hba
                   refine hK.out _ _ (by rw [hV]; exact HKEEP.out _ xB) (fun hSx => ?_)
                   clear hK K hSx 
                   try simp only [Act.put, pa, pz, ps]
                   rw [hV]
                   rw [hgn]
                   clear hV hba hgn
                   obtain ⟨W, rfl⟩ : ∃ W, W = V := ⟨_, rfl⟩
                   have B := xB
                   clear xB
                   have l14 := xl14
                   clear xl14
                   have H14 := xH14
                   clear xH14
                   revert H14
                   revert l14
                   revert B
                   revert W
                   revert g14
                   exact q001.out
                case pq001 =>
                 refine Lib.hid ?_
                 intro g14 W B l14 H14
                 have hS0 := HKEEP.out _ B
                 refine wpAnyH_ready (rs := [3, 8]) (by kernel_rfl) (by simp) ?_
                 refine (AllReadyH.cons rfl (fun K hK => ?_) (AllReadyH.cons rfl (fun K hK => ?_) AllReadyH.nil))
                 · skip
                   go_simp
                   refine (HFI.out ⟨AX, cX, AE, cE, AHH, cHH⟩ X E H ⟨ka0, ka1, ka2, ka3, ka4, ka5, ka6⟩ kar kaf _ (HV.out.on B).bel (HV.out.on B).st).mono ?_
                   rintro e V ⟨⟨v0, v1, v2, v3, v4, v5, v6⟩, rfl, B9⟩
                   have xB := below_step B B9
                   have xl14 := l14
                   have xH14 := H14.below B9 H14.lt
                   refine hK.out _ _ (HKEEP.out _ xB) (fun hSx => ?_)
                   clear hK K hSx B9 hS0 B l14 H14
                   try simp only [Act.put, pa, pz, ps]
                   clear W
                   obtain ⟨W, rfl⟩ : ∃ W, W = V := ⟨_, rfl⟩
                   have B := xB
                   clear xB
                   have l14 := xl14
                   clear xl14
                   have H14 := xH14
                   clear xH14
                   revert H14
                   revert l14
                   revert B
                   revert W
                   revert g14
                   revert v6
                   revert v5
                   revert v4
                   revert v3
                   revert v2
                   revert v1
                   revert v0
                   exact q101.out
                 · skip
                   go_simp
                   obtain ⟨g13, hgn⟩ : ∃ g, W.heap.size = g := ⟨_, rfl⟩
                   obtain ⟨V, hV⟩ : ∃ V, W.alloc (.cells #[.int .i64 0, .int .u8 0, .int .i64 0, .int .i64 0, .int .i64 0, .int .i64 0, .int .i64 0] 39) = V := ⟨_, rfl⟩
                   have hba : Below W.heap.size W V := by rw [← hV]; exact below_alloc _
                   have xH13 : Blk V g13 39 #[.int .i64 0, .int .u8 0, .int .i64 0, .int .i64 0, .int .i64 0, .int .i64 0, .int .i64 0] := by rw [← hV]; exact Blk.new hgn
                   have xl13 : wr.heap.size ≤ g13 := by rw [← hgn]; exact B.size
                   have xB := below_step B hba
                   have xl14 := l14
                   have xH14 := H14.below hba H14.lt
                   have xne : g13 ≠ g14 := by have := H14.lt; omega
                   refine hK.out _ _ (by rw [hV]; exact HKEEP.out _ xB) (fun hSx => ?_)
                   clear hK K hSx hS0 B l14 H14
                   try simp only [Act.put, pa, pz, ps]
                   rw [hV]
                   rw [hgn]
                   clear hV hba hgn
                   clear W
                   obtain ⟨W, rfl⟩ : ∃ W, W = V := ⟨_, rfl⟩
                   have B := xB
                   clear xB
                   have l13 := xl13
                   clear xl13
                   have H13 := xH13
                   clear xH13
                   have l14 := xl14
                   clear xl14
                   have H14 := xH14
                   clear xH14
                   have ne := xne
                   clear xne
                   revert ne
                   revert H14
                   revert l14
                   revert H13
                   revert l13
                   revert B
                   revert W
                   revert g14
                   revert g13
                   exact q011.out
               case pq010 =>
                refine Lib.hid ?_
                intro g13 W B l13 H13
                have hS0 := HKEEP.out _ B
                refine wpAnyH_ready (rs := [3, 9]) (by kernel_rfl) (by simp) ?_
                refine (AllReadyH.cons rfl (fun K hK => ?_) (AllReadyH.cons rfl (fun K hK => ?_) AllReadyH.nil))
                · skip
                  go_simp
                  refine (HFI.out ⟨AX, cX, AE, cE, AHH, cHH⟩ X E H ⟨ka0, ka1, ka2, ka3, ka4, ka5, ka6⟩ kar kaf _ (HV.out.on B).bel (HV.out.on B).st).mono ?_
                  rintro e V ⟨⟨v0, v1, v2, v3, v4, v5, v6⟩, rfl, B9⟩
                  have xB := below_step B B9
                  have xl13 := l13
                  have xH13 := H13.below B9 H13.lt
                  refine hK.out _ _ (HKEEP.out _ xB) (fun hSx => ?_)
                  clear hK K hSx B9 hS0 B l13 H13
                  try simp only [Act.put, pa, pz, ps]
                  clear W
                  obtain ⟨W, rfl⟩ : ∃ W, W = V := ⟨_, rfl⟩
                  have B := xB
                  clear xB
                  have l13 := xl13
                  clear xl13
                  have H13 := xH13
                  clear xH13
                  revert H13
                  revert l13
                  revert B
                  revert W
                  revert g13
                  revert v6
                  revert v5
                  revert v4
                  revert v3
                  revert v2
                  revert v1
                  revert v0
                  exact q110.out
                · skip
                  go_simp
                  obtain ⟨g14, hgn⟩ : ∃ g, W.heap.size = g := ⟨_, rfl⟩
                  obtain ⟨V, hV⟩ : ∃ V, W.alloc (.cells #[.int .i64 0, .int .u8 0, .int .i64 0, .int .i64 0, .int .i64 0, .int .i64 0, .int .i64 0] 39) = V := ⟨_, rfl⟩
                  have hba : Below W.heap.size W V := by rw [← hV]; exact below_alloc _
                  have xH14 : Blk V g14 39 #[.int .i64 0, .int .u8 0, .int .i64 0, .int .i64 0, .int .i64 0, .int .i64 0, .int .i64 0] := by rw [← hV]; exact Blk.new hgn
                  have xl14 : wr.heap.size ≤ g14 := by rw [← hgn]; exact B.size
                  have xB := below_step B hba
                  have xl13 := l13
                  have xH13 := H13.below hba H13.lt
                  have xne : g13 ≠ g14 := by have := H13.lt; omega
                  refine hK.out _ _ (by rw [hV]; exact HKEEP.out _ xB) (fun hSx => ?_)
                  clear hK K hSx hS0 B l13 H13
                  try simp only [Act.put, pa, pz, ps]
                  rw [hV]
                  rw [hgn]
                  clear hV hba hgn
                  clear W
                  obtain ⟨W, rfl⟩ : ∃ W, W = V := ⟨_, rfl⟩
                  have B := xB
                  clear xB
                  have l13 := xl13
                  clear xl13
                  have H13 := xH13
                  clear xH13
                  have l14 := xl14
                  clear xl14
                  have H14 := xH14
                  clear xH14
                  have ne := xne
                  clear xne
                  revert ne
                  revert H14
                  revert l14
                  revert H13
                  revert l13
                  revert B
                  revert W
                  revert g14
                  revert g13
                  exact q011.out
              case pq100 =>
               refine Lib.hid ?_
               intro v0 v1 v2 v3 v4 v5 v6 W B
               have hS0 := HKEEP.out _ B
               refine wpAnyH_ready (rs := [7, 8, 9]) (by kernel_rfl) (by simp) ?_
               refine (AllReadyH.cons rfl (fun K hK => ?_) (AllReadyH.cons rfl (fun K hK => ?_) (AllReadyH.cons rfl (fun K hK => ?_) AllReadyH.nil)))
               · skip
                 go_simp
                 refine (HFI.out ⟨AX, cX, AE, cE, AHH, cHH⟩ X E H ⟨kb0, kb1, kb2, kb3, kb4, kb5, kb6⟩ kbr kbf _ (HV.out.on B).bel (HV.out.on B).st).mono ?_
                 rintro e V ⟨⟨y0, y1, y2, y3, y4, y5, y6⟩, rfl, B9⟩
                 have xB := below_step B B9
                 refine hK.out _ _ (HKEEP.out _ xB) (fun hSx => ?_)
                 clear hK K hSx B9 hS0 B
                 try simp only [Act.put, pa, pz, ps]
                 clear W
                 obtain ⟨W, rfl⟩ : ∃ W, W = V := ⟨_, rfl⟩
                 have B := xB
                 clear xB
                 revert B
                 revert W
                 revert y6
                 revert y5
                 revert y4
                 revert y3
                 revert y2
                 revert y1
                 revert y0
                 revert v6
                 revert v5
                 revert v4
                 revert v3
                 revert v2
                 revert v1
                 revert v0
                 exact q200.out
               · skip
                 go_simp
                 obtain ⟨g13, hgn⟩ : ∃ g, W.heap.size = g := ⟨_, rfl⟩
                 obtain ⟨V, hV⟩ : ∃ V, W.alloc (.cells #[.int .i64 0, .int .u8 0, .int .i64 0, .int .i64 0, .int .i64 0, .int .i64 0, .int .i64 0] 39) = V := ⟨_, rfl⟩
                 have hba : Below W.heap.size W V := by rw [← hV]; exact below_alloc _
                 have xH13 : Blk V g13 39 #[.int .i64 0, .int .u8 0, .int .i64 0, .int .i64 0, .int .i64 0, .int .i64 0, .int .i64 0] := by rw [← hV]; exact Blk.new hgn
                 have xl13 : wr.heap.size ≤ g13 := by rw [← hgn]; exact B.size
                 have xB := below_step B hba
                 refine hK.out _ _ (by rw [hV]; exact HKEEP.out _ xB) (fun hSx => ?_)
                 clear hK K hSx hS0 B
                 try simp only [Act.put, pa, pz, ps]
                 rw [hV]
                 rw [hgn]
                 clear hV hba hgn
                 clear W
                 obtain ⟨W, rfl⟩ : ∃ W, W = V := ⟨_, rfl⟩
                 have B := xB
                 clear xB
                 have l13 := xl13
                 clear xl13
                 have H13 := xH13
                 clear xH13
                 revert H13
                 revert l13
                 revert B
                 revert W
                 revert g13
                 revert v6
                 revert v5
                 revert v4
                 revert v3
                 revert v2
                 revert v1
                 revert v0
                 exact q110.out
               · skip
                 go_simp
                 obtain ⟨g14, hgn⟩ : ∃ g, W.heap.size = g := ⟨_, rfl⟩
                 obtain ⟨V, hV⟩ : ∃ V, W.alloc (.cells #[.int .i64 0, .int .u8 0, .int .i64 0, .int .i64 0, .int .i64 0, .int .i64 0, .int .i64 0] 39) = V := ⟨_, rfl⟩
                 have hba : Below W.heap.size W V := by rw [← hV]; exact below_alloc _
                 have xH14 : Blk V g14 39 #[.int .i64 0, .int .u8 0, .int .i64 0, .int .i64 0, .int .i64 0, .int .i64 0, .int .i64 0] := by rw [← hV]; exact Blk.new hgn
                 have xl14 : wr.heap.size ≤ g14 := by rw [← hgn]; exact B.size
                 have xB := below_step B hba
                 refine hK.out _ _ (by rw [hV]; exact HKEEP.out _ xB) (fun hSx => ?_)
                 clear hK K hSx hS0 B
                 try simp only [Act.put, pa, pz, ps]
                 rw [hV]
                 rw [hgn]
                 clear hV hba hgn
                 clear W
                 obtain ⟨W, rfl⟩ : ∃ W, W = V := ⟨_, rfl⟩
                 have B := xB
                 clear xB
                 have l14 := xl14
                 clear xl14
                 have H14 := xH14
                 clear xH14
                 revert H14
                 revert l14
                 revert B
                 revert W
                 revert g14
                 revert v6
                 revert v5
                 revert v4
                 revert v3
                 revert v2
                 revert v1
                 revert v0
                 exact q101.out
             case pq011 =>
              refine Lib.hid ?_
              intro g13 g14 W B l13 H13 l14 H14 ne
              have hS0 := HKEEP.out _ B
              refine wpAnyH_ready (rs := [3]) (by kernel_rfl) (by simp) ?_
              refine (AllReadyH.cons rfl (fun K hK => ?_) AllReadyH.nil)
              · skip
                go_simp
                refine (HFI.out ⟨AX, cX, AE, cE, AHH, cHH⟩ X E H ⟨ka0, ka1, ka2, ka3, ka4, ka5, ka6⟩ kar kaf _ (HV.out.on B).bel (HV.out.on B).st).mono ?_
                rintro e V ⟨⟨v0, v1, v2, v3, v4, v5, v6⟩, rfl, B9⟩
                have xB := below_step B B9
                have xl13 := l13
                have xH13 := H13.below B9 H13.lt
                have xl14 := l14
                have xH14 := H14.below B9 H14.lt
                have xne := ne
                refine hK.out _ _ (HKEEP.out _ xB) (fun hSx => ?_)
                clear hK K hSx B9 hS0 B l13 H13 l14 H14 ne
                try simp only [Act.put, pa, pz, ps]
                clear W
                obtain ⟨W, rfl⟩ : ∃ W, W = V := ⟨_, rfl⟩
                have B := xB
                clear xB
                have l13 := xl13
                clear xl13
                have H13 := xH13
                clear xH13
                have l14 := xl14
                clear xl14
                have H14 := xH14
                clear xH14
                have ne := xne
                clear xne
                revert ne
                revert H14
                revert l14
                revert H13
                revert l13
                revert B
                revert W
                revert g14
                revert g13
                revert v6
                revert v5
                revert v4
                revert v3
                revert v2
                revert v1
                revert v0
                exact q111.out
            case pq101 =>
             refine Lib.hid ?_
             intro v0 v1 v2 v3 v4 v5 v6 g14 W B l14 H14
             have hS0 := HKEEP.out _ B
             refine wpAnyH_ready (rs := [7, 8]) (by kernel_rfl) (by simp) ?_
             refine (AllReadyH.cons rfl (fun K hK => ?_) (AllReadyH.cons rfl (fun K hK => ?_) AllReadyH.nil))
             · skip
               go_simp
               refine (HFI.out ⟨AX, cX, AE, cE, AHH, cHH⟩ X E H ⟨kb0, kb1, kb2, kb3, kb4, kb5, kb6⟩ kbr kbf _ (HV.out.on B).bel (HV.out.on B).st).mono ?_
               rintro e V ⟨⟨y0, y1, y2, y3, y4, y5, y6⟩, rfl, B9⟩
               have xB := below_step B B9
               have xl14 := l14
               have xH14 := H14.below B9 H14.lt
               refine hK.out _ _ (HKEEP.out _ xB) (fun hSx => ?_)
               clear hK K hSx B9 hS0 B l14 H14
               try simp only [Act.put, pa, pz, ps]
               clear W
               obtain ⟨W, rfl⟩ : ∃ W, W = V := ⟨_, rfl⟩
               have B := xB
               clear xB
               have l14 := xl14
               clear xl14
               have H14 := xH14
               clear xH14
               revert H14
               revert l14
               revert B
               revert W
               revert g14
               revert y6
               revert y5
               revert y4
               revert y3
               revert y2
               revert y1
               revert y0
               revert v6
               revert v5
               revert v4
               revert v3
               revert v2
               revert v1
               revert v0
               exact q201.out
             · skip
               go_simp
               obtain ⟨g13, hgn⟩ : ∃ g, W.heap.size = g := ⟨_, rfl⟩
               obtain ⟨V, hV⟩ : ∃ V, W.alloc (.cells #[.int .i64 0, .int .u8 0, .int .i64 0, .int .i64 0, .int .i64 0, .int .i64 0, .int .i64 0] 39) = V := ⟨_, rfl⟩
               have hba : Below W.heap.size W V := by rw [← hV]; exact below_alloc _
               have xH13 : Blk V g13 39 #[.int .i64 0, .int .u8 0, .int .i64 0, .int .i64 0, .int .i64 0, .int .i64 0, .int .i64 0] := by rw [← hV]; exact Blk.new hgn
               have xl13 : wr.heap.size ≤ g13 := by rw [← hgn]; exact B.size
               have xB := below_step B hba
               have xl14 := l14
               have xH14 := H14.below hba H14.lt
               have xne : g13 ≠ g14 := by have := H14.lt; omega
               refine hK.out _ _ (by rw [hV]; exact HKEEP.out _ xB) (fun hSx => ?_)
               clear hK K hSx hS0 B l14 H14
               try simp only [Act.put, pa, pz, ps]
               rw [hV]
               rw [hgn]
               clear hV hba hgn
               clear W
               obtain ⟨W, rfl⟩ : ∃ W, W = V := ⟨_, rfl⟩
               have B := xB
               clear xB
               have l13 := xl13
               clear xl13
               have H13 := xH13
               clear xH13
               have l14 := xl14
               clear xl14
               have H14 := xH14
               clear xH14
               have ne := xne
               clear xne
               revert ne
               revert H14
               revert l14
               revert H13
               revert l13
               revert B
               revert W
               revert g14
               revert g13
               revert v6
               revert v5
               revert v4
               revert v3
               revert v2
               revert v1
               revert v0
               exact q111.out
           case pq110 =>
            refine Lib.hid ?_
            intro v0 v1 v2 v3 v4 v5 v6 g13 W B l13 H13
            have hS0 := HKEEP.out _ B
            refine wpAnyH_ready (rs := [7, 9]) (by kernel_rfl) (by simp) ?_
            refine (AllReadyH.cons rfl (fun K hK => ?_) (AllReadyH.cons rfl (fun K hK => ?_) AllReadyH.nil))
            · skip
              go_simp
              refine (HFI.out ⟨AX, cX, AE, cE, AHH, cHH⟩ X E H ⟨kb0, kb1, kb2, kb3, kb4, kb5, kb6⟩ kbr kbf _ (HV.out.on B).bel (HV.out.on B).st).mono ?_
              rintro e V ⟨⟨y0, y1, y2, y3, y4, y5, y6⟩, rfl, B9⟩
              have xB := below_step B B9
              have xl13 := l13
              have xH13 := H13.below B9 H13.lt
              refine hK.out _ _ (HKEEP.out _ xB) (fun hSx => ?_)
              clear hK K hSx B9 hS0 B l13 H13
              try simp only [Act.put, pa, pz, ps]
              clear W
              obtain ⟨W, rfl⟩ : ∃ W, W = V := ⟨_, rfl⟩
              have B := xB
              clear xB
              have l13 := xl13
              clear xl13
              have H13 := xH13
              clear xH13
              revert H13
              revert l13
              revert B
              revert W
              revert g13
              revert y6
              revert y5
              revert y4
              revert y3
              revert y2
              revert y1
              revert y0
              revert v6
              revert v5
              revert v4
              revert v3
              revert v2
              revert v1
              revert v0
              exact q210.out
            · skip
              go_simp
              obtain ⟨g14, hgn⟩ : ∃ g, W.heap.size = g := ⟨_, rfl⟩
              obtain ⟨V, hV⟩ : ∃ V, W.alloc (.cells #[.int .i64 0, .int .u8 0, .int .i64 0, .int .i64 0, .int .i64 0, .int .i64 0, .int .i64 0] 39) = V := ⟨_, rfl⟩
              have hba : Below W.heap.size W V := by rw [← hV]; exact below_alloc _
              have xH14 : Blk V g14 39 #[.int .i64 0, .int .u8 0, .int .i64 0, .int .i64 0, .int .i64 0, .int .i64 0, .int .i64 0] := by rw [← hV]; exact Blk.new hgn
              have xl14 : wr.heap.size ≤ g14 := by rw [← hgn]; exact B.size
              have xB := below_step B hba
              have xl13 := l13
              have xH13 := H13.below hba H13.lt
              have xne : g13 ≠ g14 := by have := H13.lt; omega
              refine hK.out _ _ (by rw [hV]; exact HKEEP.out _ xB) (fun hSx => ?_)
              clear hK K hSx hS0 B l13 H13
              try simp only [Act.put, pa, pz, ps]
              rw [hV]
              rw [hgn]
              clear hV hba hgn
              clear W
              obtain ⟨W, rfl⟩ : ∃ W, W = V := ⟨_, rfl⟩
              have B := xB
              clear xB
              have l13 := xl13
              clear xl13
              have H13 := xH13
              clear xH13
              have l14 := xl14
              clear xl14
              have H14 := xH14
              clear xH14
              have ne := xne
              clear xne
              revert ne
              revert H14
              revert l14
              revert H13
              revert l13
              revert B
              revert W
              revert g14
              revert g13
              revert v6
              revert v5
              revert v4
              revert v3
              revert v2
              revert v1
              revert v0
              exact q111.out
          case pq200 =>
           refine Lib.hid ?_
           intro v0 v1 v2 v3 v4 v5 v6 y0 y1 y2 y3 y4 y5 y6 W B
           have hS0 := HKEEP.out _ B
           refine wpAnyH_ready (rs := [8, 9]) (by kernel_rfl) (by simp) ?_
           refine (AllReadyH.cons rfl (fun K hK => ?_) (AllReadyH.cons rfl (fun K hK => ?_) AllReadyH.nil))
           · skip
             go_simp
             obtain ⟨g13, hgn⟩ : ∃ g, W.heap.size = g := ⟨_, rfl⟩
             obtain ⟨V, hV⟩ : ∃ V, W.alloc (.cells #[.int .i64 0, .int .u8 0, .int .i64 0, .int .i64 0, .int .i64 0, .int .i64 0, .int .i64 0] 39) = V := ⟨_, rfl⟩
             have hba : Below W.heap.size W V := by rw [← hV]; exact below_alloc _
             have xH13 : Blk V g13 39 #[.int .i64 0, .int .u8 0, .int .i64 0, .int .i64 0, .int .i64 0, .int .i64 0, .int .i64 0] := by rw [← hV]; exact Blk.new hgn
             have xl13 : wr.heap.size ≤ g13 := by rw [← hgn]; exact B.size
             have xB := below_step B hba
             refine hK.out _ _ (by rw [hV]; exact HKEEP.out _ xB) (fun hSx => ?_)
             clear hK K hSx hS0 B
             try simp only [Act.put, pa, pz, ps]
             rw [hV]
             rw [hgn]
             clear hV hba hgn
             clear W
             obtain ⟨W, rfl⟩ : ∃ W, W = V := ⟨_, rfl⟩
             have B := xB
             clear xB
             have l13 := xl13
             clear xl13
             have H13 := xH13
             clear xH13
             revert H13
             revert l13
             revert B
             revert W
             revert g13
             revert y6
             revert y5
             revert y4
             revert y3
             revert y2
             revert y1
             revert y0
             revert v6
             revert v5
             revert v4
             revert v3
             revert v2
             revert v1
             revert v0
             exact q210.out
           · skip
             go_simp
             obtain ⟨g14, hgn⟩ : ∃ g, W.heap.size = g := ⟨_, rfl⟩
             obtain ⟨V, hV⟩ : ∃ V, W.alloc (.cells #[.int .i64 0, .int .u8 0, .int .i64 0, .int .i64 0, .int .i64 0, .int .i64 0, .int .i64 0] 39) = V := ⟨_, rfl⟩
             have hba : Below W.heap.size W V := by rw [← hV]; exact below_alloc _
             have xH14 : Blk V g14 39 #[.int .i64 0, .int .u8 0, .int .i64 0, .int .i64 0, .int .i64 0, .int .i64 0, .int .i64 0] := by rw [← hV]; exact Blk.new hgn
             have xl14 : wr.heap.size ≤ g14 := by rw [← hgn]; exact B.size
             have xB := below_step B hba
             refine hK.out _ _ (by rw [hV]; exact HKEEP.out _ xB) (fun hSx => ?_)
             clear hK K hSx hS0 B
             try simp only [Act.put, pa, pz, ps]
             rw [hV]
             rw [hgn]
             clear hV hba hgn
             clear W
             obtain ⟨W, rfl⟩ : ∃ W, W = V := ⟨_, rfl⟩
             have B := xB
             clear xB
             have l14 := xl14
             clear xl14
             have H14 := xH14
             clear xH14
             revert H14
             revert l14
             revert B
             revert W
             revert g14
             revert y6
             revert y5
             revert y4
             revert y3
             revert y2
             revert y1
             revert y0
             revert v6
             revert v5
             revert v4
             revert v3
             revert v2
             revert v1
             revert v0
             exact q201.out
         case pq111 =>
          refine Lib.hid ?_
          intro v0 v1 v2 v3 v4 v5 v6 g13 g14 W B l13 H13 l14 H14 ne
          have hS0 := HKEEP.out _ B
          refine wpAnyH_ready (rs := [7]) (by kernel_rfl) (by simp) ?_
          refine (AllReadyH.cons rfl (fun K hK => ?_) AllReadyH.nil)
          · skip
            go_simp
            refine (HFI.out ⟨AX, cX, AE, cE, AHH, cHH⟩ X E H ⟨kb0, kb1, kb2, kb3, kb4, kb5, kb6⟩ kbr kbf _ (HV.out.on B).bel (HV.out.on B).st).mono ?_
            rintro e V ⟨⟨y0, y1, y2, y3, y4, y5, y6⟩, rfl, B9⟩
            have xB := below_step B B9
            have xl13 := l13
            have xH13 := H13.below B9 H13.lt
            have xl14 := l14
            have xH14 := H14.below B9 H14.lt
            have xne := ne
            refine hK.out _ _ (HKEEP.out _ xB) (fun hSx => ?_)
            clear hK K hSx B9 hS0 B l13 H13 l14 H14 ne
            try simp only [Act.put, pa, pz, ps]
            clear W
            obtain ⟨W, rfl⟩ : ∃ W, W = V := ⟨_, rfl⟩
            have B := xB
            clear xB
            have l13 := xl13
            clear xl13
            have H13 := xH13
            clear xH13
            have l14 := xl14
            clear xl14
            have H14 := xH14
            clear xH14
            have ne := xne
            clear xne
            revert ne
            revert H14
            revert l14
            revert H13
            revert l13
            revert B
            revert W
            revert g14
            revert g13
            revert y6
            revert y5
            revert y4
            revert y3
            revert y2
            revert y1
            revert y0
            revert v6
            revert v5
            revert v4
            revert v3
            revert v2
            revert v1
            revert v0
            exact q211.out
        case pq201 =>
         refine Lib.hid ?_
         intro v0 v1 v2 v3 v4 v5 v6 y0 y1 y2 y3 y4 y5 y6 g14 W B l14 H14
         have hS0 := HKEEP.out _ B
         refine wpAnyH_ready (rs := [8]) (by kernel_rfl) (by simp) ?_
         refine (AllReadyH.cons rfl (fun K hK => ?_) AllReadyH.nil)
         · skip
           go_simp
           obtain ⟨g13, hgn⟩ : ∃ g, W.heap.size = g := ⟨_, rfl⟩
           obtain ⟨V, hV⟩ : ∃ V, W.alloc (.cells #[.int .i64 0, .int .u8 0, .int .i64 0, .int .i64 0, .int .i64 0, .int .i64 0, .int .i64 0] 39) = V := ⟨_, rfl⟩
           have hba : Below W.heap.size W V := by rw [← hV]; exact below_alloc _
           have xH13 : Blk V g13 39 #[.int .i64 0, .int .u8 0, .int .i64 0, .int .i64 0, .int .i64 0, .int .i64 0, .int .i64 0] := by rw [← hV]; exact Blk.new hgn
           have xl13 : wr.heap.size ≤ g13 := by rw [← hgn]; exact B.size
           have xB := below_step B hba
           have xl14 := l14
           have xH14 := H14.below hba H14.lt
           have xne : g13 ≠ g14 := by have := H14.lt; omega
           refine hK.out _ _ (by rw [hV]; exact HKEEP.out _ xB) (fun hSx => ?_)
           clear hK K hSx hS0 B l14 H14
           try simp only [Act.put, pa, pz, ps]
           rw [hV]
           rw [hgn]
           clear hV hba hgn
           clear W
           obtain ⟨W, rfl⟩ : ∃ W, W = V := ⟨_, rfl⟩
           have B := xB
           clear xB
           have l13 := xl13
           clear xl13
           have H13 := xH13
           clear xH13
           have l14 := xl14
           clear xl14
           have H14 := xH14
           clear xH14
           have ne := xne
           clear xne
           revert ne
           revert H14
           revert l14
           revert H13
           revert l13
           revert B
           revert W
           revert g14
           revert g13
           revert y6
           revert y5
           revert y4
           revert y3
           revert y2
           revert y1
           revert y0
           revert v6
           revert v5
           revert v4
           revert v3
           revert v2
           revert v1
           revert v0
           exact q211.out
       case pq210 =>
        refine Lib.hid ?_
        intro v0 v1 v2 v3 v4 v5 v6 y0 y1 y2 y3 y4 y5 y6 g13 W B l13 H13
        have hS0 := HKEEP.out _ B
        refine wpAnyH_ready (rs := [9]) (by kernel_rfl) (by simp) ?_
        refine (AllReadyH.cons rfl (fun K hK => ?_) AllReadyH.nil)
        · skip
          go_simp
          obtain ⟨g14, hgn⟩ : ∃ g, W.heap.size = g := ⟨_, rfl⟩
          obtain ⟨V, hV⟩ : ∃ V, W.alloc (.cells #[.int .i64 0, .int .u8 0, .int .i64 0, .int .i64 0, .int .i64 0, .int .i64 0, .int .i64 0] 39) = V := ⟨_, rfl⟩
          have hba : Below W.heap.size W V := by rw [← hV]; exact below_alloc _
          have xH14 : Blk V g14 39 #[.int .i64 0, .int .u8 0, .int .i64 0, .int .i64 0, .int .i64 0, .int .i64 0, .int .i64 0] := by rw [← hV]; exact Blk.new hgn
          have xl14 : wr.heap.size ≤ g14 := by rw [← hgn]; exact B.size
          have xB := below_step B hba
          have xl13 := l13
          have xH13 := H13.below hba H13.lt
          have xne : g13 ≠ g14 := by have := H13.lt; omega
          refine hK.out _ _ (by rw [hV]; exact HKEEP.out _ xB) (fun hSx => ?_)
          clear hK K hSx hS0 B l13 H13
          try simp only [Act.put, pa, pz, ps]
          rw [hV]
          rw [hgn]
          clear hV hba hgn
          clear W
          obtain ⟨W, rfl⟩ : ∃ W, W = V := ⟨_, rfl⟩
          have B := xB
          clear xB
          have l13 := xl13
          clear xl13
          have H13 := xH13
          clear xH13
          have l14 := xl14
          clear xl14
          have H14 := xH14
          clear xH14
          have ne := xne
          clear xne
          revert ne
          revert H14
          revert l14
          revert H13
          revert l13
          revert B
          revert W
          revert g14
          revert g13
          revert y6
          revert y5
          revert y4
          revert y3
          revert y2
          revert y1
          revert y0
          revert v6
          revert v5
          revert v4
          revert v3
          revert v2
          revert v1
          revert v0
          exact q211.out
      case pq211 =>
       refine Lib.hid ?_
       intro v0 v1 v2 v3 v4 v5 v6 y0 y1 y2 y3 y4 y5 y6 g13 g14 W B l13 H13 l14 H14 ne
       have hS0 := HKEEP.out _ B
       obtain ⟨z0, z1, z2, z3, z4, z5, z6⟩ := H13.at7
       obtain ⟨f0, f1, f2, f3, f4, f5, f6⟩ := H13.free7
       have hz := H13.lt
       refine wpAnyH_ready (rs := [10]) (by kernel_rfl) (by simp) ?_
       refine AllReadyH.cons rfl (fun K hK => ?_) AllReadyH.nil
       go_simp
       have xB : Below wr.heap.size wr (put7 W g13 (.int .i64 v0) (.int .u8 v1) (.int .i64 v2) (.int .i64 v3) (.int .i64 v4) (.int .i64 v5) (.int .i64 v6)) := below_put7 B l13
       have x13 := H13.put7 (y0 := .int .i64 v0) (y1 := .int .u8 v1) (y2 := .int .i64 v2) (y3 := .int .i64 v3) (y4 := .int .i64 v4) (y5 := .int .i64 v5) (y6 := .int .i64 v6)
       have x14 := H14.far7 (g := g13) (y0 := .int .i64 v0) (y1 := .int .u8 v1) (y2 := .int .i64 v2) (y3 := .int .i64 v3) (y4 := .int .i64 v4) (y5 := .int .i64 v5) (y6 := .int .i64 v6) (fun e => ne e.symm)
       refine hK.out _ _ (HKEEP.out _ xB) (fun hSx => ?_)
       clear hK K hSx hS0 z0 z1 z2 z3 z4 z5 z6 f0 f1 f2 f3 f4 f5 f6 hz H13 H14 B
       dsimp only [put7] at xB x13 x14
       generalize ((((((W.setCell ⟨g13, 0, none⟩ (.int .i64 v0)).setCell ⟨g13, 1, none⟩ (.int .u8 v1)).setCell ⟨g13, 2, none⟩ (.int .i64 v2)).setCell ⟨g13, 3, none⟩ (.int .i64 v3)).setCell ⟨g13, 4, none⟩ (.int .i64 v4)).setCell ⟨g13, 5, none⟩ (.int .i64 v5)).setCell ⟨g13, 6, none⟩ (.int .i64 v6) = wy at *
       have hS1 := HKEEP.out _ xB
       obtain ⟨z0, z1, z2, z3, z4, z5, z6⟩ := x14.at7
       obtain ⟨f0, f1, f2, f3, f4, f5, f6⟩ := x14.free7
       have hz := x14.lt
       refine wpAnyH_ready (rs := [11]) (by kernel_rfl) (by simp) ?_
       refine AllReadyH.cons rfl (fun K hK => ?_) AllReadyH.nil
       go_simp
       have yB : Below wr.heap.size wr (put7 wy g14 (.int .i64 y0) (.int .u8 y1) (.int .i64 y2) (.int .i64 y3) (.int .i64 y4) (.int .i64 y5) (.int .i64 y6)) := below_put7 xB l14
       have w14 := x14.put7 (y0 := .int .i64 y0) (y1 := .int .u8 y1) (y2 := .int .i64 y2) (y3 := .int .i64 y3) (y4 := .int .i64 y4) (y5 := .int .i64 y5) (y6 := .int .i64 y6)
       have w13 := x13.far7 (g := g14) (y0 := .int .i64 y0) (y1 := .int .u8 y1) (y2 := .int .i64 y2) (y3 := .int .i64 y3) (y4 := .int .i64 y4) (y5 := .int .i64 y5) (y6 := .int .i64 y6) ne
       refine hK.out _ _ (HKEEP.out _ yB) (fun hSx => ?_)
       clear hK K hSx hS1 z0 z1 z2 z3 z4 z5 z6 f0 f1 f2 f3 f4 f5 f6 hz x13 x14 xB
       dsimp only [put7] at yB w13 w14
       generalize ((((((wy.setCell ⟨g14, 0, none⟩ (.int .i64 y0)).setCell ⟨g14, 1, none⟩ (.int .u8 y1)).setCell ⟨g14, 2, none⟩ (.int .i64 y2)).setCell ⟨g14, 3, none⟩ (.int .i64 y3)).setCell ⟨g14, 4, none⟩ (.int .i64 y4)).setCell ⟨g14, 5, none⟩ (.int .i64 y5)).setCell ⟨g14, 6, none⟩ (.int .i64 y6) = wz at *
       refine wpAnyH_done (by kernel_rfl) ?_ _
       have V8 := HV.out.on yB
       obtain ⟨e0, e1, e2, e3, e4, e5, e6⟩ := w13.at7
       obtain ⟨i0, i1, i2, i3, i4, i5, i6⟩ := w14.at7
       have z13 := w13.lt; have z14 := w14.lt
       have HV8 := Lib.hid V8; have HE13 := Lib.hid w13; have HE14 := Lib.hid w14
       clear V8 w13 w14 yB HKEEP HV l13 l14
       by_cases hu : v2 = y2
       · subst hu
         go_wp2_with fail
         refine (awake9_is _).mono ?_
         rintro e w9 ⟨rfl, B9⟩
         have BF := below_step (below_step HB.out HV8.out.bel) B9
         clear B9
         go_wp2_with fail
         go_ret
         exact ⟨rfl, BF⟩
       · have hu1 : (v2 == y2) = false := by simpa using hu
         have hrun := fun (d e : EvS) (g : Nat) W (hb : Below w2.heap.size w2 W) (hq : StIn W W.heap.size M N1 N1 ⟨AX, cX, AE, cE, AHH, cHH⟩ X E H) (hK : Blk W g 39 ((evCells d ++ evCells e).toArray)) => rrun_is N1 M s t 2 2 ⟨AF, cF, AH, cH, AR, cR, AC, cC, AA, cA, AB, cB⟩ ⟨AX, cX, AE, cE, AHH, cHH⟩ (some ⟨g, 0, none⟩) [d, e] fst hd rv ai cp bk X E H W HP.out ((HI.out.below hb).more hb.size).gi hq HV8.out.snd (evs_two hK) (by omega)
         have HRUN := Lib.hid hrun
         clear hrun
         dsimp only [csrW, preW] at HRUN
         obtain ⟨c0, c1, c2, c3, c4, c5, c6, c7, c8⟩ := HV8.out.c.nine
         obtain ⟨⟨p0, p1, p2⟩, -, zp⟩ := HV8.out.p.full3
         have zc := HV8.out.c.lt
         have hor := run_or (fst := fst) (d := ⟨v0, v1, v2, v3, v4, v5, v6⟩) (e := ⟨y0, y1, y2, y3, y4, y5, y6⟩) HP.out HV8.out.snd hu
         have hsnd := run_snd (l := [⟨v0, v1, v2, v3, v4, v5, v6⟩, ⟨y0, y1, y2, y3, y4, y5, y6⟩]) (fst := fst) HP.out HV8.out.snd
         have HOR := Lib.hid hor; have HSND := Lib.hid hsnd
         clear hor hsnd hu
         go_wp2_with fail
         have R1 := HRUN.out ⟨v0, v1, v2, v3, v4, v5, v6⟩ ⟨y0, y1, y2, y3, y4, y5, y6⟩ wz.heap.size (wz.alloc (.cells (evCells ⟨v0, v1, v2, v3, v4, v5, v6⟩ ++ evCells ⟨y0, y1, y2, y3, y4, y5, y6⟩).toArray 39)) (below_step HV8.out.bel (below_alloc _)) (HV8.out.on (below_alloc _)).st (Blk.new rfl)
         obtain ⟨r1, hr1⟩ : ∃ r, runTo N1 s t fst hd rv [⟨v0, v1, v2, v3, v4, v5, v6⟩, ⟨y0, y1, y2, y3, y4, y5, y6⟩] X E H = r := ⟨_, rfl⟩
         obtain ⟨r2, hr2⟩ : ∃ r, runTo N1 s t fst hd rv [⟨y0, y1, y2, y3, y4, y5, y6⟩, ⟨v0, v1, v2, v3, v4, v5, v6⟩] X E H = r := ⟨_, rfl⟩
         rw [hr1] at R1 HSND
         rw [hr1, hr2] at HOR
         have HR2 := Lib.hid hr2
         clear hr1 hr2
         refine R1.mono ?_
         clear R1
         rintro e w10 ⟨Q1, rfl, B10, st10⟩
         have B8x := below_step (below_alloc (w := wz) (.cells (evCells ⟨v0, v1, v2, v3, v4, v5, v6⟩ ++ evCells ⟨y0, y1, y2, y3, y4, y5, y6⟩).toArray 39)) B10
         have HVa := Lib.hid (HV8.out.on B8x); have HEa := Lib.hid (HE13.out.below B8x HE13.out.lt); have HEb := Lib.hid (HE14.out.below B8x HE14.out.lt); have HSt := Lib.hid st10
         clear e0 e1 e2 e3 e4 e5 e6 i0 i1 i2 i3 i4 i5 i6 z13 z14 c0 c1 c2 c3 c4 c5 c6 c7 c8 p0 p1 p2 zp zc HV8 HE13 HE14 st10 B8x B10
         obtain ⟨A1, d1, A2, d2, A3, d3⟩ := Q1
         dsimp only [preW]
         obtain ⟨e0, e1, e2, e3, e4, e5, e6⟩ := HEa.out.at7
         obtain ⟨i0, i1, i2, i3, i4, i5, i6⟩ := HEb.out.at7
         have z13 := HEa.out.lt; have z14 := HEb.out.lt
         obtain ⟨c0, c1, c2, c3, c4, c5, c6, c7, c8⟩ := HVa.out.c.nine
         obtain ⟨⟨p0, p1, p2⟩, -, zp⟩ := HVa.out.p.full3
         have zc := HVa.out.c.lt
         go_wp2_with fail
         obtain ⟨wp, hwp⟩ : ∃ wp, w10.alloc (.cells #[.slice A1 M d1, .slice A2 N1 d2, .slice A3 N1 d3] 29) = wp := ⟨_, rfl⟩
         have Bp : Below w10.heap.size w10 wp := by rw [← hwp]; exact below_alloc _
         have Kp : Blk wp w10.heap.size 29 #[.slice A1 M d1, .slice A2 N1 d2, .slice A3 N1 d3] := by rw [← hwp]; exact Blk.new rfl
         have hzp : wp.heap.size = w10.heap.size + 1 := by rw [← hwp]; simp
         rw [hwp]
         clear hwp
         have B2x := Bp.alloc Bp.size (.cells (evCells ⟨y0, y1, y2, y3, y4, y5, y6⟩ ++ evCells ⟨v0, v1, v2, v3, v4, v5, v6⟩).toArray 39)
         have R2 := HRUN.out ⟨y0, y1, y2, y3, y4, y5, y6⟩ ⟨v0, v1, v2, v3, v4, v5, v6⟩ (w10.heap.size + 1) (wp.alloc (.cells (evCells ⟨y0, y1, y2, y3, y4, y5, y6⟩ ++ evCells ⟨v0, v1, v2, v3, v4, v5, v6⟩).toArray 39)) (below_step HVa.out.bel B2x) (HVa.out.on B2x).st (Blk.new hzp)
         rw [HR2.out] at R2
         refine R2.mono ?_
         clear R2 HR2 hzp
         rintro e w11 ⟨Q2, rfl, B11, st11⟩
         obtain ⟨A4, d4, A5, d5, A6, d6⟩ := Q2
         dsimp only [preW]
         have B11x := below_step B2x B11
         have B11x' := below_step (below_alloc (w := wp) (.cells (evCells ⟨y0, y1, y2, y3, y4, y5, y6⟩ ++ evCells ⟨v0, v1, v2, v3, v4, v5, v6⟩).toArray 39)) B11
         have HVb := Lib.hid (HVa.out.on B11x); have HEc := Lib.hid (HEa.out.below B11x HEa.out.lt); have HEd := Lib.hid (HEb.out.below B11x HEb.out.lt)
         have HSu := Lib.hid (HSt.out.on B11x); have HSw := Lib.hid st11; have HKp := Lib.hid (Kp.below B11x' Kp.lt)
         clear e0 e1 e2 e3 e4 e5 e6 i0 i1 i2 i3 i4 i5 i6 z13 z14 c0 c1 c2 c3 c4 c5 c6 c7 c8 p0 p1 p2 zp zc HVa HEa HEb HSt st11 B2x B11 B11x B11x' Bp Kp
         obtain ⟨e0, e1, e2, e3, e4, e5, e6⟩ := HEc.out.at7
         obtain ⟨i0, i1, i2, i3, i4, i5, i6⟩ := HEd.out.at7
         have z13 := HEc.out.lt; have z14 := HEd.out.lt
         obtain ⟨c0, c1, c2, c3, c4, c5, c6, c7, c8⟩ := HVb.out.c.nine
         obtain ⟨⟨p0, p1, p2⟩, -, zp⟩ := HVb.out.p.full3
         have zc := HVb.out.c.lt
         obtain ⟨⟨q0, q1, q2⟩, -, zq⟩ := HKp.out.full3
         rcases HOR.out with ⟨g1, g2, g3, g4⟩ | ⟨g1, g2⟩
         · have G1 := Lib.hid g1; have G2 := Lib.hid g2
           clear g1 g2 HOR HSND HRUN
           subst g3
           rw [g4]
           have HSA := fun W (hb : Below w11.heap.size w11 W) => rsame_is M N1 N1 M N1 N1 ⟨A1, d1, A2, d2, A3, d3⟩ ⟨A4, d4, A5, d5, A6, d6⟩ r1.X r1.E r1.H r1.X r1.E r1.H true W (HSu.out.on hb) (HSw.out.on hb) (by omega) (by omega) (by omega) (by omega) (by omega) (by omega) (by simp)
           have HSAH := Lib.hid HSA
           clear HSA g4
           dsimp only [preW] at HSAH
           go_wp2_with fail
           refine (HSAH.out _ (below_alloc _)).mono ?_
           rintro e w12 ⟨rfl, B12⟩
           have B12x := below_step (below_alloc _) B12
           have HVc := Lib.hid (HVb.out.on B12x); have HEe := Lib.hid (HEc.out.below B12x HEc.out.lt); have HEf := Lib.hid (HEd.out.below B12x HEd.out.lt)
           clear e0 e1 e2 e3 e4 e5 e6 i0 i1 i2 i3 i4 i5 i6 z13 z14 c0 c1 c2 c3 c4 c5 c6 c7 c8 p0 p1 p2 zp zc q0 q1 q2 zq HVb HEc HEd HSu HSw HKp HSAH B12 B12x
           obtain ⟨e0, e1, e2, e3, e4, e5, e6⟩ := HEe.out.at7
           obtain ⟨i0, i1, i2, i3, i4, i5, i6⟩ := HEf.out.at7
           have z13 := HEe.out.lt; have z14 := HEf.out.lt
           obtain ⟨c0, c1, c2, c3, c4, c5, c6, c7, c8⟩ := HVc.out.c.nine
           obtain ⟨⟨p0, p1, p2⟩, -, zp⟩ := HVc.out.p.full3
           have zc := HVc.out.c.lt
           go_wp2_with fail
           have L1 := HLE.out ⟨AX, cX, AE, cE, AHH, cHH⟩ X E H ⟨v0, v1, v2, v3, v4, v5, v6⟩ w12 HVc.out.bel HVc.out.st
           rw [G1.out] at L1
           refine L1.mono ?_
           clear L1
           rintro e w13 ⟨rfl, B13⟩
           have HVd := Lib.hid (HVc.out.on B13); have HEg := Lib.hid (HEe.out.below B13 HEe.out.lt); have HEh := Lib.hid (HEf.out.below B13 HEf.out.lt)
           clear e0 e1 e2 e3 e4 e5 e6 i0 i1 i2 i3 i4 i5 i6 z13 z14 c0 c1 c2 c3 c4 c5 c6 c7 c8 p0 p1 p2 zp zc HVc HEe HEf B13
           obtain ⟨e0, e1, e2, e3, e4, e5, e6⟩ := HEg.out.at7
           obtain ⟨i0, i1, i2, i3, i4, i5, i6⟩ := HEh.out.at7
           have z13 := HEg.out.lt; have z14 := HEh.out.lt
           obtain ⟨c0, c1, c2, c3, c4, c5, c6, c7, c8⟩ := HVd.out.c.nine
           obtain ⟨⟨p0, p1, p2⟩, -, zp⟩ := HVd.out.p.full3
           have zc := HVd.out.c.lt
           go_wp2_with fail
           have L2 := HLE.out ⟨AX, cX, AE, cE, AHH, cHH⟩ X E H ⟨y0, y1, y2, y3, y4, y5, y6⟩ w13 HVd.out.bel HVd.out.st
           rw [G2.out] at L2
           refine L2.mono ?_
           clear L2
           rintro e w14 ⟨rfl, B14⟩
           have HVe := Lib.hid (HVd.out.on B14); have HEi := Lib.hid (HEg.out.below B14 HEg.out.lt); have HEj := Lib.hid (HEh.out.below B14 HEh.out.lt)
           clear e0 e1 e2 e3 e4 e5 e6 i0 i1 i2 i3 i4 i5 i6 z13 z14 c0 c1 c2 c3 c4 c5 c6 c7 c8 p0 p1 p2 zp zc HVd HEg HEh B14
           obtain ⟨e0, e1, e2, e3, e4, e5, e6⟩ := HEi.out.at7
           obtain ⟨i0, i1, i2, i3, i4, i5, i6⟩ := HEj.out.at7
           have z13 := HEi.out.lt; have z14 := HEj.out.lt
           obtain ⟨c0, c1, c2, c3, c4, c5, c6, c7, c8⟩ := HVe.out.c.nine
           obtain ⟨⟨p0, p1, p2⟩, -, zp⟩ := HVe.out.p.full3
           have zc := HVe.out.c.lt
           by_cases hw1 : v1 = 2
           · subst hw1
             go_wp2_with fail
             refine (awake9_is _).mono ?_
             rintro e w20 ⟨rfl, B20⟩
             have BF := below_step (below_step HB.out HVe.out.bel) B20
             clear B20
             go_wp2_with fail
             go_ret
             exact ⟨rfl, BF⟩
           · have hx1 : (v1 == 2) = false := by simpa using hw1
             by_cases hw2 : y1 = 2
             · subst hw2
               go_wp2_with fail
               refine (awake9_is _).mono ?_
               rintro e w20 ⟨rfl, B20⟩
               have BF := below_step (below_step HB.out HVe.out.bel) B20
               clear B20
               go_wp2_with fail
               go_ret
               exact ⟨rfl, BF⟩
             · have hx2 : (y1 == 2) = false := by simpa using hw2
               have hv1 : v1 = 1 := by
                 rcases legI_what G1.out with h | h
                 · exact h
                 · exact absurd h hw1
               have hy1 : y1 = 1 := by
                 rcases legI_what G2.out with h | h
                 · exact h
                 · exact absurd h hw2
               obtain ⟨ua, ub, uc⟩ := legI_push G1.out hv1
               obtain ⟨u, a, -, ha, -, -, -, k4, -, -, -⟩ := push_lies HP.out ua ub
               obtain ⟨ud, ue, uf⟩ := legI_push G2.out hy1
               obtain ⟨u', a', -, ha', -, -, -, j4, -, -, -⟩ := push_lies HP.out ud ue
               dsimp only at ha ha'
               clear ua ub uc ud ue uf hw1 hw2 hv1 hy1 G1 G2
               subst ha; subst ha'
               have hgi := ((HI.out.below HVe.out.bel).more HVe.out.bel.size).gi
               obtain ⟨bH, oH, hH⟩ := hgi.iH.adr (by omega)
               dsimp only at hH
               subst hH
               obtain ⟨zh, hc1⟩ := tab_cell hgi.iH k4
               obtain ⟨-, hc2⟩ := tab_cell hgi.iH j4
               obtain ⟨p, hp⟩ : ∃ p : Int, (hd a : Int) = p := ⟨_, rfl⟩
               obtain ⟨p', hp'⟩ : ∃ p : Int, (hd a' : Int) = p := ⟨_, rfl⟩
               rw [hp] at hc1; rw [hp'] at hc2
               have ka1 : (a : Int) < (M : Int) := by omega
               have ka2 : (a' : Int) < (M : Int) := by omega
               have ka3 : (0 : Int) ≤ (a : Int) := by omega
               have ka4 : (0 : Int) ≤ (a' : Int) := by omega
               clear hp hp' hgi
               go_upto_region 18 with fail
               go_quiet (fail)
               by_cases hq1 : p = y2
               · subst hq1
                 have hpp : (p != p) = false := by simp
                 have hpq : (p == p) = true := by simp
                 go_wp2_with fail
                 refine (awake9_is _).mono ?_
                 rintro e w20 ⟨rfl, B20⟩
                 have BF := below_step (below_drewN' (below_step HB.out HVe.out.bel) nq) B20
                 clear B20
                 go_wp2_with fail
                 go_ret
                 exact ⟨rfl, BF⟩
               · have hr1 : (p != y2) = true := by simpa using hq1
                 have hr2 : (p == y2) = false := by simpa using hq1
                 by_cases hq2 : p' = v2
                 · subst hq2
                   have hpp : (p' != p') = false := by simp
                   have hpq : (p' == p') = true := by simp
                   go_wp2_with fail
                   refine (awake9_is _).mono ?_
                   rintro e w20 ⟨rfl, B20⟩
                   have BF := below_step (below_drewN' (below_step HB.out HVe.out.bel) nq) B20
                   clear B20
                   go_wp2_with fail
                   go_ret
                   exact ⟨rfl, BF⟩
                 · have hr3 : (p' != v2) = true := by simpa using hq2
                   have hr4 : (p' == v2) = false := by simpa using hq2
                   go_wp2_with fail
                   refine (awake9_is _).mono ?_
                   rintro e w20 ⟨rfl, B20⟩
                   have BF := below_step (below_drewN' (below_step HB.out HVe.out.bel) nq) B20
                   clear B20
                   go_wp2_with fail
                   go_ret
                   exact ⟨rfl, BF⟩
         · have HORx : True := trivial
           clear HORx HOR HSND HRUN HSu HSw HKp q0 q1 q2 zq
           rcases g2 with hn | ⟨hn, hn2⟩
           case' inl => have hn1 : ((r1.n : Int) == 2) = false := by rw [beq_eq_false_iff_ne]; omega
           case' inr =>
             rw [hn]
             have hn1 : ((r2.n : Int) == 2) = false := by rw [beq_eq_false_iff_ne]; omega
           all_goals
             go_wp2_with fail
             refine (HLE.out ⟨AX, cX, AE, cE, AHH, cHH⟩ X E H ⟨v0, v1, v2, v3, v4, v5, v6⟩ _ (below_step HVb.out.bel (below_alloc _)) (HVb.out.on (below_alloc _)).st).mono ?_
             rintro e w12 ⟨rfl, B12⟩
             have B12x := below_step (below_alloc _) B12
             have HVc := Lib.hid (HVb.out.on B12x); have HEe := Lib.hid (HEc.out.below B12x HEc.out.lt); have HEf := Lib.hid (HEd.out.below B12x HEd.out.lt)
             clear e0 e1 e2 e3 e4 e5 e6 i0 i1 i2 i3 i4 i5 i6 z13 z14 c0 c1 c2 c3 c4 c5 c6 c7 c8 p0 p1 p2 zp zc HVb HEc HEd B12 B12x hn1
             rcases g1 with h1 | ⟨h1, h2⟩
             · have hl : (legI N1 s t fst X E H ⟨v0, v1, v2, v3, v4, v5, v6⟩ != 0) = true := by simpa using h1
               have hl2 : (legI N1 s t fst X E H ⟨v0, v1, v2, v3, v4, v5, v6⟩ == 0) = false := by simpa using h1
               clear h1
               go_wp2_with fail
               refine (awake9_is _).mono ?_
               rintro e w20 ⟨rfl, B20⟩
               have BF := below_step (below_step HB.out HVc.out.bel) B20
               clear B20
               go_wp2_with fail
               go_ret
               exact ⟨rfl, BF⟩
             · rw [h1]
               clear h1
               obtain ⟨e0, e1, e2, e3, e4, e5, e6⟩ := HEe.out.at7
               obtain ⟨i0, i1, i2, i3, i4, i5, i6⟩ := HEf.out.at7
               have z13 := HEe.out.lt; have z14 := HEf.out.lt
               obtain ⟨c0, c1, c2, c3, c4, c5, c6, c7, c8⟩ := HVc.out.c.nine
               obtain ⟨⟨p0, p1, p2⟩, -, zp⟩ := HVc.out.p.full3
               have zc := HVc.out.c.lt
               go_wp2_with fail
               refine (HLE.out ⟨AX, cX, AE, cE, AHH, cHH⟩ X E H ⟨y0, y1, y2, y3, y4, y5, y6⟩ _ HVc.out.bel HVc.out.st).mono ?_
               rintro e w13 ⟨rfl, B13⟩
               have HVd := Lib.hid (HVc.out.on B13)
               clear e0 e1 e2 e3 e4 e5 e6 i0 i1 i2 i3 i4 i5 i6 z13 z14 c0 c1 c2 c3 c4 c5 c6 c7 c8 p0 p1 p2 zp zc HVc HEe HEf B13
               have hl : (legI N1 s t fst X E H ⟨y0, y1, y2, y3, y4, y5, y6⟩ != 0) = true := by simpa using h2
               have hl2 : (legI N1 s t fst X E H ⟨y0, y1, y2, y3, y4, y5, y6⟩ == 0) = false := by simpa using h2
               clear h2
               go_wp2_with fail
               refine (awake9_is _).mono ?_
               rintro e w20 ⟨rfl, B20⟩
               have BF := below_step (below_step HB.out HVd.out.bel) B20
               clear B20
               go_wp2_with fail
               go_ret
               exact ⟨rfl, BF⟩
end Go.Proofs.Ytanifbofjecpmaa
