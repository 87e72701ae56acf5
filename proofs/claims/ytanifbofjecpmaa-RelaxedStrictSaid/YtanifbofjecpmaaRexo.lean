/- Layer 7: rightExcess. -/
import Derived.Test.YtanifbofjecpmaaRhto
import Derived.Test.YtanifbofjecpmaaPnet
import Derived.Test.YtanifbofjecpmaaFito
namespace Go.Proofs.Ytanifbofjecpmaa
open Go.RowKit Go.Shelf
set_option maxRecDepth 100000
attribute [local go_sem] Oper.semAt_some

/-! A loop over a row. -/
/-- What a loop over a row keeps that begins at world size b and writes where sp says. -/
def PRow (b : Nat) (sp : Nat → Prop) (k : Nat) (_ : Obj) : Prop := k < b ∧ ¬ sp k
theorem prow_put {b : Nat} {sp : Nat → Prop} (W : World) (o' : Obj) : Kps (PRow b sp) W (W.putObj (b + 1) o') := Kps.put fun _ _ h => by have := h.1; omega
theorem prow_set {b : Nat} {sp : Nat → Prop} {W : World} {l i : Nat} {u : Value} (hs : sp l) : Kps (PRow b sp) W (W.setCell ⟨l, i, none⟩ u) := Kps.setCell fun _ _ h => h.2 hs

theorem row_ready (x N M s t v : Nat) (K : CsrS) (fst hd rv : Nat → Nat) (sp : Nat → Prop) (w1 w2 : World)
    (hw : w2 = (w1.alloc (.cells #[.int .i64 (N : Int), .int .i64 (s : Int), .int .i64 (t : Int), .slice K.AF (N + 1) K.cF, .slice K.AH M K.cH, .slice K.AR M K.cR, .slice K.AC M K.cC, .slice K.AA M K.cA, .slice K.AB M K.cB] 32)).alloc (.cells #[.int .i64 (v : Int)] 3))
    (hG : Grid N M fst hd rv) (hI : GridIn w1 x N M K fst hd rv) (hx : x ≤ w1.heap.size) (hv : v < N) (hM : M ≤ 100000000) (hN : N ≤ 4096) (hsp : ∀ k, sp k → x ≤ k ∧ k < w1.heap.size) :
    Feeds 2 78 #[.pointer (some ⟨w1.heap.size, 0, none⟩), .pointer (some ⟨w1.heap.size + 1, 0, none⟩)] tellR (Kps (PRow w2.heap.size sp)) (fun xs => xs = rowIf fst v (fun _ => true) (fst (v + 1) - fst v)) (fun pre => ∃ k, k ≤ fst (v + 1) - fst v ∧ pre = rowIf fst v (fun _ => true) k) (fst (v + 1) - fst v) w2 ∧ w2.heap.size = w1.heap.size + 2 ∧ Below w1.heap.size w1 w2 := by
  have B1 : Below w1.heap.size w1 w2 := by rw [hw]; exact ((Below.refl _ w1).alloc (Nat.le_refl _) _).alloc (by simp) _
  have S1 : w2.heap.size = w1.heap.size + 2 := by rw [hw]; simp
  have C1 : Blk w2 w1.heap.size 32 #[.int .i64 (N : Int), .int .i64 (s : Int), .int .i64 (t : Int), .slice K.AF (N + 1) K.cF, .slice K.AH M K.cH, .slice K.AR M K.cR, .slice K.AC M K.cC, .slice K.AA M K.cA, .slice K.AB M K.cB] := by rw [hw]; exact (Blk.new rfl).alloc _
  have U1 : Blk w2 (w1.heap.size + 1) 3 #[.int .i64 (v : Int)] := by rw [hw]; exact Blk.new (by simp)
  clear hw
  have hI2 := (hI.below (B1.mono hx)).more (show x ≤ w2.heap.size by omega)
  refine ⟨?_, S1, B1⟩
  have hfl := hG.fle (v := v + 1) (by omega)
  obtain ⟨bF, oF, hF⟩ := hI2.iF.adr (by omega)
  have hbF : bF < x := by
    obtain ⟨b, off, e, hb, -⟩ := hI.iF.2 (by omega)
    rw [hF] at e
    injection e with e
    injection e with e1
    omega
  have hiF := hI2.iF
  obtain ⟨AF, cF, AH, cH, AR, cR, AC, cC, AA, cA, AB, cB⟩ := K
  dsimp only at hF C1 hiF
  subst hF
  exact row_feeds _ _ bF oF cF N s t v _ _ _ _ _ fst (PRow w2.heap.size sp) w2 hv (hG.mono v hv) (by omega) hN C1 U1 hiF
    (fun o => ⟨by omega, fun h => by have := hsp _ h; omega⟩) (fun o => ⟨by omega, fun h => by have := hsp _ h; omega⟩) (fun o => ⟨by omega, fun h => by have := hsp _ h; omega⟩)

/-! The excess of a vertex, summed along its row. -/
theorem wrap_more (a b : Int) : IntKind.i64.wrap (IntKind.i64.wrap a + b) = IntKind.i64.wrap (a + b) := by
  rw [IntKind.wrap_i64, IntKind.wrap_i64, IntKind.wrap_i64]; omega
def exW (X : List Int) (cp : Nat → Int) {fst : Nat → Nat} {v : Nat} (pre : List (RowAt fst v)) : Int := pre.foldl (fun s x => IntKind.i64.wrap (s + (hOf X x.1 - cp x.1))) 0
theorem exW_snoc (X : List Int) (cp : Nat → Int) {fst : Nat → Nat} {v : Nat} (pre : List (RowAt fst v)) (x : RowAt fst v) : exW X cp (pre ++ [x]) = IntKind.i64.wrap (exW X cp pre + (hOf X x.1 - cp x.1)) := by simp [exW]
theorem exW_row (X : List Int) (cp : Nat → Int) (fst : Nat → Nat) (v : Nat) : ∀ k, fst v + k ≤ fst (v + 1) → exW X cp (rowIf fst v (fun _ => true) k) = IntKind.i64.wrap (sumN (fun j => hOf X (fst v + j) - cp (fst v + j)) k)
  | 0, _ => by simp [exW, rowIf, sumN]; exact (wrap_in (by omega) (by omega)).symm
  | k + 1, hk => by
    rw [rowIf_yes rfl ⟨by omega, by omega⟩ rfl, exW_snoc, exW_row X cp fst v k (by omega)]
    simp only [sumN]
    exact wrap_more _ _
theorem sumN_split (f : Nat → Int) (n : Nat) : ∀ m, sumN f (n + m) = sumN f n + sumN (fun j => f (n + j)) m
  | 0 => by simp [sumN]
  | m + 1 => by
    rw [← Nat.add_assoc]
    simp only [sumN]
    rw [sumN_split f n m]
    omega
theorem exT_row {N M : Nat} {fst hd rv : Nat → Nat} (hG : Grid N M fst hd rv) (cp : Nat → Int) (X : List Int) {v : Nat} (hv : v < N) : sumN (fun j => hOf X (fst v + j) - cp (fst v + j)) (fst (v + 1) - fst v) = exT M hd rv cp X v := by
  have h1 := hG.fle (v := v) (by omega)
  have h2 := hG.fle (v := v + 1) (by omega)
  have h3 := hG.mono v hv
  unfold exT
  rw [sumN_cut (n := fst (v + 1)) h2 fun j hj hjM => ?_]
  · rw [show fst (v + 1) = fst v + (fst (v + 1) - fst v) by omega, sumN_split]
    rw [sumN_congr (n := fst v) (g := fun _ => 0) fun j hj => ?_, sumN_zero]
    · rw [show fst v + (fst (v + 1) - fst v) - fst v = fst (v + 1) - fst v by omega, Int.zero_add]
      refine sumN_congr fun j hj => ?_
      rw [if_pos (hG.tail v _ hv (by omega) (by omega))]
    · refine if_neg fun e => ?_
      have hr := hG.row (a := j) (by omega)
      rw [e] at hr
      omega
  · refine if_neg fun e => ?_
    have hr := hG.row (a := j) hjM
    rw [e] at hr
    omega

set_option maxHeartbeats 8000000 in
theorem rx_is (N M s t v nH : Nat) (K : CsrS) (Q : PreS) (fst hd rv ai : Nat → Nat) (cp : Nat → Int) (bk : Nat → Bool) (X E H : List Int) (w : World) (hG : PNet N M s t fst hd rv ai cp bk) (hI : PIn w w.heap.size N M K fst hd rv ai cp bk) (hQ : StIn w w.heap.size M N nH Q X E H) (hb : Bal M rv cp X) (hv : v < N) (r : Bool)
    (hr : r = true ↔ hOf E v = exT M hd rv cp X v ∧ (0 ≤ exT M hd rv cp X v ∨ v = s)) :
    Calls Try.prog 53 #[csrW N M s t K, preW M N nH Q, .int .i64 (v : Int)] w fun e w' => e = .returned (.bool r) ∧ Below w.heap.size w w' := by
  have hM := hG.nM; have hN := hG.nN
  have HG := Lib.hid hG; have HI := Lib.hid hI; have HQ := Lib.hid hQ; have HB := Lib.hid hb; have HRR := Lib.hid hr
  have hready := fun w1 w2 hw => row_ready w.heap.size N M s t v K fst hd rv (fun k => k = w.heap.size + 1 + 1) w1 w2 hw hG.g
  have HR := Lib.hid hready
  have hrow := row_is N M s t K v
  have HO := Lib.hid hrow
  obtain ⟨AF, cF, AH, cH, AR, cR, AC, cC, AA, cA, AB, cB⟩ := K
  obtain ⟨AX, cX, AE, cE, AHH, cHH⟩ := Q
  dsimp only [csrW, preW] at HR HO ⊢
  clear hI hQ hG hready hrow hb hr
  refine (callsIn_wide (n := 3)).1 ?_
  refine callsIn_of_wp_marks Try.func53 rfl trivial ?_ rfl
  simp only [Try.ntmps53, List.size_toArray, List.length_cons, List.length_nil, Nat.reduceAdd, Nat.reduceSub, Array.replicate_succ, Array.replicate_zero, List.push_toArray, List.append_toArray, List.nil_append, List.cons_append]
  gi_wp2
  refine ⟨trivial, (callsIn_wide.2 (HO.out _)).mono ?_⟩
  rintro e w2 ⟨rfl, hw2⟩
  obtain ⟨w1, hw1⟩ : ∃ w1, (((w.alloc (.cells #[.int .i64 (N : Int), .int .i64 (s : Int), .int .i64 (t : Int), .slice AF (N + 1) cF, .slice AH M cH, .slice AR M cR, .slice AC M cC, .slice AA M cA, .slice AB M cB] 32)).alloc (.cells #[.slice AX M cX, .slice AE N cE, .slice AHH nH cHH] 29)).alloc (.cells #[.int .i64 0] 2)) = w1 := ⟨_, rfl⟩
  have B1 : Below w.heap.size w w1 := by rw [← hw1]; exact (((Below.refl _ w).alloc (Nat.le_refl _) _).alloc (by simp) _).alloc (by simp; omega) _
  have S1 : w1.heap.size = w.heap.size + 3 := by rw [← hw1]; simp
  have C1 : Blk w1 w.heap.size 32 #[.int .i64 (N : Int), .int .i64 (s : Int), .int .i64 (t : Int), .slice AF (N + 1) cF, .slice AH M cH, .slice AR M cR, .slice AC M cC, .slice AA M cA, .slice AB M cB] := by rw [← hw1]; exact ((Blk.new rfl).alloc _).alloc _
  have P1 : Blk w1 (w.heap.size + 1) 29 #[.slice AX M cX, .slice AE N cE, .slice AHH nH cHH] := by rw [← hw1]; exact (Blk.new (by simp)).alloc _
  have L1 : Blk w1 (w.heap.size + 1 + 1) 2 #[.int .i64 0] := by rw [← hw1]; exact Blk.new (by simp)
  rw [hw1] at hw2 ⊢
  clear hw1
  obtain ⟨hf, S2, B2⟩ := HR.out w1 w2 hw2 (HI.out.gi.below B1) (by omega) hv (by omega) hN (by rintro k rfl; omega)
  have C2 := C1.below B2 C1.lt; have P2 := P1.below B2 P1.lt; have L2 := L1.below B2 L1.lt
  have Bw := below_step B1 B2
  have HS1 := Lib.hid S1; have HS2 := Lib.hid S2
  clear hw2 C1 P1 L1 B1 B2 S1 S2
  gi_wp2
  refine range_go (n := 3) (gf := 78) (lb := #[.pointer (some ⟨w1.heap.size, 0, none⟩), .pointer (some ⟨w1.heap.size + 1, 0, none⟩)]) rfl (enters_of Try.func78 (by kernel_rfl) rfl)
    hf Kps.trans (fun W _ o' _ => prow_put W o') (fun _ => rfl)
    (fun pre W => (Blk W (w.heap.size + 1 + 1) 2 #[.int .i64 (exW X cp pre)] ∧
      (Blk W w.heap.size 32 #[.int .i64 (N : Int), .int .i64 (s : Int), .int .i64 (t : Int), .slice AF (N + 1) cF, .slice AH M cH, .slice AR M cR, .slice AC M cC, .slice AA M cA, .slice AB M cB] ∧ Blk W (w.heap.size + 1) 29 #[.slice AX M cX, .slice AE N cE, .slice AHH nH cHH])) ∧ Below w.heap.size w W)
    (fun _ _ => False)
    (OwnFrom.and (OwnFrom.and (Own.from (blk_own fun pre => #[.int .i64 (exW X cp pre)]) _) (OwnFrom.and (ownFrom_blk _ _ _ _) (ownFrom_blk _ _ _ _))) (ownFrom_below (Nat.le_refl _) Bw.size))
    (fun _ _ _ _ hs _ _ => hs)
    ⟨⟨L2, C2, P2⟩, Bw⟩ ?round ?done ?stop
  case round =>
    clear C2 P2 L2 Bw hf
    rintro l pre ⟨a, ha⟩ W0
    unfold tellR
    gi_wp2
    refine ⟨trivial, ?_⟩
    rintro W ⟨⟨L3, C3, P3⟩, B3⟩ hlen h5
    have hfl := HG.out.g.fle (v := v + 1) (by omega)
    have haM : a < M := by omega
    have I3 := HI.out.below B3
    have Q3 := HQ.out.below B3
    obtain ⟨bX, oX, hXa⟩ := Q3.iX.adr (by omega)
    obtain ⟨bC, oC, hCa⟩ := I3.iC.adr (by omega)
    dsimp only at hXa hCa
    subst hXa; subst hCa
    obtain ⟨hbX, cx⟩ := Q3.iX.cel (hOf_get Q3.iX.len haM)
    obtain ⟨hbC, cc⟩ := I3.iC.cel (tab_at (g := cp) haM)
    obtain ⟨a0, a1, a2, a3, a4, a5, a6, a7, a8⟩ := C3.at9
    have p0 := P3.cell 0; have p1 := P3.cell 1; have p2 := P3.cell 2
    have l0 := L3.cell 0
    simp only [List.getElem?_toArray, List.getElem?_cons_zero, List.getElem?_cons_succ] at p0 p1 p2 l0
    have lf := L3.frozen 0
    have hz := B3.size; have hz1 := C3.lt; have hz2 := P3.lt; have hz3 := L3.lt
    have hx1 := HB.out.le HG.out haM
    have hc1 := HG.out.cp0 a haM
    have hsn := exW_snoc X cp pre ⟨a, ha⟩
    have HSN := Lib.hid hsn
    clear hsn
    unfold maxSum at hx1 hc1
    obtain ⟨x, hx⟩ : ∃ x, hOf X a = x := ⟨_, rfl⟩
    obtain ⟨c, hc⟩ : ∃ c, cp a = c := ⟨_, rfl⟩
    obtain ⟨y, hy⟩ : ∃ y, exW X cp pre = y := ⟨_, rfl⟩
    obtain ⟨q, hq⟩ : ∃ q, IntKind.i64.wrap (y + (x - c)) = q := ⟨_, rfl⟩
    simp only [hx] at cx hx1 HSN
    simp only [hc] at cc hc1 HSN
    simp only [hy] at l0 L3 HSN
    rw [hq] at HSN
    have hw1 : IntKind.i64.wrap (x - c) = x - c := wrap_in (by omega) (by omega)
    have L4 := Lib.hid L3; have C4 := Lib.hid C3; have P4 := Lib.hid P3; have B4 := Lib.hid B3
    clear hx hc hy I3 Q3 L3 C3 P3 B3 hlen h5
    gi_wp2
    refine wpIn_region_split 13 rfl rfl (by kernel_rfl) (by kernel_rfl) (by kernel_rfl) ?_
    simp only [List.take_succ_cons, List.take_zero, List.drop_succ_cons, List.drop_zero]
    repeat (gi_big_quiet_step (fail))
    refine wpQuietIn_nil ?_
    rintro _ ⟨nq, rfl⟩
    gi_wp2
    refine rec_go (((others_drew W nq).trans (KeepsOthers.setCell _ _ _)).from _) ((kps_drew W nq).trans (prow_set rfl)) ⟨⟨?_, (C4.out.drewN nq).far (show w.heap.size + 0 ≠ w.heap.size + 1 + 1 by omega) _, (P4.out.drewN nq).far (by simp) _⟩, (below_drewN' B4.out nq).setCell (by simp; omega) _⟩
    have := (L4.out.drewN nq).set 0 (.int .i64 q)
    rw [HSN.out]
    exact this
  case done =>
    rintro D xs W hD rfl ⟨⟨L3, C3, P3⟩, B3⟩ hDef
    have Q3 := HQ.out.below B3
    obtain ⟨bE, oE, hEa⟩ := Q3.iE.adr (by omega)
    dsimp only at hEa
    subst hEa
    obtain ⟨hbE, ce⟩ := Q3.iE.cel (hOf_get Q3.iE.len hv)
    have hbig := HG.out.big X HB.out v hv
    have hmn := HG.out.g.mono v hv
    rw [exW_row X cp fst v _ (by omega), exT_row HG.out.g cp X hv, wrap_in (by unfold maxSum at hbig; omega) (by unfold maxSum at hbig; omega)] at L3
    obtain ⟨a0, a1, a2, a3, a4, a5, a6, a7, a8⟩ := C3.at9
    have p0 := P3.cell 0; have p1 := P3.cell 1; have p2 := P3.cell 2
    have l0 := L3.cell 0
    simp only [List.getElem?_toArray, List.getElem?_cons_zero, List.getElem?_cons_succ] at p0 p1 p2 l0
    have hr := HRR.out
    obtain ⟨x, hx⟩ : ∃ x, exT M hd rv cp X v = x := ⟨_, rfl⟩
    obtain ⟨y, hy⟩ : ∃ y, hOf E v = y := ⟨_, rfl⟩
    rw [hx] at l0 hr
    rw [hy] at ce hr
    have hrr : r = (decide (y = x) && (decide (0 ≤ x) || decide (v = s))) := by
      cases r with
      | true => have := hr.1 rfl; simpa using this
      | false =>
        have : ¬ (y = x ∧ (0 ≤ x ∨ v = s)) := fun h => by cases hr.2 h
        by_cases h1 : y = x
        · by_cases h2 : 0 ≤ x
          · exact absurd ⟨h1, .inl h2⟩ this
          · by_cases h3 : v = s
            · exact absurd ⟨h1, .inr h3⟩ this
            · simp [h2, h3]
        · simp [h1]
    have HRE := Lib.hid hrr
    have B4 := Lib.hid B3
    have hz := B3.size; have hz1 := C3.lt; have hz2 := P3.lt; have hz3 := L3.lt
    clear hx hy hr hrr C2 P2 L2 Bw hf L3 C3 P3 Q3 B3 hbig hmn HRR
    gi_wp2
    by_cases h1 : y = x
    · subst h1
      by_cases h2 : 0 ≤ y
      · refine wpIn_region_split 17 rfl rfl (by kernel_rfl) (by kernel_rfl) (by kernel_rfl) ?_
        simp only [List.take_succ_cons, List.take_zero, List.drop_succ_cons, List.drop_zero]
        repeat (gi_big_quiet_step (fail))
        refine wpQuietIn_nil ?_
        rintro _ ⟨nq, rfl⟩
        gi_wp2
        refine ⟨by simp, .inl ⟨_, _, rfl, run_takeDeferred (w := W.drewN nq) hDef, ?_⟩⟩
        obtain rfl : r = true := by rw [HRE.out]; simp [h2]
        exact ⟨_, results_tmp rfl _ _ _, rfl, rch_drop (below_drewN' B4.out nq) (by have := HS1.out; have := HS2.out; omega) (show (W.drewN nq).heap[D]? = _ from hDef) rfl rfl⟩
      · have h2' : decide (0 ≤ y) = false := decide_eq_false h2
        by_cases h3 : v = s
        · have h3' : ((v : Int) == (s : Int)) = true := by simp [h3]
          obtain rfl : r = true := by rw [HRE.out]; simp [h3]
          clear h3
          refine wpIn_region_split 17 rfl rfl (by kernel_rfl) (by kernel_rfl) (by kernel_rfl) ?_
          simp only [List.take_succ_cons, List.take_zero, List.drop_succ_cons, List.drop_zero]
          repeat (gi_big_quiet_step (fail))
          refine wpQuietIn_nil ?_
          rintro _ ⟨nq, rfl⟩
          gi_wp2
          refine ⟨by simp, .inl ⟨_, _, rfl, run_takeDeferred (w := W.drewN nq) hDef, ?_⟩⟩
          exact ⟨_, results_tmp rfl _ _ _, rfl, rch_drop (below_drewN' B4.out nq) (by have := HS1.out; have := HS2.out; omega) (show (W.drewN nq).heap[D]? = _ from hDef) rfl rfl⟩
        · have h3' : ((v : Int) == (s : Int)) = false := by simp; omega
          refine wpIn_region_split 17 rfl rfl (by kernel_rfl) (by kernel_rfl) (by kernel_rfl) ?_
          simp only [List.take_succ_cons, List.take_zero, List.drop_succ_cons, List.drop_zero]
          repeat (gi_big_quiet_step (fail))
          refine wpQuietIn_nil ?_
          rintro _ ⟨nq, rfl⟩
          gi_wp2
          refine ⟨by simp, .inl ⟨_, _, rfl, run_takeDeferred (w := W.drewN nq) hDef, ?_⟩⟩
          obtain rfl : r = false := by rw [HRE.out]; simp [h3, h2]
          exact ⟨_, results_tmp rfl _ _ _, rfl, rch_drop (below_drewN' B4.out nq) (by have := HS1.out; have := HS2.out; omega) (show (W.drewN nq).heap[D]? = _ from hDef) rfl rfl⟩
    · have h1' : (y == x) = false := by simpa using h1
      refine wpIn_region_split 17 rfl rfl (by kernel_rfl) (by kernel_rfl) (by kernel_rfl) ?_
      simp only [List.take_succ_cons, List.take_zero, List.drop_succ_cons, List.drop_zero]
      repeat (gi_big_quiet_step (fail))
      refine wpQuietIn_nil ?_
      rintro _ ⟨nq, rfl⟩
      gi_wp2
      refine ⟨by simp, .inl ⟨_, _, rfl, run_takeDeferred (w := W.drewN nq) hDef, ?_⟩⟩
      obtain rfl : r = false := by rw [HRE.out]; simp [h1]
      exact ⟨_, results_tmp rfl _ _ _, rfl, rch_drop (below_drewN' B4.out nq) (by have := HS1.out; have := HS2.out; omega) (show (W.drewN nq).heap[D]? = _ from hDef) rfl rfl⟩
  case stop =>
    rintro D pre W _ _ h
    exact h.elim

end Go.Proofs.Ytanifbofjecpmaa
