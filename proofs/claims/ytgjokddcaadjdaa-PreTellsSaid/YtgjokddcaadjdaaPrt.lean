/- PreTells: the document's own Right. -/
import Derived.Test.YtgjokddcaadjdaaPmt
namespace Go.Proofs.Ytgjokddcaadjdaa
open Go.RowKit Go.Shelf
set_option maxRecDepth 100000

/-! What the arcs' flows add, arc by arc. -/
def exC (hd rv : Nat → Nat) (bk : Nat → Bool) (X : List Int) (v a : Nat) : Int := if bk a = true then (if hd (rv a) = v then hOf X a else 0) - (if hd a = v then hOf X a else 0) else 0
def exRow (N : Nat) (hd rv : Nat → Nat) (bk : Nat → Bool) (X : List Int) (k : Nat) : List Int := (List.range N).map fun v => IntKind.i64.wrap (sumN (exC hd rv bk X v) k)
theorem wrap_less (a b : Int) : IntKind.i64.wrap (IntKind.i64.wrap a - b) = IntKind.i64.wrap (a - b) := by
  rw [IntKind.wrap_i64, IntKind.wrap_i64, IntKind.wrap_i64]; omega
section
variable {N M s t : Nat} {fst hd rv ai : Nat → Nat} {cp : Nat → Int} {bk : Nat → Bool} {X : List Int} {k v : Nat}
theorem exRow_zero : exRow N hd rv bk X 0 = List.replicate N 0 := by
  refine List.ext_getElem (by simp [exRow]) fun i h1 h2 => ?_
  simp only [exRow, List.getElem_map, List.getElem_replicate, sumN]
  exact wrap_in (by omega) (by omega)
theorem exRow_at (hv : v < N) : (exRow N hd rv bk X k)[v]? = some (IntKind.i64.wrap (sumN (exC hd rv bk X v) k)) := by simp [exRow, hv]
theorem exRow_len : (exRow N hd rv bk X k).length = N := by simp [exRow]
theorem exRow_skip (h : bk k = false) : exRow N hd rv bk X (k + 1) = exRow N hd rv bk X k := by
  unfold exRow
  refine List.map_congr_left fun v _ => ?_
  have e : exC hd rv bk X v k = 0 := by unfold exC; rw [if_neg (by rw [h]; simp)]
  simp only [sumN, e, Int.add_zero]
theorem exRow_step (h : bk k = true) (hne : hd (rv k) ≠ hd k) {e1 e2 f1 f2 x : Int} (hx : hOf X k = x) (g1 : IntKind.i64.wrap (sumN (exC hd rv bk X (hd k)) k) = e1) (g2 : IntKind.i64.wrap (sumN (exC hd rv bk X (hd (rv k))) k) = e2) (g3 : IntKind.i64.wrap (e1 - x) = f1) (g4 : IntKind.i64.wrap (e2 + x) = f2) :
    ((exRow N hd rv bk X k).set (hd k) f1).set (hd (rv k)) f2 = exRow N hd rv bk X (k + 1) := by
  refine List.ext_getElem (by simp [exRow]) fun i h1 h2 => ?_
  rw [List.getElem_set, List.getElem_set]
  simp only [exRow, List.getElem_map, List.getElem_range, sumN]
  by_cases c1 : hd (rv k) = i
  · rw [if_pos c1, ← g4, ← g2, wrap_more]
    subst c1
    have : exC hd rv bk X (hd (rv k)) k = x := by unfold exC; rw [if_pos h, if_pos rfl, if_neg (fun e => hne e.symm), hx]; omega
    rw [this]
  · rw [if_neg c1]
    by_cases c2 : hd k = i
    · rw [if_pos c2, ← g3, ← g1, wrap_less]
      subst c2
      have : exC hd rv bk X (hd k) k = -x := by unfold exC; rw [if_pos h, if_neg hne, if_pos rfl, hx]; omega
      rw [this]; congr 1
    · rw [if_neg c2]
      have : exC hd rv bk X i k = 0 := by unfold exC; rw [if_pos h, if_neg c1, if_neg c2]; omega
      rw [this, Int.add_zero]
theorem exC_all (h : PNet N M s t fst hd rv ai cp bk) (hb : Bal M rv cp X) (v : Nat) : sumN (exC hd rv bk X v) M = exT M hd rv cp X v := by
  have e1 : exT M hd rv cp X v = sumN (fun j => if bk j = true then (if hd (rv j) = v then hOf X j else 0) else 0) M + sumN (fun j => if bk j = true then 0 else if hd (rv j) = v then hOf X j - cp j else 0) M := by
    unfold exT
    rw [← sumN_add]
    refine sumN_congr fun j hj => ?_
    by_cases hk : bk j = true
    · rw [if_pos hk, if_pos hk, h.cpb j hj hk]
      split <;> omega
    · rw [if_neg hk, if_neg hk]
      omega
  rw [e1, ← sumN_inv h.g.rvl h.g.rvv (fun j => if bk j = true then 0 else if hd (rv j) = v then hOf X j - cp j else 0), ← sumN_add]
  refine sumN_congr fun j hj => ?_
  have hr := h.bkr j hj
  have hb1 := (hb.2 j hj).2
  unfold exC
  by_cases hk : bk j = true
  · have hk' : ¬ bk (rv j) = true := by rw [hr, hk]; simp
    have h0 := h.cpb j hj hk
    rw [if_pos hk, if_pos hk, if_neg hk', h.g.rvv j hj]
    split <;> split <;> omega
  · have hk' : bk (rv j) = true := by
      rw [hr]
      simpa using hk
    rw [if_neg hk, if_neg hk, if_pos hk']
    rfl
theorem exRow_all (h : PNet N M s t fst hd rv ai cp bk) (hb : Bal M rv cp X) : exRow N hd rv bk X M = tab N (exT M hd rv cp X) := by
  refine List.ext_getElem? fun i => ?_
  by_cases hi : i < N
  · rw [exRow_at hi, tab_at hi, exC_all h hb]
    have := h.big X hb i hi
    unfold maxSum at this
    rw [wrap_in (by omega) (by omega)]
  · rw [List.getElem?_eq_none (by rw [exRow_len]; omega), List.getElem?_eq_none (by rw [tab_len]; omega)]
end

set_option maxHeartbeats 32000000 in
theorem rright_is (N M s t nX nE nH : Nat) (K : CsrS) (Q : PreS) (fst hd rv ai : Nat → Nat) (cp : Nat → Int) (bk : Nat → Bool) (X E H : List Int) (w : World) (hG : PNet N M s t fst hd rv ai cp bk) (hI : PIn w w.heap.size N M K fst hd rv ai cp bk) (hQ : StIn w w.heap.size nX nE nH Q X E H)
    (r : Bool) (hr : r = true ↔ nX = M ∧ nE = N ∧ nH = N ∧ StIs N M s t hd rv cp X E H) :
    Calls Try.prog 14 #[csrW N M s t K, preW nX nE nH Q] w fun e w' => e = .returned (.bool r) ∧ Below w.heap.size w w' := by
  have hM := hG.nM; have hN := hG.nN; have hsN := hG.hs; have htN := hG.ht; have hn2 := hG.n2
  have htl := fun (k : Nat) (hk : k < M) W (hb : Below w.heap.size w W) => rtail_is N M s t k K fst hd rv W hG.g (hI.gi.on hb) hk hN
  have HTL := Lib.hid htl; have HG := Lib.hid hG; have HI := Lib.hid hI; have HQ := Lib.hid hQ; have HR := Lib.hid hr
  clear htl hr
  obtain ⟨AF, cF, AH, cH, AR, cR, AC, cC, AA, cA, AB, cB⟩ := K
  obtain ⟨AX, cX, AE, cE, AHH, cHH⟩ := Q
  dsimp only [csrW, preW] at HTL ⊢
  obtain ⟨w1, hw1⟩ : ∃ W, (w.alloc (.cells #[.int .i64 (N : Int), .int .i64 (s : Int), .int .i64 (t : Int), .slice AF (N + 1) cF, .slice AH M cH, .slice AR M cR, .slice AC M cC, .slice AA M cA, .slice AB M cB] 32)).alloc (.cells #[.slice AX nX cX, .slice AE nE cE, .slice AHH nH cHH] 29) = W := ⟨_, rfl⟩
  have B1 : Below w.heap.size w w1 := by rw [← hw1]; exact (below_alloc _).alloc (by simp) _
  have HC1 := Lib.hid (show Blk w1 w.heap.size 32 #[.int .i64 (N : Int), .int .i64 (s : Int), .int .i64 (t : Int), .slice AF (N + 1) cF, .slice AH M cH, .slice AR M cR, .slice AC M cC, .slice AA M cA, .slice AB M cB] by rw [← hw1]; exact (Blk.new rfl).alloc _)
  have HP1 := Lib.hid (show Blk w1 (w.heap.size + 1) 29 #[.slice AX nX cX, .slice AE nE cE, .slice AHH nH cHH] by rw [← hw1]; exact Blk.new (by simp))
  have HB1 := Lib.hid B1
  obtain ⟨a0, a1, a2, a3, a4, a5, a6, a7, a8⟩ := HC1.out.at9
  obtain ⟨⟨p0, p1, p2⟩, -, hz2⟩ := HP1.out.full3
  have hz1 := HC1.out.lt
  have hnot : ¬ (nX = M ∧ nE = N ∧ nH = N ∧ StIs N M s t hd rv cp X E H) → r = false := fun h => by rw [← Bool.not_eq_true, HR.out]; exact h
  have HNT := Lib.hid hnot
  clear B1 hG hI hQ hnot
  by_cases e1 : nX = M
  case neg =>
    have hb : ((nX : Int) != (M : Int)) = true := by simp; omega
    have hb' : ¬ (nX : Int) = (M : Int) := by omega
    have HFR := Lib.hid (HNT.out fun h => e1 h.1)
    go_enter Try.func14, Try.ntmps14
    go_wp2_with fail
    go_ret
    exact ⟨ret_bool HFR.out.symm, HB1.out⟩
  by_cases e2 : nE = N
  case neg =>
    subst e1
    have hb : ((nE : Int) != (N : Int)) = true := by simp; omega
    have hb' : ¬ (nE : Int) = (N : Int) := by omega
    have HFR := Lib.hid (HNT.out fun h => e2 h.2.1)
    go_enter Try.func14, Try.ntmps14
    go_wp2_with fail
    go_ret
    exact ⟨ret_bool HFR.out.symm, HB1.out⟩
  by_cases e3 : nH = N
  case neg =>
    subst e1; subst e2
    have hb : ((nH : Int) != (nE : Int)) = true := by simp; omega
    have hb' : ¬ (nH : Int) = (nE : Int) := by omega
    have HFR := Lib.hid (HNT.out fun h => e3 h.2.2.1)
    go_enter Try.func14, Try.ntmps14
    go_wp2_with fail
    go_ret
    exact ⟨ret_bool HFR.out.symm, HB1.out⟩
  obtain rfl := e1.symm; obtain rfl := e2.symm; obtain rfl := e3.symm
  have HF := Lib.hid (show ¬ StIs N M s t hd rv cp X E H → r = false from fun h => HNT.out fun h' => h h'.2.2.2)
  have HT := Lib.hid (show StIs N M s t hd rv cp X E H → r = true from fun h => HR.out.2 ⟨rfl, rfl, rfl, h⟩)
  have HXL := Lib.hid HQ.out.iX.len; have HEL := Lib.hid HQ.out.iE.len; have HHL := Lib.hid HQ.out.iH.len
  obtain ⟨i1, hi, hi0, hi1, hi2⟩ := info_parts long_info
  have hml := fun W => run_make_lit (P := Try.prog) 26 2 i1 _ Try.underlying26 hi hi0 N (by rw [hi2]; omega) (by omega) W
  rw [hi1, ivs_made] at hml
  obtain ⟨gx, hgx⟩ : ∃ g, w1.heap.size = g := ⟨_, rfl⟩
  obtain ⟨w2, hw2⟩ : ∃ W, w1.alloc (.cells (ivs (List.replicate N 0)) 2) = W := ⟨_, rfl⟩
  have HG2 := Lib.hid (show Blk w2 gx 2 (ivs (exRow N hd rv bk X 0)) by rw [← hw2, ← hgx, exRow_zero]; exact Blk.new rfl)
  have HB2 := Lib.hid (show Below gx w1 w2 by rw [← hw2, ← hgx]; exact below_alloc _)
  have h0N : (0 : Int) ≤ (N : Int) := by omega
  have HGX := Lib.hid hgx
  clear hi hi0 hi1 hi2 HNT HR
  go_enter Try.func14, Try.ntmps14
  go_wp2_with fail
  clear hw1 hw2 hml hgx a0 a1 a2 a3 a4 a5 a6 a7 a8 p0 p1 p2 hz1 hz2
  go_loopw [6, 7, 8] (fun i _ _ wr => ∃ k : Nat, k ≤ M ∧ i = .int .i64 k ∧ (∀ a, a < k → 0 ≤ hOf X a ∧ hOf X a + hOf X (rv a) = cp a + cp (rv a)) ∧ Blk wr gx 2 (ivs (exRow N hd rv bk X k)) ∧ Below gx w1 wr) (fun i _ _ _ => M - (intOf i).toNat)
  case atStart => exact ⟨0, Nat.zero_le _, rfl, fun a h => by omega, HG2.out, HB2.out⟩
  case round =>
    clear HG2 HB2
    obtain ⟨k, hk, rfl, hpr, hgr, hbr⟩ := hrel
    have HPR := Lib.hid hpr; have HGR := Lib.hid hgr; have HBR := Lib.hid hbr
    have hb1 : Below w1.heap.size w1 wr := by rw [HGX.out]; exact hbr
    have HBw := Lib.hid (below_step HB1.out hb1)
    have Cr := HC1.out.below hb1 HC1.out.lt; have Pr := HP1.out.below hb1 HP1.out.lt
    obtain ⟨a0, a1, a2, a3, a4, a5, a6, a7, a8⟩ := Cr.at9
    obtain ⟨⟨p0, p1, p2⟩, -, hz2⟩ := Pr.full3
    have hz1 := Cr.lt
    have hzg := hgr.lt
    have hlow1 : w.heap.size < gx ∧ w.heap.size + 1 < gx := by have := HC1.out.lt; have := HP1.out.lt; rw [HGX.out] at *; omega
    clear hpr hgr hbr Cr Pr
    by_cases hlt : k < M
    · have hM0 : 0 < M := by omega
      have HI2 := HI.out.on HBw.out; have HQ2 := HQ.out.on HBw.out
      obtain ⟨bR, oR, hRa⟩ := HI2.gi.iR.adr hM0
      obtain ⟨bD, oD, hDa⟩ := HI2.gi.iH.adr hM0
      obtain ⟨bC, oC, hCa⟩ := HI2.iC.adr hM0
      obtain ⟨bX, oX, hXa⟩ := HQ2.iX.adr hM0
      obtain ⟨bB, oB, hBa, hbB, cbk⟩ := tab_bool HI2.iB hlt
      have hiR := HI2.gi.iR; have hiD := HI2.gi.iH; have hiC := HI2.iC; have hiX := HQ2.iX
      dsimp only at hRa hDa hCa hXa hBa hiR hiD hiC hiX
      subst hRa; subst hDa; subst hCa; subst hXa; subst hBa
      have hra := HG.out.g.rvl k hlt
      obtain ⟨hbR, cr⟩ := tab_cell hiR hlt
      obtain ⟨hbD, cd⟩ := tab_cell hiD hlt
      obtain ⟨-, cd2⟩ := tab_cell hiD hra
      obtain ⟨hbC, cc⟩ := hiC.cel (tab_at hlt)
      obtain ⟨-, cc2⟩ := hiC.cel (tab_at hra)
      obtain ⟨hbX, cx⟩ := hiX.cel (hOf_get HXL.out hlt)
      obtain ⟨-, cx2⟩ := hiX.cel (hOf_get HXL.out hra)
      have hcp1 := HG.out.cp0 k hlt; have hcp2 := HG.out.cp0 _ hra
      have hcz : cp k = 0 ∨ cp (rv k) = 0 := by
        have hb := HG.out.bkr k hlt
        cases hbk : bk k with
        | true => exact .inl (HG.out.cpb k hlt hbk)
        | false => exact .inr (HG.out.cpb _ hra (by rw [hb, hbk]; rfl))
      have hne := HG.out.nol k hlt
      have hu := HG.out.mN hlt
      have hv := HG.out.g.hdl k hlt
      obtain ⟨q, hq⟩ : ∃ q, rv k = q := ⟨_, rfl⟩
      obtain ⟨u, hu'⟩ : ∃ u, hd (rv k) = u := ⟨_, rfl⟩
      obtain ⟨v, hv'⟩ : ∃ v, hd k = v := ⟨_, rfl⟩
      have HUE := Lib.hid hu'; have HVE := Lib.hid hv'; have HQE := Lib.hid hq
      rw [hu'] at cd2 hu hne; rw [hv'] at cd hv hne
      rw [hq] at cr cd2 cc2 cx2 hra hcp2 hcz
      obtain ⟨x, hx'⟩ : ∃ x, hOf X k = x := ⟨_, rfl⟩
      obtain ⟨y, hy'⟩ : ∃ y, hOf X q = y := ⟨_, rfl⟩
      obtain ⟨ca, hca⟩ : ∃ y, cp k = y := ⟨_, rfl⟩
      obtain ⟨cb, hcb⟩ : ∃ y, cp q = y := ⟨_, rfl⟩
      rw [hx'] at cx; rw [hy'] at cx2; rw [hca] at cc hcp1 hcz; rw [hcb] at cc2 hcp2 hcz
      have HXE := Lib.hid hx'; have HYE := Lib.hid hy'; have HCA := Lib.hid hca; have HCB := Lib.hid hcb
      obtain ⟨m, hm⟩ : ∃ m, IntKind.i64.wrap (ca + cb) = m := ⟨_, rfl⟩
      have hmm : m = ca + cb ∧ 0 ≤ m ∧ m ≤ 4611686018427387904 := by
        unfold maxSum at hcp1 hcp2
        rw [← hm, wrap_in (by omega) (by omega)]
        omega
      have HMM := Lib.hid hmm
      obtain ⟨z, hz⟩ : ∃ z, IntKind.i64.wrap (x + y) = z := ⟨_, rfl⟩
      have HZ := Lib.hid hz
      obtain ⟨b, hbb⟩ : ∃ b, bk k = b := ⟨_, rfl⟩
      rw [hbb] at cbk
      have HBB := Lib.hid hbb
      obtain ⟨e1, he1⟩ : ∃ e, IntKind.i64.wrap (sumN (exC hd rv bk X v) k) = e := ⟨_, rfl⟩
      obtain ⟨e2, he2⟩ : ∃ e, IntKind.i64.wrap (sumN (exC hd rv bk X u) k) = e := ⟨_, rfl⟩
      have HE1 := Lib.hid he1; have HE2 := Lib.hid he2
      obtain ⟨f1, hf1⟩ : ∃ f, IntKind.i64.wrap (e1 - x) = f := ⟨_, rfl⟩
      obtain ⟨f2, hf2⟩ : ∃ f, IntKind.i64.wrap (e2 + x) = f := ⟨_, rfl⟩
      have HF1 := Lib.hid hf1; have HF2 := Lib.hid hf2
      clear hcp1 hcp2 hcz hmm hq hu' hv' hx' hy' hca hcb hbb he1 he2 hiR hiD hiC hiX HI2 HQ2 hM0 hb1
      by_cases h1 : x < 0
      · have d1 : decide (x < 0) = true := decide_eq_true h1
        have hf := HF.out (fun h => by have := (h.bal.2 k hlt).1; rw [HXE.out] at this; omega)
        have HFR := Lib.hid hf
        clear hf
        as_aux_lemma =>
          go_wp2_with fail
          go_quiet (fail)
          go_wp2_with fail
          go_quiet (fail)
          go_wp2_with fail
          go_ret
          exact ⟨ret_bool HFR.out.symm, below_drewN' (below_drewN' HBw.out _) _⟩
      have d1 : decide (x < 0) = false := decide_eq_false h1
      by_cases h2 : m < x
      · have d2 : decide (m < x) = true := decide_eq_true h2
        have hf := HF.out (fun h => by have h3 := h.bal.2 k hlt; have h4 := h.bal.2 (rv k) (HG.out.g.rvl k hlt); rw [HQE.out] at h3 h4; rw [HXE.out, HYE.out, HCA.out, HCB.out] at h3; rw [HYE.out] at h4; have := HMM.out; omega)
        have HFR := Lib.hid hf
        clear hf
        as_aux_lemma =>
          go_wp2_with fail
          go_quiet (fail)
          go_wp2_with fail
          go_quiet (fail)
          go_wp2_with fail
          go_ret
          exact ⟨ret_bool HFR.out.symm, below_drewN' (below_drewN' HBw.out _) _⟩
      have d2 : decide (m < x) = false := decide_eq_false h2
      by_cases h3 : y < 0
      · have d3 : decide (y < 0) = true := decide_eq_true h3
        have hf := HF.out (fun h => by have := (h.bal.2 (rv k) (HG.out.g.rvl k hlt)).1; rw [HQE.out, HYE.out] at this; omega)
        have HFR := Lib.hid hf
        clear hf
        as_aux_lemma =>
          go_wp2_with fail
          go_quiet (fail)
          go_wp2_with fail
          go_quiet (fail)
          go_wp2_with fail
          go_ret
          exact ⟨ret_bool HFR.out.symm, below_drewN' (below_drewN' HBw.out _) _⟩
      have d3 : decide (y < 0) = false := decide_eq_false h3
      by_cases h4 : m < y
      · have d4 : decide (m < y) = true := decide_eq_true h4
        have hf := HF.out (fun h => by have h3 := h.bal.2 k hlt; rw [HQE.out, HXE.out, HYE.out, HCA.out, HCB.out] at h3; have := HMM.out; omega)
        have HFR := Lib.hid hf
        clear hf
        as_aux_lemma =>
          go_wp2_with fail
          go_quiet (fail)
          go_wp2_with fail
          go_quiet (fail)
          go_wp2_with fail
          go_ret
          exact ⟨ret_bool HFR.out.symm, below_drewN' (below_drewN' HBw.out _) _⟩
      have d4 : decide (m < y) = false := decide_eq_false h4
      by_cases h5 : x + y = m
      case neg =>
        have hz1 : ¬ z = m := by rw [← HZ.out, IntKind.wrap_i64]; have := HMM.out; omega
        have hzb : (z != m) = true := by simpa using hz1
        have hf := HF.out (fun h => by have h3 := h.bal.2 k hlt; rw [HQE.out, HXE.out, HYE.out, HCA.out, HCB.out] at h3; have := HMM.out; omega)
        have HFR := Lib.hid hf
        clear hf h5
        as_aux_lemma =>
          go_wp2_with fail
          go_quiet (fail)
          go_wp2_with fail
          go_quiet (fail)
          go_wp2_with fail
          go_ret
          exact ⟨ret_bool HFR.out.symm, below_drewN' (below_drewN' HBw.out _) _⟩
      have hzm : IntKind.i64.wrap (x + y) = m := by rw [h5]; exact wrap_in (by have := HMM.out; omega) (by have := HMM.out; omega)
      have hpr1 : ∀ a, a < k + 1 → 0 ≤ hOf X a ∧ hOf X a + hOf X (rv a) = cp a + cp (rv a) := fun a ha => by
        by_cases e : a = k
        · subst e
          rw [HQE.out, HXE.out, HYE.out, HCA.out, HCB.out]
          have := HMM.out
          omega
        · exact HPR.out a (by omega)
      have HPR1 := Lib.hid hpr1
      clear hz hpr1 h1 h2 h3 h4 h5 HZ
      cases b with
      | false =>
        have hsk := exRow_skip (N := N) (hd := hd) (rv := rv) (X := X) HBB.out
        have HSK := Lib.hid hsk
        clear hsk
        as_aux_lemma =>
          go_wp2_with fail
          go_quiet (fail)
          go_wp2_with fail
          go_quiet (fail)
          go_wp2_with fail
          refine ⟨⟨k + 1, by omega, by go_num, HPR1.out, by rw [HSK.out]; exact HGR.out.drewN _, below_drewN' HBR.out _⟩, ?_⟩
          simp [intOf]; omega
      | true =>
        have hst := exRow_step (N := N) (hd := hd) (rv := rv) (X := X) HBB.out (by rw [HUE.out, HVE.out]; exact hne) HXE.out (by rw [HVE.out]; exact HE1.out) (by rw [HUE.out]; exact HE2.out) HF1.out HF2.out
        rw [HUE.out, HVE.out] at hst
        have HST := Lib.hid hst
        clear hst
        as_aux_lemma =>
          go_wp2_with fail
          go_quiet (fail)
          obtain ⟨n1, hn1⟩ : ∃ n, n = nq := ⟨_, rfl⟩
          subst hn1
          go_wp2_with fail
          go_quiet (fail)
          obtain ⟨n2, hn2⟩ : ∃ n, n = nq := ⟨_, rfl⟩
          subst hn2
          go_wp2_with fail
          obtain ⟨wq, hwq⟩ : ∃ W, wr.drewN (n1 + n2) = W := ⟨_, rfl⟩
          have HGQ := Lib.hid (show Blk wq gx 2 (ivs (exRow N hd rv bk X k)) by rw [← hwq]; exact HGR.out.drewN _)
          have HBQ := Lib.hid (show Below gx w1 wq by rw [← hwq]; exact below_drewN' HBR.out _)
          have hbq1 : Below w1.heap.size w1 wq := by rw [HGX.out]; exact HBQ.out
          have HBwq := Lib.hid (below_step HB1.out hbq1)
          rw [hwq]
          have o4 := ((HC1.out.below hbq1 HC1.out.lt).at9).2.2.2.2.1
          have o0 := (HP1.out.below hbq1 HP1.out.lt).full3.1.1
          have ocd := (tab_cell (HI.out.gi.iH.on HBwq.out) hlt).2
          have ocx := ((HQ.out.iX.on HBwq.out).cel (hOf_get HXL.out hlt)).2
          have oce := HGQ.out.iat (exRow_at hv)
          rw [HVE.out] at ocd; rw [HXE.out] at ocx; rw [HE1.out] at oce
          obtain ⟨w8, hw8⟩ : ∃ W, wq.drew.setCell ⟨gx, v, none⟩ (.int .i64 f1) = W := ⟨_, rfl⟩
          have HG8 := Lib.hid (show Blk w8 gx 2 (ivs ((exRow N hd rv bk X k).set v f1)) by rw [← hw8]; exact (HGQ.out.drew).iset v f1)
          have HB8 := Lib.hid (show Below gx w1 w8 by rw [← hw8]; exact HBQ.out.drew.setCell (Nat.le_refl _) _)
          have hfz := HGQ.out.frozen v
          have hzq := HGQ.out.lt
          clear hbq1 a0 a1 a2 a3 a4 a5 a6 a7 a8 p0 p1 p2 hz1 hz2 cr cd cd2 cc cc2 cx cx2 cbk hzg
          refine wp_region_lastL (S := fun W' => W'.cell? ⟨w.heap.size, 4, none⟩ = some (.slice (some ⟨bD, oD, none⟩) M cH) ∧ W'.cell? ⟨bD, oD + k, none⟩ = some (.int .i64 (v : Int)) ∧ W'.cell? ⟨w.heap.size + 1, 0, none⟩ = some (.slice (some ⟨bX, oX, none⟩) M cX) ∧ W'.cell? ⟨bX, oX + k, none⟩ = some (.int .i64 x) ∧ W'.cell? ⟨gx, v, none⟩ = some (.int .i64 e1)) rfl (by as_aux_lemma => kernel_rfl) (by as_aux_lemma => kernel_rfl) ⟨o4, ocd, o0, ocx, oce⟩ (fun hS0 => ?_)
          simp only [List.dropLast]
          refine ta (v := ?_) 0 112 rfl ?_ ?_
          rotate_left
          · (intro W' hSw; obtain ⟨t0, t1, t2, t3, t4⟩ := hSw; go_simp; try with_reducible rfl)
          simp only [Act.put, pa, pz, ps]
          refine ta (v := ?_) 1 113 rfl ?_ ?_
          rotate_left
          · (intro W' hSw; obtain ⟨t0, t1, t2, t3, t4⟩ := hSw; go_simp; try with_reducible rfl)
          simp only [Act.put, pa, pz, ps]
          refine ta (v := ?_) 2 114 rfl ?_ ?_
          rotate_left
          · (intro W' hSw; obtain ⟨t0, t1, t2, t3, t4⟩ := hSw; go_simp; try with_reducible rfl)
          simp only [Act.put, pa, pz, ps]
          refine ta (v := ?_) 3 115 rfl ?_ ?_
          rotate_left
          · (intro W' hSw; obtain ⟨t0, t1, t2, t3, t4⟩ := hSw; go_simp; try with_reducible rfl)
          simp only [Act.put, pa, pz, ps]
          refine ta (v := ?_) 4 116 rfl ?_ ?_
          rotate_left
          · (intro W' hSw; obtain ⟨t0, t1, t2, t3, t4⟩ := hSw; go_simp; try with_reducible rfl)
          simp only [Act.put, pa, pz, ps]
          refine ta (v := ?_) 5 117 rfl ?_ ?_
          rotate_left
          · (intro W' hSw; obtain ⟨t0, t1, t2, t3, t4⟩ := hSw; go_simp; try with_reducible rfl)
          simp only [Act.put, pa, pz, ps]
          refine ta (v := ?_) 6 118 rfl ?_ ?_
          rotate_left
          · (intro W' hSw; obtain ⟨t0, t1, t2, t3, t4⟩ := hSw; go_simp; try with_reducible rfl)
          simp only [Act.put, pa, pz, ps]
          refine ta (v := ?_) 7 119 rfl ?_ ?_
          rotate_left
          · (intro W' hSw; obtain ⟨t0, t1, t2, t3, t4⟩ := hSw; go_simp; try with_reducible rfl)
          simp only [Act.put, pa, pz, ps]
          refine ta (v := ?_) 8 120 rfl ?_ ?_
          rotate_left
          · (intro W' hSw; obtain ⟨t0, t1, t2, t3, t4⟩ := hSw; go_simp; try with_reducible rfl)
          simp only [Act.put, pa, pz, ps]
          refine ta (v := ?_) 9 121 rfl ?_ ?_
          rotate_left
          · (intro W' hSw; obtain ⟨t0, t1, t2, t3, t4⟩ := hSw; go_simp; try with_reducible rfl)
          simp only [Act.put, pa, pz, ps]
          refine ta (v := ?_) 10 122 rfl ?_ ?_
          rotate_left
          · (intro W' hSw; obtain ⟨t0, t1, t2, t3, t4⟩ := hSw; go_simp; try with_reducible rfl)
          simp only [Act.put, pa, pz, ps]
          refine ta (v := ?_) 11 123 rfl ?_ ?_
          rotate_left
          · (intro W' hSw; obtain ⟨t0, t1, t2, t3, t4⟩ := hSw; go_simp; try with_reducible rfl)
          simp only [Act.put, pa, pz, ps]
          refine ta (v := ?_) 12 124 rfl ?_ ?_
          rotate_left
          · (intro W' hSw; obtain ⟨t0, t1, t2, t3, t4⟩ := hSw; go_simp; try with_reducible rfl)
          simp only [Act.put, pa, pz, ps]
          refine ta (v := ?_) 13 125 rfl ?_ ?_
          rotate_left
          · (intro W' hSw; obtain ⟨t0, t1, t2, t3, t4⟩ := hSw; go_simp; try with_reducible rfl)
          simp only [Act.put, pa, pz, ps]
          refine ta (v := ?_) 14 126 rfl ?_ ?_
          rotate_left
          · (intro W' hSw; obtain ⟨t0, t1, t2, t3, t4⟩ := hSw; go_simp; try with_reducible rfl)
          simp only [Act.put, pa, pz, ps]
          refine ta (v := ?_) 15 127 rfl ?_ ?_
          rotate_left
          · (intro W' hSw; obtain ⟨t0, t1, t2, t3, t4⟩ := hSw; go_simp; try with_reducible rfl)
          simp only [Act.put, pa, pz, ps]
          refine ta (v := ?_) 16 128 rfl ?_ ?_
          rotate_left
          · (intro W' hSw; obtain ⟨t0, t1, t2, t3, t4⟩ := hSw; go_simp; try with_reducible rfl)
          simp only [Act.put, pa, pz, ps]
          refine ta (v := ?_) 17 129 rfl ?_ ?_
          rotate_left
          · (intro W' hSw; obtain ⟨t0, t1, t2, t3, t4⟩ := hSw; go_simp; try with_reducible rfl)
          simp only [Act.put, pa, pz, ps]
          refine ta (v := ?_) 18 130 rfl ?_ ?_
          rotate_left
          · (intro W' hSw; obtain ⟨t0, t1, t2, t3, t4⟩ := hSw; go_simp; try with_reducible rfl)
          simp only [Act.put, pa, pz, ps]
          refine ta (v := ?_) 19 131 rfl ?_ ?_
          rotate_left
          · (intro W' hSw; obtain ⟨t0, t1, t2, t3, t4⟩ := hSw; go_simp; try with_reducible rfl)
          simp only [Act.put, pa, pz, ps]
          refine ta (v := ?_) 20 132 rfl ?_ ?_
          rotate_left
          · (intro W' hSw; obtain ⟨t0, t1, t2, t3, t4⟩ := hSw; go_simp; try with_reducible rfl)
          simp only [Act.put, pa, pz, ps]
          refine wpAnyH_done (by kernel_rfl) ?_ _
          clear hS0
          go_wp2_with fail
          clear hw8 o4 o0 ocd ocx oce hfz hzq hwq
          have hb81 : Below w1.heap.size w1 w8 := by rw [HGX.out]; exact HB8.out
          have HBw8 := Lib.hid (below_step HB1.out hb81)
          have o4 := ((HC1.out.below hb81 HC1.out.lt).at9).2.2.2.2.1
          have o0 := (HP1.out.below hb81 HP1.out.lt).full3.1.1
          have ocd := (tab_cell (HI.out.gi.iH.on HBw8.out) hra).2
          have ocx := ((HQ.out.iX.on HBw8.out).cel (hOf_get HXL.out hlt)).2
          have oce := HG8.out.iat (i := u) (x := e2) (by rw [List.getElem?_set, if_neg (fun e => hne e.symm), exRow_at hu, HE2.out])
          rw [show hd q = u by rw [← HQE.out]; exact HUE.out] at ocd
          rw [HXE.out] at ocx
          obtain ⟨w9, hw9⟩ : ∃ W, w8.drew.setCell ⟨gx, u, none⟩ (.int .i64 f2) = W := ⟨_, rfl⟩
          have HG9 := Lib.hid (show Blk w9 gx 2 (ivs (exRow N hd rv bk X (k + 1))) by rw [← hw9, ← HST.out]; exact (HG8.out.drew).iset u f2)
          have HB9 := Lib.hid (show Below gx w1 w9 by rw [← hw9]; exact HB8.out.drew.setCell (Nat.le_refl _) _)
          have hfz := HG8.out.frozen u
          have hzq := HG8.out.lt
          clear hb81
          refine wp_region_lastL (S := fun W' => W'.cell? ⟨w.heap.size, 4, none⟩ = some (.slice (some ⟨bD, oD, none⟩) M cH) ∧ W'.cell? ⟨bD, oD + q, none⟩ = some (.int .i64 (u : Int)) ∧ W'.cell? ⟨w.heap.size + 1, 0, none⟩ = some (.slice (some ⟨bX, oX, none⟩) M cX) ∧ W'.cell? ⟨bX, oX + k, none⟩ = some (.int .i64 x) ∧ W'.cell? ⟨gx, u, none⟩ = some (.int .i64 e2)) rfl (by as_aux_lemma => kernel_rfl) (by as_aux_lemma => kernel_rfl) ⟨o4, ocd, o0, ocx, oce⟩ (fun hS0 => ?_)
          simp only [List.dropLast]
          refine ta (v := ?_) 0 133 rfl ?_ ?_
          rotate_left
          · (intro W' hSw; obtain ⟨t0, t1, t2, t3, t4⟩ := hSw; go_simp; try with_reducible rfl)
          simp only [Act.put, pa, pz, ps]
          refine ta (v := ?_) 1 134 rfl ?_ ?_
          rotate_left
          · (intro W' hSw; obtain ⟨t0, t1, t2, t3, t4⟩ := hSw; go_simp; try with_reducible rfl)
          simp only [Act.put, pa, pz, ps]
          refine ta (v := ?_) 2 135 rfl ?_ ?_
          rotate_left
          · (intro W' hSw; obtain ⟨t0, t1, t2, t3, t4⟩ := hSw; go_simp; try with_reducible rfl)
          simp only [Act.put, pa, pz, ps]
          refine ta (v := ?_) 3 136 rfl ?_ ?_
          rotate_left
          · (intro W' hSw; obtain ⟨t0, t1, t2, t3, t4⟩ := hSw; go_simp; try with_reducible rfl)
          simp only [Act.put, pa, pz, ps]
          refine ta (v := ?_) 4 137 rfl ?_ ?_
          rotate_left
          · (intro W' hSw; obtain ⟨t0, t1, t2, t3, t4⟩ := hSw; go_simp; try with_reducible rfl)
          simp only [Act.put, pa, pz, ps]
          refine ta (v := ?_) 5 138 rfl ?_ ?_
          rotate_left
          · (intro W' hSw; obtain ⟨t0, t1, t2, t3, t4⟩ := hSw; go_simp; try with_reducible rfl)
          simp only [Act.put, pa, pz, ps]
          refine ta (v := ?_) 6 139 rfl ?_ ?_
          rotate_left
          · (intro W' hSw; obtain ⟨t0, t1, t2, t3, t4⟩ := hSw; go_simp; try with_reducible rfl)
          simp only [Act.put, pa, pz, ps]
          refine ta (v := ?_) 7 140 rfl ?_ ?_
          rotate_left
          · (intro W' hSw; obtain ⟨t0, t1, t2, t3, t4⟩ := hSw; go_simp; try with_reducible rfl)
          simp only [Act.put, pa, pz, ps]
          refine ta (v := ?_) 8 141 rfl ?_ ?_
          rotate_left
          · (intro W' hSw; obtain ⟨t0, t1, t2, t3, t4⟩ := hSw; go_simp; try with_reducible rfl)
          simp only [Act.put, pa, pz, ps]
          refine ta (v := ?_) 9 142 rfl ?_ ?_
          rotate_left
          · (intro W' hSw; obtain ⟨t0, t1, t2, t3, t4⟩ := hSw; go_simp; try with_reducible rfl)
          simp only [Act.put, pa, pz, ps]
          refine ta (v := ?_) 10 143 rfl ?_ ?_
          rotate_left
          · (intro W' hSw; obtain ⟨t0, t1, t2, t3, t4⟩ := hSw; go_simp; try with_reducible rfl)
          simp only [Act.put, pa, pz, ps]
          refine ta (v := ?_) 11 144 rfl ?_ ?_
          rotate_left
          · (intro W' hSw; obtain ⟨t0, t1, t2, t3, t4⟩ := hSw; go_simp; try with_reducible rfl)
          simp only [Act.put, pa, pz, ps]
          refine ta (v := ?_) 12 145 rfl ?_ ?_
          rotate_left
          · (intro W' hSw; obtain ⟨t0, t1, t2, t3, t4⟩ := hSw; go_simp; try with_reducible rfl)
          simp only [Act.put, pa, pz, ps]
          refine ta (v := ?_) 13 146 rfl ?_ ?_
          rotate_left
          · (intro W' hSw; obtain ⟨t0, t1, t2, t3, t4⟩ := hSw; go_simp; try with_reducible rfl)
          simp only [Act.put, pa, pz, ps]
          refine ta (v := ?_) 14 147 rfl ?_ ?_
          rotate_left
          · (intro W' hSw; obtain ⟨t0, t1, t2, t3, t4⟩ := hSw; go_simp; try with_reducible rfl)
          simp only [Act.put, pa, pz, ps]
          refine ta (v := ?_) 15 148 rfl ?_ ?_
          rotate_left
          · (intro W' hSw; obtain ⟨t0, t1, t2, t3, t4⟩ := hSw; go_simp; try with_reducible rfl)
          simp only [Act.put, pa, pz, ps]
          refine ta (v := ?_) 16 149 rfl ?_ ?_
          rotate_left
          · (intro W' hSw; obtain ⟨t0, t1, t2, t3, t4⟩ := hSw; go_simp; try with_reducible rfl)
          simp only [Act.put, pa, pz, ps]
          refine ta (v := ?_) 17 150 rfl ?_ ?_
          rotate_left
          · (intro W' hSw; obtain ⟨t0, t1, t2, t3, t4⟩ := hSw; go_simp; try with_reducible rfl)
          simp only [Act.put, pa, pz, ps]
          refine ta (v := ?_) 18 151 rfl ?_ ?_
          rotate_left
          · (intro W' hSw; obtain ⟨t0, t1, t2, t3, t4⟩ := hSw; go_simp; try with_reducible rfl)
          simp only [Act.put, pa, pz, ps]
          refine ta (v := ?_) 19 152 rfl ?_ ?_
          rotate_left
          · (intro W' hSw; obtain ⟨t0, t1, t2, t3, t4⟩ := hSw; go_simp; try with_reducible rfl)
          simp only [Act.put, pa, pz, ps]
          refine ta (v := ?_) 20 153 rfl ?_ ?_
          rotate_left
          · (intro W' hSw; obtain ⟨t0, t1, t2, t3, t4⟩ := hSw; go_simp; try with_reducible rfl)
          simp only [Act.put, pa, pz, ps]
          refine wpAnyH_done (by kernel_rfl) ?_ _
          clear hS0
          go_wp2_with fail
          refine ⟨⟨k + 1, by omega, by go_num, HPR1.out, HG9.out, HB9.out⟩, ?_⟩
          simp [intOf]; omega
    · have ek : M = k := by omega
      subst ek
      have hbal : Bal M rv cp X := ⟨HXL.out, HPR.out⟩
      have hga := exRow_all HG.out hbal
      have hbig := HG.out.big X hbal
      have HBAL := Lib.hid hbal
      have HGE := Lib.hid (show Blk wr gx 2 (ivs (tab N (exT M hd rv cp X))) by rw [← hga]; exact HGR.out)
      obtain ⟨w3, hw3⟩ : ∃ W, W = wr := ⟨_, rfl⟩
      subst hw3
      have hb31 : Below w1.heap.size w1 w3 := by rw [HGX.out]; exact HBR.out
      have HB31 := Lib.hid hb31
      clear hbal hga hb1 hb31 hbig hlt
      go_wp2_with fail
      clear a0 a1 a2 a3 a4 a5 a6 a7 a8 p0 p1 p2 hz1 hz2 hzg
      have hw2n : IntKind.i64.wrap (2 * (N : Int)) = 2 * (N : Int) := wrap_in (by omega) (by omega)
      go_loopw [9] (fun i wr => ∃ (v : Nat), v ≤ N ∧ i = .int .i64 v ∧ (∀ u, u < v → hOf E u = exT M hd rv cp X u ∧ (u ≠ s → 0 ≤ hOf E u) ∧ 0 ≤ hOf H u ∧ hOf H u < 2 * N) ∧ Below w3.heap.size w3 wr) (fun i _ => N - (intOf i).toNat)
      case atStart => exact ⟨0, Nat.zero_le _, rfl, fun u h => by omega, Below.refl _ _⟩
      case round =>
        obtain ⟨v, hv, rfl, hpr, hbv⟩ := hrel
        have HBV := Lib.hid hbv
        have HPV := Lib.hid hpr
        have hb4 : Below w1.heap.size w1 wr := below_step HB31.out hbv
        have HBw4 := Lib.hid (below_step HB1.out hb4)
        obtain ⟨a0, a1, a2, a3, a4, a5, a6, a7, a8⟩ := (HC1.out.below hb4 HC1.out.lt).at9
        obtain ⟨⟨p0, p1, p2⟩, -, hz2⟩ := (HP1.out.below hb4 HP1.out.lt).full3
        have hz1 := (HC1.out.below hb4 HC1.out.lt).lt
        clear hpr hb4 hbv
        by_cases hlt : v < N
        · obtain ⟨bE, oE, hEa⟩ := (HQ.out.on HBw4.out).iE.adr (by omega)
          obtain ⟨bH, oH, hHa⟩ := (HQ.out.on HBw4.out).iH.adr (by omega)
          have hiE := (HQ.out.on HBw4.out).iE; have hiH := (HQ.out.on HBw4.out).iH
          dsimp only at hEa hHa hiE hiH
          subst hEa; subst hHa
          obtain ⟨hbE, ce⟩ := hiE.cel (hOf_get HEL.out hlt)
          obtain ⟨hbH, ch⟩ := hiH.cel (hOf_get HHL.out hlt)
          have cg := (HGE.out.below HBV.out HGE.out.lt).iat (tab_at hlt)
          have hzg := (HGE.out.below HBV.out HGE.out.lt).lt
          obtain ⟨e, he⟩ : ∃ e, exT M hd rv cp X v = e := ⟨_, rfl⟩
          obtain ⟨ev, hev⟩ : ∃ e, hOf E v = e := ⟨_, rfl⟩
          obtain ⟨h, hh⟩ : ∃ e, hOf H v = e := ⟨_, rfl⟩
          rw [he] at cg; rw [hev] at ce; rw [hh] at ch
          have HEE := Lib.hid he; have HEV := Lib.hid hev; have HHV := Lib.hid hh
          clear hiE hiH he hev hh
          by_cases h1 : e = ev
          case neg =>
            have d1 : (e != ev) = true := by simpa using h1
            have hf := HF.out (fun h' => h1 (by have := h'.exc v hlt; rw [HEV.out, HEE.out] at this; exact this.symm))
            have HFR := Lib.hid hf
            clear hf
            as_aux_lemma =>
              go_wp2_with fail
              go_quiet (fail)
              go_wp2_with fail
              go_ret
              exact ⟨ret_bool HFR.out.symm, below_drewN' HBw4.out _⟩
          subst h1
          by_cases h2 : v = s
          · have h2b : ((v : Int) != (s : Int)) = false := by simp; omega
            have HVS := Lib.hid h2
            clear h2
            by_cases h3 : h < 0
            · have d3 : decide (h < 0) = true := decide_eq_true h3
              have hf := HF.out (fun h' => by have := (h'.bnd v hlt).1; rw [HHV.out] at this; omega)
              have HFR := Lib.hid hf
              clear hf
              as_aux_lemma =>
                go_wp2_with fail
                go_quiet (fail)
                go_wp2_with fail
                go_ret
                exact ⟨ret_bool HFR.out.symm, below_drewN' HBw4.out _⟩
            have d3 : decide (h < 0) = false := decide_eq_false h3
            by_cases h4 : 2 * (N : Int) ≤ h
            · have d4 : decide (2 * (N : Int) ≤ h) = true := decide_eq_true h4
              have hf := HF.out (fun h' => by have := (h'.bnd v hlt).2; rw [HHV.out] at this; omega)
              have HFR := Lib.hid hf
              clear hf
              as_aux_lemma =>
                go_wp2_with fail
                go_quiet (fail)
                go_wp2_with fail
                go_ret
                exact ⟨ret_bool HFR.out.symm, below_drewN' HBw4.out _⟩
            have d4 : decide (2 * (N : Int) ≤ h) = false := decide_eq_false h4
            have hpv : ∀ u, u < v + 1 → hOf E u = exT M hd rv cp X u ∧ (u ≠ s → 0 ≤ hOf E u) ∧ 0 ≤ hOf H u ∧ hOf H u < 2 * N := fun u hu => by
              by_cases e' : u = v
              · subst e'
                rw [HEV.out, HEE.out, HHV.out]
                exact ⟨rfl, fun hn => absurd HVS.out hn, by omega, by omega⟩
              · exact HPV.out u (by omega)
            have HPV1 := Lib.hid hpv
            clear hpv
            as_aux_lemma =>
              go_wp2_with fail
              go_quiet (fail)
              go_wp2_with fail
              refine ⟨⟨v + 1, by omega, by go_num, HPV1.out, below_drewN' HBV.out _⟩, ?_⟩
              simp [intOf]; omega
          have h2b : ((v : Int) != (s : Int)) = true := by simp; omega
          have h2c : ¬ (v : Int) = (s : Int) := by omega
          by_cases h5 : e < 0
          · have d5 : decide (e < 0) = true := decide_eq_true h5
            have hf := HF.out (fun h' => by have := h'.neg v hlt h2; rw [HEV.out] at this; omega)
            have HFR := Lib.hid hf
            clear hf
            as_aux_lemma =>
              go_wp2_with fail
              go_quiet (fail)
              go_wp2_with fail
              go_ret
              exact ⟨ret_bool HFR.out.symm, below_drewN' HBw4.out _⟩
          have d5 : decide (e < 0) = false := decide_eq_false h5
          by_cases h3 : h < 0
          · have d3 : decide (h < 0) = true := decide_eq_true h3
            have hf := HF.out (fun h' => by have := (h'.bnd v hlt).1; rw [HHV.out] at this; omega)
            have HFR := Lib.hid hf
            clear hf
            as_aux_lemma =>
              go_wp2_with fail
              go_quiet (fail)
              go_wp2_with fail
              go_ret
              exact ⟨ret_bool HFR.out.symm, below_drewN' HBw4.out _⟩
          have d3 : decide (h < 0) = false := decide_eq_false h3
          by_cases h4 : 2 * (N : Int) ≤ h
          · have d4 : decide (2 * (N : Int) ≤ h) = true := decide_eq_true h4
            have hf := HF.out (fun h' => by have := (h'.bnd v hlt).2; rw [HHV.out] at this; omega)
            have HFR := Lib.hid hf
            clear hf
            as_aux_lemma =>
              go_wp2_with fail
              go_quiet (fail)
              go_wp2_with fail
              go_ret
              exact ⟨ret_bool HFR.out.symm, below_drewN' HBw4.out _⟩
          have d4 : decide (2 * (N : Int) ≤ h) = false := decide_eq_false h4
          have hpv : ∀ u, u < v + 1 → hOf E u = exT M hd rv cp X u ∧ (u ≠ s → 0 ≤ hOf E u) ∧ 0 ≤ hOf H u ∧ hOf H u < 2 * N := fun u hu => by
            by_cases e' : u = v
            · subst e'
              rw [HEV.out, HEE.out, HHV.out]
              exact ⟨rfl, fun _ => by omega, by omega, by omega⟩
            · exact HPV.out u (by omega)
          have HPV1 := Lib.hid hpv
          clear hpv
          as_aux_lemma =>
            go_wp2_with fail
            go_quiet (fail)
            go_wp2_with fail
            refine ⟨⟨v + 1, by omega, by go_num, HPV1.out, below_drewN' HBV.out _⟩, ?_⟩
            simp [intOf]; omega
        · have ev : N = v := by omega
          subst ev
          obtain ⟨w5, hw5⟩ : ∃ W, W = wr := ⟨_, rfl⟩
          subst hw5
          have HB5 := Lib.hid (below_step HB31.out HBV.out)
          clear hlt HBw4
          go_wp2_with fail
          clear a0 a1 a2 a3 a4 a5 a6 a7 a8 p0 p1 p2 hz1 hz2
          go_loopw [10] (fun i wr => ∃ a : Nat, a ≤ M ∧ i = .int .i64 a ∧ (∀ b, b < a → 0 < hOf X b → hOf H (hd (rv b)) ≤ hOf H (hd b) + 1) ∧ Below w5.heap.size w5 wr) (fun i _ => M - (intOf i).toNat)
          case atStart => exact ⟨0, Nat.zero_le _, rfl, fun b h => by omega, Below.refl _ _⟩
          case round =>
            obtain ⟨a, ha, rfl, hpr, hb6⟩ := hrel
            have HPA := Lib.hid hpr; have HB6 := Lib.hid hb6
            have hb61 := below_step HB5.out hb6
            have HB61 := Lib.hid hb61
            have HBw6 := Lib.hid (below_step HB1.out hb61)
            obtain ⟨a0, a1, a2, a3, a4, a5, a6, a7, a8⟩ := (HC1.out.below hb61 HC1.out.lt).at9
            obtain ⟨⟨p0, p1, p2⟩, -, hz2⟩ := (HP1.out.below hb61 HP1.out.lt).full3
            have hz1 := (HC1.out.below hb61 HC1.out.lt).lt
            clear hpr hb6 hb61
            by_cases hlt : a < M
            · have hu := HG.out.mN hlt
              have hv2 := HG.out.g.hdl a hlt
              obtain ⟨bX, oX, hXa⟩ := (HQ.out.on HBw6.out).iX.adr (by omega)
              obtain ⟨bH, oH, hHa⟩ := (HQ.out.on HBw6.out).iH.adr (by omega)
              obtain ⟨bD, oD, hDa⟩ := (HI.out.on HBw6.out).gi.iH.adr (by omega)
              have hiX := (HQ.out.on HBw6.out).iX; have hiH := (HQ.out.on HBw6.out).iH; have hiD := (HI.out.on HBw6.out).gi.iH
              dsimp only at hXa hHa hDa hiX hiH hiD
              subst hXa; subst hHa; subst hDa
              obtain ⟨hbX, cx⟩ := hiX.cel (hOf_get HXL.out hlt)
              have hbr := (HPV.out _ hv2).2.2
              obtain ⟨y, hy⟩ : ∃ y, hOf X a = y := ⟨_, rfl⟩
              rw [hy] at cx
              have HYE := Lib.hid hy
              clear hy
              by_cases h1 : 0 < y
              · have d1 : decide (0 < y) = true := decide_eq_true h1
                obtain ⟨hbD, cd⟩ := tab_cell hiD hlt
                obtain ⟨hbH, chv⟩ := hiH.cel (hOf_get HHL.out hv2)
                obtain ⟨-, chu⟩ := hiH.cel (hOf_get HHL.out hu)
                have htl := HTL.out a hlt
                obtain ⟨u, hu'⟩ : ∃ u, hd (rv a) = u := ⟨_, rfl⟩
                obtain ⟨v2, hv'⟩ : ∃ u, hd a = u := ⟨_, rfl⟩
                rw [hu'] at chu hu htl; rw [hv'] at cd chv hv2 hbr
                obtain ⟨hU, hhu⟩ : ∃ y, hOf H u = y := ⟨_, rfl⟩
                obtain ⟨hV, hhv⟩ : ∃ y, hOf H v2 = y := ⟨_, rfl⟩
                rw [hhu] at chu; rw [hhv] at chv hbr
                have hwp : IntKind.i64.wrap (hV + 1) = hV + 1 := wrap_in (by omega) (by omega)
                have HUE := Lib.hid hu'; have HVE := Lib.hid hv'; have HHU := Lib.hid hhu; have HHV2 := Lib.hid hhv; have HTK := Lib.hid htl
                have hkeep : ∀ W', Below wr.heap.size wr W' → W'.cell? ⟨w.heap.size, 0, none⟩ = some (.int .i64 (N : Int)) ∧ W'.cell? ⟨w.heap.size, 1, none⟩ = some (.int .i64 (s : Int)) ∧ W'.cell? ⟨w.heap.size, 2, none⟩ = some (.int .i64 (t : Int)) ∧ W'.cell? ⟨w.heap.size, 3, none⟩ = some (.slice AF (N + 1) cF) ∧ W'.cell? ⟨w.heap.size, 4, none⟩ = some (.slice (some ⟨bD, oD, none⟩) M cH) ∧ W'.cell? ⟨w.heap.size, 5, none⟩ = some (.slice AR M cR) ∧ W'.cell? ⟨w.heap.size, 6, none⟩ = some (.slice AC M cC) ∧ W'.cell? ⟨w.heap.size, 7, none⟩ = some (.slice AA M cA) ∧ W'.cell? ⟨w.heap.size, 8, none⟩ = some (.slice AB M cB) ∧ W'.cell? ⟨w.heap.size + 1, 0, none⟩ = some (.slice (some ⟨bX, oX, none⟩) M cX) ∧ W'.cell? ⟨w.heap.size + 1, 2, none⟩ = some (.slice (some ⟨bH, oH, none⟩) N cHH) ∧ W'.cell? ⟨bX, oX + a, none⟩ = some (.int .i64 y) ∧ W'.cell? ⟨bD, oD + a, none⟩ = some (.int .i64 (v2 : Int)) ∧ W'.cell? ⟨bH, oH + v2, none⟩ = some (.int .i64 hV) ∧ W'.cell? ⟨bH, oH + u, none⟩ = some (.int .i64 hU) := fun W' hb => by
                  have hw1' := below_step HB61.out hb
                  have hww := below_step HB1.out hw1'
                  have q9 := (HC1.out.below hw1' HC1.out.lt).at9
                  have qp := (HP1.out.below hw1' HP1.out.lt).full3.1
                  have qx := ((HQ.out.iX.on hww).cel (hOf_get HXL.out hlt)).2
                  have qd := (tab_cell (HI.out.gi.iH.on hww) hlt).2
                  have qv := ((HQ.out.iH.on hww).cel (hOf_get HHL.out hv2)).2
                  have qu := ((HQ.out.iH.on hww).cel (hOf_get HHL.out hu)).2
                  rw [HYE.out] at qx; rw [HVE.out] at qd; rw [HHV2.out] at qv; rw [HHU.out] at qu
                  exact ⟨q9.1, q9.2.1, q9.2.2.1, q9.2.2.2.1, q9.2.2.2.2.1, q9.2.2.2.2.2.1, q9.2.2.2.2.2.2.1, q9.2.2.2.2.2.2.2.1, q9.2.2.2.2.2.2.2.2, qp.1, qp.2.2, qx, qd, qv, qu⟩
                have HKEEP := Lib.hid hkeep
                have hzD : bD < wr.heap.size := hbD
                clear hu' hv' hhu hhv htl hkeep hiX hiH hiD
                by_cases h2 : hV + 1 < hU
                · have d2 : decide (hV + 1 < hU) = true := decide_eq_true h2
                  have hf := HF.out (fun h => by have := h.arc a hlt (by rw [HYE.out]; exact h1); rw [HUE.out, HVE.out, HHU.out, HHV2.out] at this; omega)
                  have HFR := Lib.hid hf
                  clear hf
                  as_aux_lemma =>
                    go_wp2_with fail
                    clear a0 a1 a2 a3 a4 a5 a6 a7 a8 p0 p1 p2
                    refine wp_region_held_drew (S := fun W' => W'.cell? ⟨w.heap.size, 0, none⟩ = some (.int .i64 (N : Int)) ∧ W'.cell? ⟨w.heap.size, 1, none⟩ = some (.int .i64 (s : Int)) ∧ W'.cell? ⟨w.heap.size, 2, none⟩ = some (.int .i64 (t : Int)) ∧ W'.cell? ⟨w.heap.size, 3, none⟩ = some (.slice AF (N + 1) cF) ∧ W'.cell? ⟨w.heap.size, 4, none⟩ = some (.slice (some ⟨bD, oD, none⟩) M cH) ∧ W'.cell? ⟨w.heap.size, 5, none⟩ = some (.slice AR M cR) ∧ W'.cell? ⟨w.heap.size, 6, none⟩ = some (.slice AC M cC) ∧ W'.cell? ⟨w.heap.size, 7, none⟩ = some (.slice AA M cA) ∧ W'.cell? ⟨w.heap.size, 8, none⟩ = some (.slice AB M cB) ∧ W'.cell? ⟨w.heap.size + 1, 0, none⟩ = some (.slice (some ⟨bX, oX, none⟩) M cX) ∧ W'.cell? ⟨w.heap.size + 1, 2, none⟩ = some (.slice (some ⟨bH, oH, none⟩) N cHH) ∧ W'.cell? ⟨bX, oX + a, none⟩ = some (.int .i64 y) ∧ W'.cell? ⟨bD, oD + a, none⟩ = some (.int .i64 (v2 : Int)) ∧ W'.cell? ⟨bH, oH + v2, none⟩ = some (.int .i64 hV) ∧ W'.cell? ⟨bH, oH + u, none⟩ = some (.int .i64 hU)) (by kernel_rfl) (HKEEP.out _ (Below.refl _ _).drew) (fun hS0 => ?_)
                    refine ta (v := ?_) 0 209 rfl ?_ ?_
                    rotate_left
                    · (intro W' hSw; obtain ⟨t0, t1, t2, t3, t4, t5, t6, t7, t8, t9, t10, t11, t12, t13, t14⟩ := hSw; go_simp; try with_reducible rfl)
                    simp only [Act.put, pa, pz, ps]
                    refine ta (v := ?_) 1 210 rfl ?_ ?_
                    rotate_left
                    · (intro W' hSw; obtain ⟨t0, t1, t2, t3, t4, t5, t6, t7, t8, t9, t10, t11, t12, t13, t14⟩ := hSw; go_simp; try with_reducible rfl)
                    simp only [Act.put, pa, pz, ps]
                    refine ta (v := ?_) 2 211 rfl ?_ ?_
                    rotate_left
                    · (intro W' hSw; obtain ⟨t0, t1, t2, t3, t4, t5, t6, t7, t8, t9, t10, t11, t12, t13, t14⟩ := hSw; go_simp; try with_reducible rfl)
                    simp only [Act.put, pa, pz, ps]
                    refine ta (v := ?_) 3 212 rfl ?_ ?_
                    rotate_left
                    · (intro W' hSw; obtain ⟨t0, t1, t2, t3, t4, t5, t6, t7, t8, t9, t10, t11, t12, t13, t14⟩ := hSw; go_simp; try with_reducible rfl)
                    simp only [Act.put, pa, pz, ps]
                    refine ta (v := ?_) 4 213 rfl ?_ ?_
                    rotate_left
                    · (intro W' hSw; obtain ⟨t0, t1, t2, t3, t4, t5, t6, t7, t8, t9, t10, t11, t12, t13, t14⟩ := hSw; go_simp; try with_reducible rfl)
                    simp only [Act.put, pa, pz, ps]
                    refine ta (v := ?_) 5 214 rfl ?_ ?_
                    rotate_left
                    · (intro W' hSw; obtain ⟨t0, t1, t2, t3, t4, t5, t6, t7, t8, t9, t10, t11, t12, t13, t14⟩ := hSw; go_simp; try with_reducible rfl)
                    simp only [Act.put, pa, pz, ps]
                    refine ta (v := ?_) 6 215 rfl ?_ ?_
                    rotate_left
                    · (intro W' hSw; obtain ⟨t0, t1, t2, t3, t4, t5, t6, t7, t8, t9, t10, t11, t12, t13, t14⟩ := hSw; go_simp; try with_reducible rfl)
                    simp only [Act.put, pa, pz, ps]
                    refine ta (v := ?_) 7 216 rfl ?_ ?_
                    rotate_left
                    · (intro W' hSw; obtain ⟨t0, t1, t2, t3, t4, t5, t6, t7, t8, t9, t10, t11, t12, t13, t14⟩ := hSw; go_simp; try with_reducible rfl)
                    simp only [Act.put, pa, pz, ps]
                    refine ta (v := ?_) 8 217 rfl ?_ ?_
                    rotate_left
                    · (intro W' hSw; obtain ⟨t0, t1, t2, t3, t4, t5, t6, t7, t8, t9, t10, t11, t12, t13, t14⟩ := hSw; go_simp; try with_reducible rfl)
                    simp only [Act.put, pa, pz, ps]
                    refine ta (v := ?_) 9 218 rfl ?_ ?_
                    rotate_left
                    · (intro W' hSw; obtain ⟨t0, t1, t2, t3, t4, t5, t6, t7, t8, t9, t10, t11, t12, t13, t14⟩ := hSw; go_simp; try with_reducible rfl)
                    simp only [Act.put, pa, pz, ps]
                    refine ta (v := ?_) 10 219 rfl ?_ ?_
                    rotate_left
                    · (intro W' hSw; obtain ⟨t0, t1, t2, t3, t4, t5, t6, t7, t8, t9, t10, t11, t12, t13, t14⟩ := hSw; go_simp; try with_reducible rfl)
                    simp only [Act.put, pa, pz, ps]
                    refine ta (v := ?_) 14 223 rfl ?_ ?_
                    rotate_left
                    · (intro W' hSw; obtain ⟨t0, t1, t2, t3, t4, t5, t6, t7, t8, t9, t10, t11, t12, t13, t14⟩ := hSw; go_simp; try with_reducible rfl)
                    simp only [Act.put, pa, pz, ps]
                    refine ta (v := ?_) 15 224 rfl ?_ ?_
                    rotate_left
                    · (intro W' hSw; obtain ⟨t0, t1, t2, t3, t4, t5, t6, t7, t8, t9, t10, t11, t12, t13, t14⟩ := hSw; go_simp; try with_reducible rfl)
                    simp only [Act.put, pa, pz, ps]
                    refine ta (v := ?_) 16 225 rfl ?_ ?_
                    rotate_left
                    · (intro W' hSw; obtain ⟨t0, t1, t2, t3, t4, t5, t6, t7, t8, t9, t10, t11, t12, t13, t14⟩ := hSw; go_simp; try with_reducible rfl)
                    simp only [Act.put, pa, pz, ps]
                    refine ta (v := ?_) 17 226 rfl ?_ ?_
                    rotate_left
                    · (intro W' hSw; obtain ⟨t0, t1, t2, t3, t4, t5, t6, t7, t8, t9, t10, t11, t12, t13, t14⟩ := hSw; go_simp; try with_reducible rfl)
                    simp only [Act.put, pa, pz, ps]
                    refine ta (v := ?_) 18 227 rfl ?_ ?_
                    rotate_left
                    · (intro W' hSw; obtain ⟨t0, t1, t2, t3, t4, t5, t6, t7, t8, t9, t10, t11, t12, t13, t14⟩ := hSw; go_simp; try with_reducible rfl)
                    simp only [Act.put, pa, pz, ps]
                    refine ta (v := ?_) 19 228 rfl ?_ ?_
                    rotate_left
                    · (intro W' hSw; obtain ⟨t0, t1, t2, t3, t4, t5, t6, t7, t8, t9, t10, t11, t12, t13, t14⟩ := hSw; go_simp; try with_reducible rfl)
                    simp only [Act.put, pa, pz, ps]
                    refine ta (v := ?_) 20 229 rfl ?_ ?_
                    rotate_left
                    · (intro W' hSw; obtain ⟨t0, t1, t2, t3, t4, t5, t6, t7, t8, t9, t10, t11, t12, t13, t14⟩ := hSw; go_simp; try with_reducible rfl)
                    simp only [Act.put, pa, pz, ps]
                    refine ta (v := ?_) 21 230 rfl ?_ ?_
                    rotate_left
                    · (intro W' hSw; obtain ⟨t0, t1, t2, t3, t4, t5, t6, t7, t8, t9, t10, t11, t12, t13, t14⟩ := hSw; go_simp; try with_reducible rfl)
                    simp only [Act.put, pa, pz, ps]
                    refine ta (v := ?_) 22 231 rfl ?_ ?_
                    rotate_left
                    · (intro W' hSw; obtain ⟨t0, t1, t2, t3, t4, t5, t6, t7, t8, t9, t10, t11, t12, t13, t14⟩ := hSw; go_simp; try with_reducible rfl)
                    simp only [Act.put, pa, pz, ps]
                    refine ta (v := ?_) 23 232 rfl ?_ ?_
                    rotate_left
                    · (intro W' hSw; obtain ⟨t0, t1, t2, t3, t4, t5, t6, t7, t8, t9, t10, t11, t12, t13, t14⟩ := hSw; go_simp; try with_reducible rfl)
                    simp only [Act.put, pa, pz, ps]
                    refine wpAnyH_ready (rs := [11]) (by kernel_rfl) (by simp) ?_
                    refine AllReadyH.cons rfl (fun K hK => ?_) AllReadyH.nil
                    go_simp
                    refine (HTK.out _ (below_step HBw6.out (Below.refl _ _).drew)).mono ?_
                    rintro e w7 ⟨rfl, B7⟩
                    have Bc := below_step (Below.refl wr.heap.size wr).drew B7
                    refine hK.out _ _ (HKEEP.out _ Bc) (fun hS1 => ?_)
                    clear hK K hS0
                    try simp only [Act.put, pa, pz, ps]
                    refine ta (v := ?_) 12 221 rfl ?_ ?_
                    rotate_left
                    · (intro W' hSw; obtain ⟨t0, t1, t2, t3, t4, t5, t6, t7, t8, t9, t10, t11, t12, t13, t14⟩ := hSw; go_simp; try with_reducible rfl)
                    simp only [Act.put, pa, pz, ps]
                    refine ta (v := ?_) 13 222 rfl ?_ ?_
                    rotate_left
                    · (intro W' hSw; obtain ⟨t0, t1, t2, t3, t4, t5, t6, t7, t8, t9, t10, t11, t12, t13, t14⟩ := hSw; go_simp; try with_reducible rfl)
                    simp only [Act.put, pa, pz, ps]
                    refine ta (v := ?_) 24 233 rfl ?_ ?_
                    rotate_left
                    · (intro W' hSw; obtain ⟨t0, t1, t2, t3, t4, t5, t6, t7, t8, t9, t10, t11, t12, t13, t14⟩ := hSw; go_simp; try with_reducible rfl)
                    simp only [Act.put, pa, pz, ps]
                    refine ta (v := ?_) 25 234 rfl ?_ ?_
                    rotate_left
                    · (intro W' hSw; obtain ⟨t0, t1, t2, t3, t4, t5, t6, t7, t8, t9, t10, t11, t12, t13, t14⟩ := hSw; go_simp; try with_reducible rfl)
                    simp only [Act.put, pa, pz, ps]
                    refine wpAnyH_done (by kernel_rfl) ?_ _
                    clear hS1
                    go_wp2_with fail
                    go_ret
                    exact ⟨ret_bool HFR.out.symm, below_step HBw6.out (Bc)⟩
                · have d2 : decide (hV + 1 < hU) = false := decide_eq_false h2
                  have hpa : ∀ b, b < a + 1 → 0 < hOf X b → hOf H (hd (rv b)) ≤ hOf H (hd b) + 1 := fun b hb hp => by
                    by_cases e : b = a
                    · subst e; rw [HUE.out, HVE.out, HHU.out, HHV2.out]; omega
                    · exact HPA.out b (by omega) hp
                  have HPA1 := Lib.hid hpa
                  clear hpa
                  as_aux_lemma =>
                    go_wp2_with fail
                    clear a0 a1 a2 a3 a4 a5 a6 a7 a8 p0 p1 p2
                    refine wp_region_held_drew (S := fun W' => W'.cell? ⟨w.heap.size, 0, none⟩ = some (.int .i64 (N : Int)) ∧ W'.cell? ⟨w.heap.size, 1, none⟩ = some (.int .i64 (s : Int)) ∧ W'.cell? ⟨w.heap.size, 2, none⟩ = some (.int .i64 (t : Int)) ∧ W'.cell? ⟨w.heap.size, 3, none⟩ = some (.slice AF (N + 1) cF) ∧ W'.cell? ⟨w.heap.size, 4, none⟩ = some (.slice (some ⟨bD, oD, none⟩) M cH) ∧ W'.cell? ⟨w.heap.size, 5, none⟩ = some (.slice AR M cR) ∧ W'.cell? ⟨w.heap.size, 6, none⟩ = some (.slice AC M cC) ∧ W'.cell? ⟨w.heap.size, 7, none⟩ = some (.slice AA M cA) ∧ W'.cell? ⟨w.heap.size, 8, none⟩ = some (.slice AB M cB) ∧ W'.cell? ⟨w.heap.size + 1, 0, none⟩ = some (.slice (some ⟨bX, oX, none⟩) M cX) ∧ W'.cell? ⟨w.heap.size + 1, 2, none⟩ = some (.slice (some ⟨bH, oH, none⟩) N cHH) ∧ W'.cell? ⟨bX, oX + a, none⟩ = some (.int .i64 y) ∧ W'.cell? ⟨bD, oD + a, none⟩ = some (.int .i64 (v2 : Int)) ∧ W'.cell? ⟨bH, oH + v2, none⟩ = some (.int .i64 hV) ∧ W'.cell? ⟨bH, oH + u, none⟩ = some (.int .i64 hU)) (by kernel_rfl) (HKEEP.out _ (Below.refl _ _).drew) (fun hS0 => ?_)
                    refine ta (v := ?_) 0 209 rfl ?_ ?_
                    rotate_left
                    · (intro W' hSw; obtain ⟨t0, t1, t2, t3, t4, t5, t6, t7, t8, t9, t10, t11, t12, t13, t14⟩ := hSw; go_simp; try with_reducible rfl)
                    simp only [Act.put, pa, pz, ps]
                    refine ta (v := ?_) 1 210 rfl ?_ ?_
                    rotate_left
                    · (intro W' hSw; obtain ⟨t0, t1, t2, t3, t4, t5, t6, t7, t8, t9, t10, t11, t12, t13, t14⟩ := hSw; go_simp; try with_reducible rfl)
                    simp only [Act.put, pa, pz, ps]
                    refine ta (v := ?_) 2 211 rfl ?_ ?_
                    rotate_left
                    · (intro W' hSw; obtain ⟨t0, t1, t2, t3, t4, t5, t6, t7, t8, t9, t10, t11, t12, t13, t14⟩ := hSw; go_simp; try with_reducible rfl)
                    simp only [Act.put, pa, pz, ps]
                    refine ta (v := ?_) 3 212 rfl ?_ ?_
                    rotate_left
                    · (intro W' hSw; obtain ⟨t0, t1, t2, t3, t4, t5, t6, t7, t8, t9, t10, t11, t12, t13, t14⟩ := hSw; go_simp; try with_reducible rfl)
                    simp only [Act.put, pa, pz, ps]
                    refine ta (v := ?_) 4 213 rfl ?_ ?_
                    rotate_left
                    · (intro W' hSw; obtain ⟨t0, t1, t2, t3, t4, t5, t6, t7, t8, t9, t10, t11, t12, t13, t14⟩ := hSw; go_simp; try with_reducible rfl)
                    simp only [Act.put, pa, pz, ps]
                    refine ta (v := ?_) 5 214 rfl ?_ ?_
                    rotate_left
                    · (intro W' hSw; obtain ⟨t0, t1, t2, t3, t4, t5, t6, t7, t8, t9, t10, t11, t12, t13, t14⟩ := hSw; go_simp; try with_reducible rfl)
                    simp only [Act.put, pa, pz, ps]
                    refine ta (v := ?_) 6 215 rfl ?_ ?_
                    rotate_left
                    · (intro W' hSw; obtain ⟨t0, t1, t2, t3, t4, t5, t6, t7, t8, t9, t10, t11, t12, t13, t14⟩ := hSw; go_simp; try with_reducible rfl)
                    simp only [Act.put, pa, pz, ps]
                    refine ta (v := ?_) 7 216 rfl ?_ ?_
                    rotate_left
                    · (intro W' hSw; obtain ⟨t0, t1, t2, t3, t4, t5, t6, t7, t8, t9, t10, t11, t12, t13, t14⟩ := hSw; go_simp; try with_reducible rfl)
                    simp only [Act.put, pa, pz, ps]
                    refine ta (v := ?_) 8 217 rfl ?_ ?_
                    rotate_left
                    · (intro W' hSw; obtain ⟨t0, t1, t2, t3, t4, t5, t6, t7, t8, t9, t10, t11, t12, t13, t14⟩ := hSw; go_simp; try with_reducible rfl)
                    simp only [Act.put, pa, pz, ps]
                    refine ta (v := ?_) 9 218 rfl ?_ ?_
                    rotate_left
                    · (intro W' hSw; obtain ⟨t0, t1, t2, t3, t4, t5, t6, t7, t8, t9, t10, t11, t12, t13, t14⟩ := hSw; go_simp; try with_reducible rfl)
                    simp only [Act.put, pa, pz, ps]
                    refine ta (v := ?_) 10 219 rfl ?_ ?_
                    rotate_left
                    · (intro W' hSw; obtain ⟨t0, t1, t2, t3, t4, t5, t6, t7, t8, t9, t10, t11, t12, t13, t14⟩ := hSw; go_simp; try with_reducible rfl)
                    simp only [Act.put, pa, pz, ps]
                    refine ta (v := ?_) 14 223 rfl ?_ ?_
                    rotate_left
                    · (intro W' hSw; obtain ⟨t0, t1, t2, t3, t4, t5, t6, t7, t8, t9, t10, t11, t12, t13, t14⟩ := hSw; go_simp; try with_reducible rfl)
                    simp only [Act.put, pa, pz, ps]
                    refine ta (v := ?_) 15 224 rfl ?_ ?_
                    rotate_left
                    · (intro W' hSw; obtain ⟨t0, t1, t2, t3, t4, t5, t6, t7, t8, t9, t10, t11, t12, t13, t14⟩ := hSw; go_simp; try with_reducible rfl)
                    simp only [Act.put, pa, pz, ps]
                    refine ta (v := ?_) 16 225 rfl ?_ ?_
                    rotate_left
                    · (intro W' hSw; obtain ⟨t0, t1, t2, t3, t4, t5, t6, t7, t8, t9, t10, t11, t12, t13, t14⟩ := hSw; go_simp; try with_reducible rfl)
                    simp only [Act.put, pa, pz, ps]
                    refine ta (v := ?_) 17 226 rfl ?_ ?_
                    rotate_left
                    · (intro W' hSw; obtain ⟨t0, t1, t2, t3, t4, t5, t6, t7, t8, t9, t10, t11, t12, t13, t14⟩ := hSw; go_simp; try with_reducible rfl)
                    simp only [Act.put, pa, pz, ps]
                    refine ta (v := ?_) 18 227 rfl ?_ ?_
                    rotate_left
                    · (intro W' hSw; obtain ⟨t0, t1, t2, t3, t4, t5, t6, t7, t8, t9, t10, t11, t12, t13, t14⟩ := hSw; go_simp; try with_reducible rfl)
                    simp only [Act.put, pa, pz, ps]
                    refine ta (v := ?_) 19 228 rfl ?_ ?_
                    rotate_left
                    · (intro W' hSw; obtain ⟨t0, t1, t2, t3, t4, t5, t6, t7, t8, t9, t10, t11, t12, t13, t14⟩ := hSw; go_simp; try with_reducible rfl)
                    simp only [Act.put, pa, pz, ps]
                    refine ta (v := ?_) 20 229 rfl ?_ ?_
                    rotate_left
                    · (intro W' hSw; obtain ⟨t0, t1, t2, t3, t4, t5, t6, t7, t8, t9, t10, t11, t12, t13, t14⟩ := hSw; go_simp; try with_reducible rfl)
                    simp only [Act.put, pa, pz, ps]
                    refine ta (v := ?_) 21 230 rfl ?_ ?_
                    rotate_left
                    · (intro W' hSw; obtain ⟨t0, t1, t2, t3, t4, t5, t6, t7, t8, t9, t10, t11, t12, t13, t14⟩ := hSw; go_simp; try with_reducible rfl)
                    simp only [Act.put, pa, pz, ps]
                    refine ta (v := ?_) 22 231 rfl ?_ ?_
                    rotate_left
                    · (intro W' hSw; obtain ⟨t0, t1, t2, t3, t4, t5, t6, t7, t8, t9, t10, t11, t12, t13, t14⟩ := hSw; go_simp; try with_reducible rfl)
                    simp only [Act.put, pa, pz, ps]
                    refine ta (v := ?_) 23 232 rfl ?_ ?_
                    rotate_left
                    · (intro W' hSw; obtain ⟨t0, t1, t2, t3, t4, t5, t6, t7, t8, t9, t10, t11, t12, t13, t14⟩ := hSw; go_simp; try with_reducible rfl)
                    simp only [Act.put, pa, pz, ps]
                    refine wpAnyH_ready (rs := [11]) (by kernel_rfl) (by simp) ?_
                    refine AllReadyH.cons rfl (fun K hK => ?_) AllReadyH.nil
                    go_simp
                    refine (HTK.out _ (below_step HBw6.out (Below.refl _ _).drew)).mono ?_
                    rintro e w7 ⟨rfl, B7⟩
                    have Bc := below_step (Below.refl wr.heap.size wr).drew B7
                    refine hK.out _ _ (HKEEP.out _ Bc) (fun hS1 => ?_)
                    clear hK K hS0
                    try simp only [Act.put, pa, pz, ps]
                    refine ta (v := ?_) 12 221 rfl ?_ ?_
                    rotate_left
                    · (intro W' hSw; obtain ⟨t0, t1, t2, t3, t4, t5, t6, t7, t8, t9, t10, t11, t12, t13, t14⟩ := hSw; go_simp; try with_reducible rfl)
                    simp only [Act.put, pa, pz, ps]
                    refine ta (v := ?_) 13 222 rfl ?_ ?_
                    rotate_left
                    · (intro W' hSw; obtain ⟨t0, t1, t2, t3, t4, t5, t6, t7, t8, t9, t10, t11, t12, t13, t14⟩ := hSw; go_simp; try with_reducible rfl)
                    simp only [Act.put, pa, pz, ps]
                    refine ta (v := ?_) 24 233 rfl ?_ ?_
                    rotate_left
                    · (intro W' hSw; obtain ⟨t0, t1, t2, t3, t4, t5, t6, t7, t8, t9, t10, t11, t12, t13, t14⟩ := hSw; go_simp; try with_reducible rfl)
                    simp only [Act.put, pa, pz, ps]
                    refine ta (v := ?_) 25 234 rfl ?_ ?_
                    rotate_left
                    · (intro W' hSw; obtain ⟨t0, t1, t2, t3, t4, t5, t6, t7, t8, t9, t10, t11, t12, t13, t14⟩ := hSw; go_simp; try with_reducible rfl)
                    simp only [Act.put, pa, pz, ps]
                    refine wpAnyH_done (by kernel_rfl) ?_ _
                    clear hS1
                    go_wp2_with fail
                    refine ⟨⟨a + 1, by omega, by go_num, HPA1.out, below_step HB6.out (Bc)⟩, ?_⟩
                    simp [intOf]; omega
              · have d1 : decide (0 < y) = false := decide_eq_false h1
                have hpa : ∀ b, b < a + 1 → 0 < hOf X b → hOf H (hd (rv b)) ≤ hOf H (hd b) + 1 := fun b hb hp => by
                  by_cases e : b = a
                  · subst e; rw [HYE.out] at hp; exact absurd hp h1
                  · exact HPA.out b (by omega) hp
                have HPA1 := Lib.hid hpa
                clear hpa hiX hiH hiD
                as_aux_lemma =>
                  go_wp2_with fail
                  go_quiet (fail)
                  go_wp2_with fail
                  refine ⟨⟨a + 1, by omega, by go_num, HPA1.out, below_drewN' HB6.out _⟩, ?_⟩
                  simp [intOf]; omega
            · have ea : M = a := by omega
              subst ea
              obtain ⟨bH, oH, hHa⟩ := (HQ.out.on HBw6.out).iH.adr (by omega)
              have hiH := (HQ.out.on HBw6.out).iH
              dsimp only at hHa hiH
              subst hHa
              obtain ⟨hbH, chs⟩ := hiH.cel (hOf_get HHL.out hsN)
              obtain ⟨-, cht⟩ := hiH.cel (hOf_get HHL.out htN)
              obtain ⟨hs1, hhs⟩ : ∃ y, hOf H s = y := ⟨_, rfl⟩
              obtain ⟨ht1, hht⟩ : ∃ y, hOf H t = y := ⟨_, rfl⟩
              rw [hhs] at chs; rw [hht] at cht
              have HHS := Lib.hid hhs; have HHT := Lib.hid hht
              clear hhs hht hiH
              by_cases h1 : hs1 = (N : Int)
              · have d1 : (hs1 == (N : Int)) = true := by simpa using h1
                by_cases h2 : ht1 = 0
                · have d2 : (ht1 == 0) = true := by simpa using h2
                  have ht := HT.out ⟨HBAL.out, HEL.out, HHL.out, fun u hu => (HPV.out u hu).1, fun u hu => (HPV.out u hu).2.1, by rw [HHS.out]; exact h1, by rw [HHT.out]; exact h2, fun u hu => (HPV.out u hu).2.2, HPA.out⟩
                  have HFR := Lib.hid ht
                  clear ht
                  as_aux_lemma =>
                    go_wp2_with fail
                    go_quiet (fail)
                    go_wp2_with fail
                    go_ret
                    exact ⟨ret_bool HFR.out.symm, below_drewN' HBw6.out _⟩
                · have d2 : (ht1 == 0) = false := by simpa using h2
                  have hf := HF.out (fun h => h2 (by have := h.snk; rw [HHT.out] at this; exact this))
                  have HFR := Lib.hid hf
                  clear hf
                  as_aux_lemma =>
                    go_wp2_with fail
                    go_quiet (fail)
                    go_wp2_with fail
                    go_ret
                    exact ⟨ret_bool HFR.out.symm, below_drewN' HBw6.out _⟩
              · have d1 : (hs1 == (N : Int)) = false := by simpa using h1
                have hf := HF.out (fun h => h1 (by have := h.src; rw [HHS.out] at this; exact this))
                have HFR := Lib.hid hf
                clear hf
                as_aux_lemma =>
                  go_wp2_with fail
                  go_quiet (fail)
                  go_wp2_with fail
                  go_ret
                  exact ⟨ret_bool HFR.out.symm, below_drewN' HBw6.out _⟩

end Go.Proofs.Ytgjokddcaadjdaa
