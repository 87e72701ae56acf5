/- Layer 8: a run, where it lies: the struct, its rows, its channel. Layer 8: the next admissible residual arc of a vertex. Layer 8: a lift of the run's own. Layer 8: a push of the run's own. Layer 8: a vertex is served. Layer 8: all are served. -/
import Derived.Test.YtfcjmhihheeifaaChan
import Derived.Test.YtfcjmhihheeifaaFfp
import Derived.Test.YtfcjmhihheeifaaHxf
import Derived.Deep.QuietTactic
import Derived.BigQuiet
import Derived.Deep.LoopGhost
import Derived.StillTailTactics
import Derived.Deep.DeepCutAuto
import Derived.Deep.CutBlock
/-! Runq -/
namespace Go.Proofs.Ytfcjmhihheeifaa
open Go.RowKit Go.Shelf Go.Conc
set_option maxRecDepth 100000

abbrev runV (N M s t : Nat) (K : CsrS) (AX : Option Addr) (cX gE cE gH cH P L ch gn cn : Nat) : Array Value :=
  #[.int .i64 (N : Int), .int .i64 (s : Int), .int .i64 (t : Int), .slice K.AF (N + 1) K.cF, .slice K.AH M K.cH, .slice K.AR M K.cR, .slice K.AC M K.cC, .slice K.AA M K.cA, .slice K.AB M K.cB,
    .slice AX M cX, .slice (some ⟨gE, 0, none⟩) N cE, .slice (some ⟨gH, 0, none⟩) N cH, .int .i64 (P : Int), .int .i64 (L : Int), .chan (some ch), .slice (some ⟨gn, 0, none⟩) (N + 1) cn]
abbrev runR (N M : Nat) (AX : Option Addr) (cX gE cE gH cH gn cn : Nat) (σ : FS) : List Rw :=
  [⟨2, AX, M, cX, lvs σ.X⟩, ⟨2, some ⟨gE, 0, none⟩, N, cE, lvs σ.E⟩, ⟨3, some ⟨gH, 0, none⟩, N, cH, lvs σ.H⟩, ⟨3, some ⟨gn, 0, none⟩, N + 1, cn, fvs (N + 1) σ.nx⟩]
structure RunQ (w0 w : World) (base g ch N M s t : Nat) (K : CsrS) (AX : Option Addr) (cX gE cE gH cH gn cn : Nat) (σ : FS) : Prop where
  hx : Hx w0 w base (runR N M AX cX gE cE gH cH gn cn σ)
  kr : Blk w g 97 (runV N M s t K AX cX gE cE gH cH σ.P σ.L ch gn cn)
  gb : base ≤ g
  ck : ∃ sn rc, w.heap[ch]? = some (.chan N (nvs σ.q).toArray false sn rc false)
  cb : base ≤ ch
theorem rr_ne {N M cX gE cE gH cH gn cn : Nat} {AX : Option Addr} {σ : FS} : ∀ r ∈ runR N M AX cX gE cE gH cH gn cn σ, r.t ≠ 97 := by
  intro r hr
  simp only [runR, List.mem_cons, List.not_mem_nil, or_false] at hr
  rcases hr with rfl | rfl | rfl | rfl
  · exact (show (2 : TypeId) ≠ 97 by decide)
  · exact (show (2 : TypeId) ≠ 97 by decide)
  · exact (show (3 : TypeId) ≠ 97 by decide)
  · exact (show (3 : TypeId) ≠ 97 by decide)
theorem own_nochan {w : World} {base n c g ch : Nat} {t : TypeId} {xs : List Value} {o1 : Nat} {o2 : Array Value} {o3 : Bool} {o4 o5 : Nat} {o6 : Bool} (h : w.ownsRow base t 1 (.slice (some ⟨g, 0, none⟩) n c) n xs) (hc : w.heap[ch]? = some (.chan o1 o2 o3 o4 o5 o6)) : ch ≠ g := fun e => by
  obtain ⟨cur, hk⟩ := own_blk h
  subst e
  have h2 := hk.symm.trans hc
  injection h2 with h2
  cases h2
theorem blk_nochan {w : World} {g ch : Nat} {t : TypeId} {cs : Array Value} {o1 : Nat} {o2 : Array Value} {o3 : Bool} {o4 o5 : Nat} {o6 : Bool} (h : Blk w g t cs) (hc : w.heap[ch]? = some (.chan o1 o2 o3 o4 o5 o6)) : ch ≠ g := fun e => by
  subst e
  have h2 := Eq.symm h |>.trans hc
  injection h2 with h2
  cases h2
section
variable {w0 w w' : World} {base g ch N M s t : Nat} {K : CsrS} {AX : Option Addr} {gX cX gE cE gH cH gn cn : Nat} {σ : FS}
theorem RunQ.bel (h : RunQ w0 w base g ch N M s t K AX cX gE cE gH cH gn cn σ) : Below base w0 w := h.hx.bel
theorem RunQ.drew (h : RunQ w0 w base g ch N M s t K AX cX gE cE gH cH gn cn σ) (n : Nat) : RunQ w0 (w.drewN n) base g ch N M s t K AX cX gE cE gH cH gn cn σ := ⟨h.hx.drew n, h.kr.drewN n, h.gb, h.ck, h.cb⟩
theorem RunQ.on (h : RunQ w0 w base g ch N M s t K AX cX gE cE gH cH gn cn σ) (hb : Below w.heap.size w w') : RunQ w0 w' base g ch N M s t K AX cX gE cE gH cH gn cn σ := by
  obtain ⟨sn, rc, hc⟩ := h.ck
  exact ⟨h.hx.on hb, h.kr.below hb h.kr.lt, h.gb, ⟨sn, rc, (hb.block ch (Array.getElem?_eq_some_iff.1 hc).1).trans hc⟩, h.cb⟩
theorem RunQ.putX (h : RunQ w0 w base g ch N M s t K (some ⟨gX, 0, none⟩) cX gE cE gH cH gn cn σ) (i : Nat) (x : Int) : RunQ w0 (w.setCell ⟨gX, i, none⟩ (.int .i64 x)) base g ch N M s t K (some ⟨gX, 0, none⟩) cX gE cE gH cH gn cn { σ with X := σ.X.set i x } := by
  obtain ⟨sn, rc, hc⟩ := h.ck
  have ho := h.hx.held.own 0 _ rfl
  refine ⟨?_, h.kr.far (own_apart ho h.kr (show (2 : TypeId) ≠ 97 by decide)) _, h.gb, ⟨sn, rc, (chan_cell (own_nochan ho hc)).trans hc⟩, h.cb⟩
  have := h.hx.put (i := 0) rfl i (.int .i64 x)
  unfold runR
  dsimp only
  rw [lvs_set]
  exact this
theorem RunQ.putE (h : RunQ w0 w base g ch N M s t K AX cX gE cE gH cH gn cn σ) (i : Nat) (x : Int) : RunQ w0 (w.setCell ⟨gE, i, none⟩ (.int .i64 x)) base g ch N M s t K AX cX gE cE gH cH gn cn { σ with E := σ.E.set i x } := by
  obtain ⟨sn, rc, hc⟩ := h.ck
  have ho := h.hx.held.own 1 _ rfl
  refine ⟨?_, h.kr.far (own_apart ho h.kr (show (2 : TypeId) ≠ 97 by decide)) _, h.gb, ⟨sn, rc, (chan_cell (own_nochan ho hc)).trans hc⟩, h.cb⟩
  have := h.hx.put (i := 1) rfl i (.int .i64 x)
  unfold runR
  dsimp only
  rw [lvs_set]
  exact this
theorem RunQ.putH (h : RunQ w0 w base g ch N M s t K AX cX gE cE gH cH gn cn σ) (i : Nat) (x : Int) : RunQ w0 (w.setCell ⟨gH, i, none⟩ (.int .i64 x)) base g ch N M s t K AX cX gE cE gH cH gn cn { σ with H := σ.H.set i x } := by
  obtain ⟨sn, rc, hc⟩ := h.ck
  have ho := h.hx.held.own 2 _ rfl
  refine ⟨?_, h.kr.far (own_apart ho h.kr (show (3 : TypeId) ≠ 97 by decide)) _, h.gb, ⟨sn, rc, (chan_cell (own_nochan ho hc)).trans hc⟩, h.cb⟩
  have := h.hx.put (i := 2) rfl i (.int .i64 x)
  unfold runR
  dsimp only
  rw [lvs_set]
  exact this
theorem RunQ.putN (h : RunQ w0 w base g ch N M s t K AX cX gE cE gH cH gn cn σ) (u x : Nat) : RunQ w0 (w.setCell ⟨gn, u, none⟩ (.int .i64 (x : Int))) base g ch N M s t K AX cX gE cE gH cH gn cn { σ with nx := nupd σ.nx u x } := by
  obtain ⟨sn, rc, hc⟩ := h.ck
  have ho := h.hx.held.own 3 _ rfl
  refine ⟨?_, h.kr.far (own_apart ho h.kr (show (3 : TypeId) ≠ 97 by decide)) _, h.gb, ⟨sn, rc, (chan_cell (own_nochan ho hc)).trans hc⟩, h.cb⟩
  have := h.hx.put (i := 3) rfl u (.int .i64 (x : Int))
  unfold runR
  dsimp only
  rw [← fvs_set]
  exact this
theorem RunQ.putP (h : RunQ w0 w base g ch N M s t K AX cX gE cE gH cH gn cn σ) (x : Nat) : RunQ w0 (w.setCell ⟨g, 12, none⟩ (.int .i64 (x : Int))) base g ch N M s t K AX cX gE cE gH cH gn cn { σ with P := x } := by
  obtain ⟨sn, rc, hc⟩ := h.ck
  exact ⟨h.hx.far h.kr rr_ne h.gb 12 _, h.kr.set 12 _, h.gb, ⟨sn, rc, (chan_cell (blk_nochan h.kr hc)).trans hc⟩, h.cb⟩
theorem RunQ.putL (h : RunQ w0 w base g ch N M s t K AX cX gE cE gH cH gn cn σ) (x : Nat) : RunQ w0 (w.setCell ⟨g, 13, none⟩ (.int .i64 (x : Int))) base g ch N M s t K AX cX gE cE gH cH gn cn { σ with L := x } := by
  obtain ⟨sn, rc, hc⟩ := h.ck
  exact ⟨h.hx.far h.kr rr_ne h.gb 13 _, h.kr.set 13 _, h.gb, ⟨sn, rc, (chan_cell (blk_nochan h.kr hc)).trans hc⟩, h.cb⟩
theorem RunQ.chan (h : RunQ w0 w base g ch N M s t K AX cX gE cE gH cH gn cn σ) (q : List Nat) (sn rc : Nat) : RunQ w0 (w.setChan ch N (nvs q).toArray false sn rc false) base g ch N M s t K AX cX gE cE gH cH gn cn { σ with q := q } := by
  obtain ⟨sn', rc', hc⟩ := h.ck
  refine ⟨⟨h.hx.held.grown grown_chan fun k e i r hi e' => ?_, by rw [size_setChan]; exact h.hx.bas, below_setChan h.hx.bel h.cb _ _ _ _ _ _⟩, blk_chan h.kr (fun e => blk_nochan h.kr hc e.symm), h.gb, ⟨sn, rc, heap_setChan _ _ _ _ _ _ _ _ (Array.getElem?_eq_some_iff.1 hc).1⟩, h.cb⟩
  injection e with e
  subst e
  have ho := h.hx.held.own i r hi
  obtain ⟨rt, rA, rn, rcc, rx⟩ := r
  cases rA with
  | none => cases e'
  | some p =>
    injection e' with e'
    rcases ho.2 with ⟨h0, _⟩ | ⟨g', cap, cur, hv, _, hk, _⟩
    · injection h0 with h0; cases h0
    · injection hv with hA
      injection hA with hA
      subst hA
      dsimp only at e'
      subst e'
      have h2 := hk.symm.trans hc
      injection h2 with h2
      cases h2
/-- The cells. -/
theorem RunQ.cells (h : RunQ w0 w base g ch N M s t K AX cX gE cE gH cH gn cn σ) :
    (w.cell? ⟨g, 0, none⟩ = some (.int .i64 (N : Int)) ∧ w.cell? ⟨g, 1, none⟩ = some (.int .i64 (s : Int)) ∧ w.cell? ⟨g, 2, none⟩ = some (.int .i64 (t : Int)) ∧ w.cell? ⟨g, 3, none⟩ = some (.slice K.AF (N + 1) K.cF) ∧ w.cell? ⟨g, 4, none⟩ = some (.slice K.AH M K.cH) ∧ w.cell? ⟨g, 5, none⟩ = some (.slice K.AR M K.cR)) ∧
    (w.cell? ⟨g, 9, none⟩ = some (.slice AX M cX) ∧ w.cell? ⟨g, 10, none⟩ = some (.slice (some ⟨gE, 0, none⟩) N cE) ∧ w.cell? ⟨g, 11, none⟩ = some (.slice (some ⟨gH, 0, none⟩) N cH)) ∧
    (w.cell? ⟨g, 12, none⟩ = some (.int .i64 (σ.P : Int)) ∧ w.cell? ⟨g, 13, none⟩ = some (.int .i64 (σ.L : Int)) ∧ w.cell? ⟨g, 14, none⟩ = some (.chan (some ch)) ∧ w.cell? ⟨g, 15, none⟩ = some (.slice (some ⟨gn, 0, none⟩) (N + 1) cn)) ∧
    (w.frozen? ⟨g, 12, none⟩ = false ∧ w.frozen? ⟨g, 13, none⟩ = false) ∧ g < w.heap.size :=
  ⟨⟨h.kr.cell 0, h.kr.cell 1, h.kr.cell 2, h.kr.cell 3, h.kr.cell 4, h.kr.cell 5⟩, ⟨h.kr.cell 9, h.kr.cell 10, h.kr.cell 11⟩, ⟨h.kr.cell 12, h.kr.cell 13, h.kr.cell 14, h.kr.cell 15⟩, ⟨h.kr.frozen 12, h.kr.frozen 13⟩, h.kr.lt⟩
end
theorem wrap_nat {n : Nat} (h : n < 9223372036854775807) : IntKind.i64.wrap ((n : Int) + 1) = ((n + 1 : Nat) : Int) := by rw [IntKind.wrap_i64]; omega

end Go.Proofs.Ytfcjmhihheeifaa

/-! Adms -/
namespace Go.Proofs.Ytfcjmhihheeifaa
open Go.RowKit Go.Shelf
set_option maxRecDepth 100000
attribute [local go_sem] Oper.semAt_some

theorem nupd_self (f : Nat → Nat) (u : Nat) : nupd f u (f u) = f := by
  funext v; unfold nupd; split
  · rename_i e; rw [e]
  · rfl
theorem nupd_twice (f : Nat → Nat) (u x y : Nat) : nupd (nupd f u x) u y = nupd f u y := by
  funext v; unfold nupd; split <;> rfl

theorem RunQ.putN2 {w0 w : World} {base g ch N M s t : Nat} {K : CsrS} {AX : Option Addr} {cX gE cE gH cH gn cn : Nat} {σ : FS} (u i x : Nat) (h : RunQ w0 w base g ch N M s t K AX cX gE cE gH cH gn cn { σ with nx := nupd σ.nx u i }) :
    RunQ w0 (w.setCell ⟨gn, u, none⟩ (.int .i64 (x : Int))) base g ch N M s t K AX cX gE cE gH cH gn cn { σ with nx := nupd σ.nx u x } := by
  have := h.putN u x
  dsimp only at this
  rw [nupd_twice] at this
  exact this

set_option maxHeartbeats 4000000 in
theorem fadm_is (base g ch N M s t u : Nat) (K : CsrS) (fst hd rv ai : Nat → Nat) (cp : Nat → Int) (bk : Nat → Bool) (gX cX gE cE gH cH gn cn : Nat) (σ : FS) (x : Nat) (r : Bool) (w0 w : World) (hG : PNet N M s t fst hd rv ai cp bk) (hI : PIn w0 base N M K fst hd rv ai cp bk)
    (hR : RunQ w0 w base g ch N M s t K (some ⟨gX, 0, none⟩) cX gE cE gH cH gn cn σ) (hS : StIs N M s t hd rv cp σ.X σ.E σ.H) (hu : u < N) (h1 : fst u ≤ σ.nx u) (h2 : σ.nx u ≤ fst (u + 1))
    (hr : decide (fsNext fst hd rv σ u < fst (u + 1)) = r) (hx : x = if r = true then fsNext fst hd rv σ u else 0) :
    Calls Try.prog 103 #[.pointer (some ⟨g, 0, none⟩), .int .i64 (u : Int)] w fun e w' => e = .returned (.tuple #[.int .i64 (x : Int), .bool r]) ∧ RunQ w0 w' base g ch N M s t K (some ⟨gX, 0, none⟩) cX gE cE gH cH gn cn (fsSeek fst hd rv σ u) := by
  have hM := hG.nM; have hN := hG.nN
  have hfl := hG.g.fle (v := u + 1) (by omega)
  have htl := hG.g.tail u
  have hhd := hG.g.hdl
  have hXl := hS.bal.1; have hHl := hS.lh; have hbnd := hS.bnd
  have HI := Lib.hid hI
  have hbw := hR.hx.bas
  obtain ⟨q0, hq0⟩ : ∃ q0, q0 = fst (u + 1) := ⟨_, rfl⟩
  obtain ⟨A, hA⟩ : ∃ A, A = fsNext fst hd rv σ u := ⟨_, rfl⟩
  have HA := Lib.hid (show seekA (admB hd rv σ.X σ.H) (σ.nx u) (fst (u + 1) - σ.nx u) = A from hA.symm)
  have HSK := Lib.hid (show fsSeek fst hd rv σ u = { σ with nx := nupd σ.nx u A } by rw [hA]; rfl)
  rw [← hA] at hr hx
  rw [← hq0] at hr h2 hfl
  have HR' := Lib.hid hr; have HX' := Lib.hid hx; have HQ0 := Lib.hid hq0; have HTL := Lib.hid htl; have HHD := Lib.hid hhd; have HBN := Lib.hid hbnd; have HRQ := Lib.hid (show RunQ w0 w base g ch N M s t K (some ⟨gX, 0, none⟩) cX gE cE gH cH gn cn { σ with nx := nupd σ.nx u (σ.nx u) } by rw [nupd_self]; exact hR)
  clear hI hA hr hx hq0 htl hhd hbnd hR hS hG
  obtain ⟨bF, oF, hF⟩ := HI.out.gi.iF.adr (by omega)
  obtain ⟨AF, cF, AH, cHK, AR, cR, AC, cC, AA, cA, AB, cB⟩ := K
  dsimp only at hF
  subst hF
  have hwu : IntKind.i64.wrap ((u : Int) + 1) = ((u + 1 : Nat) : Int) := wrap_nat (by omega)
  go_enter Try.func103, Try.ntmps103
  go_wp2_with fail
  go_loopg [] (q0 - σ.nx u) (fun k wr => ∃ i : Nat, k = q0 - i ∧ σ.nx u ≤ i ∧ i ≤ q0 ∧ seekA (admB hd rv σ.X σ.H) i (q0 - i) = A ∧ RunQ w0 wr base g ch N M s t ⟨some ⟨bF, oF, none⟩, cF, AH, cHK, AR, cR, AC, cC, AA, cA, AB, cB⟩ (some ⟨gX, 0, none⟩) cX gE cE gH cH gn cn { σ with nx := nupd σ.nx u i })
  case atStart => exact ⟨_, rfl, Nat.le_refl _, h2, by rw [HQ0.out]; exact HA.out, HRQ.out⟩
  case round =>
    obtain ⟨i, rfl, i1, i2, i3, hQ⟩ := hrel
    have HS := Lib.hid i3; clear i3
    have HQ := Lib.hid hQ
    obtain ⟨⟨c0, c1, c2, c3, c4, c5⟩, ⟨c9, c10, c11⟩, ⟨c12, c13, c14, c15⟩, -, hz⟩ := hQ.cells
    obtain ⟨cn1, fn1, zn1, -⟩ := hQ.hx.cell (i := 3) (j := u) rfl (by omega) (fvs_at (by omega))
    dsimp only at c3 c4 c5 c12 c13 cn1
    rw [nupd_at] at cn1
    obtain ⟨hbF, cf⟩ := tab_cell (k := u + 1) (HI.out.below hQ.bel).gi.iF (by omega)
    rw [← HQ0.out] at cf
    clear hQ
    by_cases hlt : i < q0
    · have hdl : decide ((i : Int) < (q0 : Int)) = true := decide_eq_true (by omega)
      have hiM : i < M := by omega
      obtain ⟨cx, fx, zx, -⟩ := HQ.out.hx.cell (i := 0) (j := i) rfl hiM (lvs_at (by show i < σ.X.length; omega))
      obtain ⟨bH, oH, hH⟩ := HI.out.gi.iH.adr (by omega)
      dsimp only at hH
      subst hH
      obtain ⟨hbH, ch1⟩ := tab_cell (HI.out.below HQ.out.bel).gi.iH hiM
      have hvN := HHD.out i hiM
      obtain ⟨chu, fhu, zh, -⟩ := HQ.out.hx.cell (i := 2) (j := u) rfl hu (lvs_at (by show u < σ.H.length; omega))
      obtain ⟨chv, fhv, -, -⟩ := HQ.out.hx.cell (i := 2) (j := hd i) rfl hvN (lvs_at (by show hd i < σ.H.length; omega))
      obtain ⟨v, hv⟩ : ∃ v, hd i = v := ⟨_, rfl⟩
      have hbv := HBN.out v (by omega)
      dsimp only at cx chu chv
      rw [hv] at ch1 chv hvN
      obtain ⟨xi, hxi⟩ : ∃ y, hOf σ.X i = y := ⟨_, rfl⟩
      obtain ⟨yu, hyu⟩ : ∃ y, hOf σ.H u = y := ⟨_, rfl⟩
      obtain ⟨yv, hyv⟩ : ∃ y, hOf σ.H v = y := ⟨_, rfl⟩
      rw [hxi] at cx; rw [hyu] at chu; rw [hyv] at chv hbv
      have hadm : admB hd rv σ.X σ.H i = (decide (0 < xi) && decide (yu = yv + 1)) := by
        unfold admB
        rw [opn_hOf, HTL.out i hu (by omega) (by rw [← HQ0.out]; exact hlt), hv, hxi, hyu, hyv]
      have HAD := Lib.hid hadm
      have hwv : IntKind.i64.wrap (yv + 1) = yv + 1 := wrap_in (by omega) (by omega)
      have hwi : IntKind.i64.wrap ((i : Int) + 1) = ((i + 1 : Nat) : Int) := wrap_nat (by omega)
      clear hv hxi hyu hyv hadm
      by_cases h0 : 0 < xi
      · have hd1 : decide (0 < xi) = true := decide_eq_true h0
        by_cases he : yu = yv + 1
        · have hAi : A = i := by rw [← HS.out]; exact seek_hit hlt (by rw [HAD.out]; simp [h0, he])
          have hxr : x = i ∧ r = true := by
            have h3 : r = true := by rw [← HR'.out, hAi]; exact decide_eq_true hlt
            exact ⟨by rw [HX'.out, if_pos h3, hAi], h3⟩
          obtain ⟨hx1, hr1⟩ := hxr
          have HX1 := Lib.hid hx1; have HR1 := Lib.hid hr1; have HAI := Lib.hid hAi
          subst he
          clear hx1 hr1 hAi
          go_wp2_with fail
          go_quiet (fail)
          go_wp2_with fail
          go_quiet (fail)
          go_wp2_with fail
          go_ret2
          exact ⟨by rw [HX1.out, HR1.out]; rfl, by rw [HSK.out, HAI.out]; first | exact HQ.out.drew _ | exact (HQ.out.drew _).drew _⟩
        · have hd2 : (yu == yv + 1) = false := by simpa using he
          have hs : seekA (admB hd rv σ.X σ.H) (i + 1) (q0 - (i + 1)) = A := by
            rw [← HS.out]; exact (seek_skip hlt (by rw [HAD.out]; simp [he])).symm
          have HS1 := Lib.hid hs
          clear hs he
          go_wp2_with fail
          go_quiet (fail)
          go_wp2_with fail
          go_quiet (fail)
          go_wp2_with fail
          go_roundg (q0 - (i + 1))
          case measure => omega
          case rel =>
            refine ⟨i + 1, rfl, by omega, by omega, HS1.out, ?_⟩
            exact RunQ.putN2 u i (i + 1) (HQ.out.drew _)
      · have hd1 : decide (0 < xi) = false := decide_eq_false h0
        have hs : seekA (admB hd rv σ.X σ.H) (i + 1) (q0 - (i + 1)) = A := by
          rw [← HS.out]; exact (seek_skip hlt (by rw [HAD.out]; simp [h0])).symm
        have HS1 := Lib.hid hs
        clear hs
        go_wp2_with fail
        go_quiet (fail)
        go_wp2_with fail
        go_quiet (fail)
        go_wp2_with fail
        go_roundg (q0 - (i + 1))
        case measure => omega
        case rel =>
          refine ⟨i + 1, rfl, by omega, by omega, HS1.out, ?_⟩
          exact RunQ.putN2 u i (i + 1) (HQ.out.drew _)
    · have hdl : decide ((i : Int) < (q0 : Int)) = false := decide_eq_false (by omega)
      have hAi : A = i := by rw [← HS.out]; exact seek_end hlt
      have hxr : x = 0 ∧ r = false := by
        have h3 : r = false := by rw [← HR'.out, hAi]; exact decide_eq_false hlt
        exact ⟨by rw [HX'.out, if_neg (by rw [h3]; simp)], h3⟩
      obtain ⟨hx1, hr1⟩ := hxr
      have HX1 := Lib.hid hx1; have HR1 := Lib.hid hr1; have HAI := Lib.hid hAi
      clear hx1 hr1 hAi
      go_wp2_with fail
      go_quiet (fail)
      go_wp2_with fail
      go_ret2
      exact ⟨by rw [HX1.out, HR1.out]; rfl, by rw [HSK.out, HAI.out]; first | exact HQ.out.drew _ | exact (HQ.out.drew _).drew _⟩

end Go.Proofs.Ytfcjmhihheeifaa

/-! Lifs -/
namespace Go.Proofs.Ytfcjmhihheeifaa
open Go.RowKit Go.Shelf
set_option maxRecDepth 100000
attribute [local go_sem] Oper.semAt_some

set_option maxHeartbeats 4000000 in
theorem flift_is (base g ch N M s t u : Nat) (K : CsrS) (fst hd rv ai : Nat → Nat) (cp : Nat → Int) (bk : Nat → Bool) (gX cX gE cE gH cH gn cn : Nat) (σ : FS) (w0 w : World) (hG : PNet N M s t fst hd rv ai cp bk) (hI : PIn w0 base N M K fst hd rv ai cp bk)
    (hR : RunQ w0 w base g ch N M s t K (some ⟨gX, 0, none⟩) cX gE cE gH cH gn cn σ) (hS : StIs N M s t hd rv cp σ.X σ.E σ.H) (hu : u < N) (hL : σ.L < 4611686018427387904) :
    Calls Try.prog 105 #[.pointer (some ⟨g, 0, none⟩), .int .i64 (u : Int)] w fun e w' => (∃ v, e = .returned v) ∧ RunQ w0 w' base g ch N M s t K (some ⟨gX, 0, none⟩) cX gE cE gH cH gn cn (fsLift N fst hd σ u) := by
  have hM := hG.nM; have hN := hG.nN
  have hfl := hG.g.fle (v := u + 1) (by omega)
  have hmo := hG.g.mono u hu
  have hhd := hG.g.hdl
  have hXl := hS.bal.1; have hHl := hS.lh; have hbnd := hS.bnd
  have HI := Lib.hid hI
  have hbw := hR.hx.bas
  obtain ⟨p0, hp0⟩ : ∃ p0, p0 = fst u := ⟨_, rfl⟩
  obtain ⟨m, hm⟩ : ∃ m, m = fst (u + 1) - fst u := ⟨_, rfl⟩
  obtain ⟨q0, hq⟩ : ∃ q0, fst (u + 1) = q0 := ⟨_, rfl⟩
  have hqm1 : q0 ≤ p0 + m := by omega
  have hqm2 : p0 + m ≤ q0 := by omega
  rw [hq] at hfl
  have HP0 := Lib.hid hp0; have HM0 := Lib.hid hm; have HHD := Lib.hid hhd; have HBN := Lib.hid hbnd; have HQ1 := Lib.hid hq; have HRQ := Lib.hid hR
  clear hI hp0 hm hhd hbnd hR hS hG hmo hq
  obtain ⟨bF, oF, hF⟩ := HI.out.gi.iF.adr (by omega)
  obtain ⟨AF, cF, AH, cHK, AR, cR, AC, cC, AA, cA, AB, cB⟩ := K
  dsimp only at hF
  subst hF
  have hu1 : (u : Int) < (N : Int) + 1 := by omega
  have hu2 : (u : Int) < (N : Int) := by omega
  have hwu : IntKind.i64.wrap ((u : Int) + 1) = ((u + 1 : Nat) : Int) := wrap_nat (by omega)
  have hw2 : IntKind.i64.wrap (2 * (N : Int)) = 2 * (N : Int) := wrap_in (by omega) (by omega)
  obtain ⟨hbF, cf0⟩ := tab_cell (k := u) (HI.out.below HRQ.out.bel).gi.iF (by omega)
  rw [← HP0.out] at cf0
  obtain ⟨⟨c0, c1, c2, c3, c4, c5⟩, ⟨c9, c10, c11⟩, ⟨c12, c13, c14, c15⟩, -, hz⟩ := HRQ.out.cells
  dsimp only at c3 c4 c5
  go_enter Try.func105, Try.ntmps105
  go_wp2_with fail
  go_loopw [4, 5] (fun lo a wr => ∃ k : Nat, k ≤ m ∧ a = .int .i64 ((p0 + k : Nat) : Int) ∧ lo = .int .i64 (lowN fst hd σ.X σ.H (2 * N) u k) ∧ RunQ w0 wr base g ch N M s t ⟨some ⟨bF, oF, none⟩, cF, AH, cHK, AR, cR, AC, cC, AA, cA, AB, cB⟩ (some ⟨gX, 0, none⟩) cX gE cE gH cH gn cn σ) (fun _ a _ => q0 - (intOf a).toNat)
  case atStart => exact ⟨0, Nat.zero_le _, rfl, rfl, HRQ.out⟩
  case round =>
    clear c0 c1 c2 c3 c4 c5 c9 c10 c11 c12 c13 c14 c15 hz cf0 hbw
    obtain ⟨k, hk, rfl, rfl, hQ⟩ := hrel
    have hbw := hQ.hx.bas
    have HQ := Lib.hid hQ
    obtain ⟨⟨c0, c1, c2, c3, c4, c5⟩, ⟨c9, c10, c11⟩, ⟨c12, c13, c14, c15⟩, ⟨f12, f13⟩, hz⟩ := hQ.cells
    dsimp only at c3 c4 c5
    obtain ⟨-, cf⟩ := tab_cell (k := u + 1) (HI.out.below hQ.bel).gi.iF (by omega)
    rw [HQ1.out] at cf
    obtain ⟨-, cf0⟩ := tab_cell (k := u) (HI.out.below hQ.bel).gi.iF (by omega)
    rw [← HP0.out] at cf0
    clear hQ
    obtain ⟨lo, hlo⟩ : ∃ lo, lowN fst hd σ.X σ.H (2 * N) u k = lo := ⟨_, rfl⟩
    have hlt0 := lowN_top (fst := fst) (hd := hd) (X := σ.X) (H := σ.H) (b := 2 * N) (u := u) k
    rw [hlo] at hlt0 ⊢
    have HLO := Lib.hid hlo
    clear hlo
    obtain ⟨i, hi⟩ : ∃ i, i = p0 + k := ⟨_, rfl⟩
    rw [← hi]
    have HI1 := Lib.hid hi
    have hiq0 : p0 + k ≤ i := by omega
    have hiq1 : i ≤ p0 + k := by omega
    clear hi
    by_cases hlt : k < m
    · have hiq : i < q0 := by omega
      have hdl : decide (i < q0) = true := decide_eq_true hiq
      have hiM : i < M := by omega
      obtain ⟨cx, fx, zx, -⟩ := HQ.out.hx.cell (i := 0) (j := i) rfl hiM (lvs_at (by show i < σ.X.length; omega))
      obtain ⟨bH, oH, hH⟩ := HI.out.gi.iH.adr (by omega)
      dsimp only at hH
      subst hH
      obtain ⟨hbH, ch1⟩ := tab_cell (HI.out.below HQ.out.bel).gi.iH hiM
      have hvN := HHD.out i hiM
      obtain ⟨chv, fhv, zh, -⟩ := HQ.out.hx.cell (i := 2) (j := hd i) rfl hvN (lvs_at (by show hd i < σ.H.length; omega))
      obtain ⟨v, hv⟩ : ∃ v, hd i = v := ⟨_, rfl⟩
      have hbv := HBN.out v (by omega)
      rw [hv] at ch1 chv hvN
      obtain ⟨xi, hxi⟩ : ∃ y, hOf σ.X i = y := ⟨_, rfl⟩
      obtain ⟨yv, hyv⟩ : ∃ y, hOf σ.H v = y := ⟨_, rfl⟩
      rw [hxi] at cx; rw [hyv] at chv hbv
      have hlow : lowN fst hd σ.X σ.H (2 * N) u (k + 1) = if 0 < xi then min lo yv else lo := by
        simp only [lowN]
        rw [HLO.out, ← HP0.out, ← HI1.out, hv, hxi, hyv]
      have HLW := Lib.hid hlow
      have hwi : IntKind.i64.wrap ((i : Int) + 1) = ((i + 1 : Nat) : Int) := wrap_nat (by omega)
      clear hv hxi hyv hlow
      by_cases h0 : 0 < xi
      · have hd1 : decide (0 < xi) = true := decide_eq_true h0
        obtain ⟨z, hzz⟩ : ∃ z, min lo yv = z := ⟨_, rfl⟩
        have hz1 : (if yv < lo then yv else lo) = z := by rw [← hzz]; split <;> omega
        have HZZ := Lib.hid hzz
        clear hzz
        go_wp2_with fail
        go_quiet (fail)
        go_wp2_with fail
        go_roundw
        case rel => exact ⟨k + 1, by omega, by rw [HI1.out]; go_num, by rw [HLW.out, if_pos h0, HZZ.out], HQ.out.drew _⟩
        case measure => simp [intOf]; omega
      · have hd1 : decide (0 < xi) = false := decide_eq_false h0
        go_wp2_with fail
        go_roundw
        case rel => exact ⟨k + 1, by omega, by rw [HI1.out]; go_num, by rw [HLW.out, if_neg h0], HQ.out⟩
        case measure => simp [intOf]; omega
    · have hdl : decide (i < q0) = false := decide_eq_false (by omega)
      have hkm : k = m := by omega
      have HKM := Lib.hid hkm
      obtain ⟨chu, fhu, zh, -⟩ := HQ.out.hx.cell (i := 2) (j := u) rfl hu (lvs_at (by show u < σ.H.length; omega))
      obtain ⟨cnu, fnu, zn, -⟩ := HQ.out.hx.cell (i := 3) (j := u) rfl (by omega) (fvs_at (by omega))
      have hlb : 0 ≤ lo := by
        rcases lowN_is (fst := fst) (hd := hd) (X := σ.X) (H := σ.H) (b := 2 * N) (u := u) k with e | ⟨j, e1, e2, e3⟩
        · rw [← HLO.out, e]; omega
        · rw [← HLO.out, e3]; exact (HBN.out _ (HHD.out _ (by have := HP0.out; omega))).1
      have hwl : IntKind.i64.wrap (lo + 1) = lo + 1 := wrap_in (by omega) (by omega)
      have hwL : IntKind.i64.wrap ((σ.L : Int) + 1) = ((σ.L + 1 : Nat) : Int) := wrap_nat (by omega)
      clear hkm
      go_wp2_with fail
      have HQ2 := Lib.hid (HQ.out.putH u (lo + 1))
      obtain ⟨w2, hw2'⟩ : ∃ w2, wr.setCell ⟨gH, u, none⟩ (.int .i64 (lo + 1)) = w2 := ⟨_, rfl⟩
      rw [hw2'] at HQ2 ⊢
      clear hw2' chu fhu zh cnu fnu zn c0 c1 c2 c3 c4 c5 c9 c10 c11 c12 c13 c14 c15 f12 f13 hz cf cf0 hbw
      obtain ⟨cnu, fnu, zn, -⟩ := HQ2.out.hx.cell (i := 3) (j := u) rfl (by omega) (fvs_at (by omega))
      obtain ⟨⟨c0, c1, c2, c3, c4, c5⟩, ⟨c9, c10, c11⟩, ⟨c12, c13, c14, c15⟩, ⟨f12, f13⟩, hz⟩ := HQ2.out.cells
      obtain ⟨-, cf0⟩ := tab_cell (k := u) (HI.out.below HQ2.out.bel).gi.iF (by omega)
      rw [← HP0.out] at cf0
      dsimp only at c3 c4 c5 c12 c13 cnu
      have hbw := HQ2.out.hx.bas
      go_wp2_with fail
      go_still_tail 14, (by kernel_rfl)
      change wpList _ _ _ _ _ w2.drew
      have HQ3 := Lib.hid (HQ2.out.on (Below.refl _ _).drew)
      clear cnu fnu zn c0 c1 c2 c3 c4 c5 c9 c10 c11 c12 c13 c14 c15 f12 f13 hz cf0 hbw
      generalize w2.drew = w3 at *
      obtain ⟨cnu, fnu, zn, -⟩ := HQ3.out.hx.cell (i := 3) (j := u) rfl (by omega) (fvs_at (by omega))
      dsimp only at cnu
      have hgn : g ≠ gn := own_apart (HQ3.out.hx.held.own 3 _ rfl) HQ3.out.kr (show (3 : TypeId) ≠ 97 by decide)
      have hgn2 : gn ≠ g := fun e => hgn e.symm
      obtain ⟨-, -, ⟨-, c13, -, -⟩, ⟨-, f13⟩, hz⟩ := HQ3.out.cells
      dsimp only at c13
      go_wp2_with fail
      go_end0
      refine ⟨⟨_, rfl⟩, ?_⟩
      have := (HQ3.out.putN u p0).putL (σ.L + 1)
      have hfin : fsLift N fst hd σ u = { X := σ.X, E := σ.E, H := σ.H.set u (lo + 1), q := σ.q, nx := nupd σ.nx u p0, P := σ.P, L := σ.L + 1 } := by
        unfold fsLift; rw [← HM0.out, ← HKM.out, HLO.out, HP0.out]
      rw [hfin]
      exact this

end Go.Proofs.Ytfcjmhihheeifaa

/-! Pshs -/
namespace Go.Proofs.Ytfcjmhihheeifaa
open Go.RowKit Go.Shelf Go.Conc
set_option maxRecDepth 100000
attribute [local go_sem] Oper.semAt_some

set_option maxHeartbeats 8000000 in
theorem fpush_is (base g ch N M s t u a : Nat) (K : CsrS) (fst hd rv ai : Nat → Nat) (cp : Nat → Int) (bk : Nat → Bool) (gX cX gE cE gH cH gn cn : Nat) (σ : FS) (w0 w : World) (hG : PNet N M s t fst hd rv ai cp bk) (hI : PIn w0 base N M K fst hd rv ai cp bk)
    (hR : RunQ w0 w base g ch N M s t K (some ⟨gX, 0, none⟩) cX gE cE gH cH gn cn σ) (hS : StIs N M s t hd rv cp σ.X σ.E σ.H) (haM : a < M) (htl : hd (rv a) = u) (h0 : 0 < hOf σ.E u) (hx0 : 0 < hOf σ.X a) (hroom : σ.q.length < N) (hP : σ.P < 4611686018427387904) :
    Calls Try.prog 104 #[.pointer (some ⟨g, 0, none⟩), .int .i64 (u : Int), .int .i64 (a : Int)] w fun e w' => (∃ v, e = .returned v) ∧ RunQ w0 w' base g ch N M s t K (some ⟨gX, 0, none⟩) cX gE cE gH cH gn cn (fsPush s t hd rv σ a) := by
  have hM := hG.nM; have hN := hG.nN
  have hsN := hG.hs; have htN := hG.ht
  have hra := hG.g.rvl a haM
  have hne := hG.rne haM
  have huN := hG.mN haM
  have hvN := hG.g.hdl a haM
  have huv := hG.nol a haM
  have hXl := hS.bal.1; have hEl := hS.le
  have hfit := move_fit hG hS.bal hS.le hS.exc haM (d := pshD hd rv σ.X σ.E a) (by unfold pshD; rw [htl]; omega) (by unfold pshD; omega)
  obtain ⟨d, hd'⟩ : ∃ d, pshD hd rv σ.X σ.E a = d := ⟨_, rfl⟩
  rw [hd'] at hfit
  obtain ⟨q, hq⟩ : ∃ q, rv a = q := ⟨_, rfl⟩
  obtain ⟨v, hv⟩ : ∃ v, hd a = v := ⟨_, rfl⟩
  have hmin : min (hOf σ.E u) (hOf σ.X a) = d := by rw [← hd', ← htl]; rfl
  have hfin : fsPush s t hd rv σ a = { X := (σ.X.set a (hOf σ.X a - d)).set q (hOf σ.X q + d), E := (σ.E.set u (hOf σ.E u - d)).set v (hOf σ.E v + d), H := σ.H, q := if hOf σ.E v = 0 ∧ v ≠ s ∧ v ≠ t then σ.q ++ [v] else σ.q, nx := σ.nx, P := σ.P + 1, L := σ.L } := by
    unfold fsPush mvX mvE
    rw [hd', htl, hq, hv]
  rw [htl, hv, hq] at hfit
  rw [htl] at huN huv
  rw [hv] at hvN huv
  rw [hq] at hra hne
  obtain ⟨x, hx'⟩ : ∃ x, hOf σ.X a = x := ⟨_, rfl⟩
  obtain ⟨y, hy'⟩ : ∃ y, hOf σ.X q = y := ⟨_, rfl⟩
  obtain ⟨eu, heu⟩ : ∃ y, hOf σ.E u = y := ⟨_, rfl⟩
  obtain ⟨ev, hev⟩ : ∃ y, hOf σ.E v = y := ⟨_, rfl⟩
  obtain ⟨cXa, fXa, zX, -⟩ := hR.hx.cell (i := 0) (j := a) rfl haM (lvs_at (by omega))
  obtain ⟨cXq, fXq, -, -⟩ := hR.hx.cell (i := 0) (j := q) rfl hra (lvs_at (by omega))
  obtain ⟨cEu, fEu, zE, -⟩ := hR.hx.cell (i := 1) (j := u) rfl huN (lvs_at (by omega))
  obtain ⟨cEv, fEv, -, -⟩ := hR.hx.cell (i := 1) (j := v) rfl hvN (lvs_at (by omega))
  rw [hx', hy', heu, hev] at hfit hfin
  rw [heu, hx'] at hmin
  rw [hx'] at cXa; rw [hy'] at cXq; rw [heu] at cEu h0; rw [hev] at cEv
  have HI := Lib.hid hI; have HRQ := Lib.hid hR; have HFIN := Lib.hid hfin; have HYQ := Lib.hid hy'; have HEV := Lib.hid hev; have HEU := Lib.hid heu; have HRV := Lib.hid hq; have HHV := Lib.hid hv
  obtain ⟨bR, oR, hR'⟩ := hI.gi.iR.adr (by omega)
  obtain ⟨bH, oH, hH⟩ := hI.gi.iH.adr (by omega)
  clear hx' hy' heu hev hd' hfin htl hI hG hS
  obtain ⟨AF, cF, AH, cHK, AR, cR, AC, cC, AA, cA, AB, cB⟩ := K
  dsimp only at hR' hH
  subst hR'; subst hH
  obtain ⟨hbR, cr⟩ := tab_cell (HI.out.below hR.bel).gi.iR haM
  obtain ⟨hbH, chd⟩ := tab_cell (HI.out.below hR.bel).gi.iH haM
  rw [hq] at cr; rw [hv] at chd
  obtain ⟨h1, h2, h3, h4⟩ := hfit
  unfold InR at h1 h2 h3 h4
  have hw1 : IntKind.i64.wrap (x - d) = x - d := wrap_in h1.1 (by omega)
  have hw2 : IntKind.i64.wrap (y + d) = y + d := wrap_in h2.1 (by omega)
  have hw3 : IntKind.i64.wrap (eu - d) = eu - d := wrap_in h3.1 (by omega)
  have hw4 : IntKind.i64.wrap (ev + d) = ev + d := wrap_in h4.1 (by omega)
  have hwP : IntKind.i64.wrap ((σ.P : Int) + 1) = ((σ.P + 1 : Nat) : Int) := wrap_nat (by omega)
  have hmin1 : (if x < eu then x else eu) = d := by rw [← hmin]; split <;> omega
  have hmin2 : (if eu < x then eu else x) = d := by rw [← hmin]; split <;> omega
  obtain ⟨⟨c0, c1, c2, c3, c4, c5⟩, ⟨c9, c10, c11⟩, ⟨c12, c13, c14, c15⟩, ⟨f12, f13⟩, hz⟩ := hR.cells
  dsimp only at c3 c4 c5
  have hbw := hR.hx.bas
  clear hmin hR h1 h2 h3 h4 hq hv
  have HMN := Lib.hid hmin1; have HMN2 := Lib.hid hmin2
  go_enter Try.func104, Try.ntmps104
  go_wp2_with fail
  go_quiet (fail)
  go_wp2_with fail
  have HQ1 := Lib.hid ((HRQ.out.drew nq).putX a (x - d))
  obtain ⟨w1, hw1'⟩ : ∃ w1, (w.drewN nq).setCell ⟨gX, a, none⟩ (.int .i64 (x - d)) = w1 := ⟨_, rfl⟩
  rw [hw1'] at HQ1 ⊢
  clear hw1' cXa fXa zX cXq fXq cEu fEu zE cEv fEv c0 c1 c2 c3 c4 c5 c9 c10 c11 c12 c13 c14 c15 f12 f13 hz hbw cr chd
  obtain ⟨cXq, fXq, zX, -⟩ := HQ1.out.hx.cell (i := 0) (j := q) rfl hra (lvs_at (by simp; omega))
  dsimp only at cXq
  rw [hOf_put (by omega), if_neg (fun e => hne e.symm), HYQ.out] at cXq
  obtain ⟨⟨c0, c1, c2, c3, c4, c5⟩, ⟨c9, c10, c11⟩, ⟨c12, c13, c14, c15⟩, ⟨f12, f13⟩, hz⟩ := HQ1.out.cells
  obtain ⟨-, cr⟩ := tab_cell (HI.out.below HQ1.out.bel).gi.iR haM
  rw [HRV.out] at cr
  dsimp only at c3 c4 c5 c12 c13
  have hbw := HQ1.out.hx.bas
  go_still_tail 18, (by kernel_rfl)
  change wpList _ _ _ _ _ w1.drew
  have HQ2 := Lib.hid (HQ1.out.on (Below.refl _ _).drew)
  clear cXq fXq zX c0 c1 c2 c3 c4 c5 c9 c10 c11 c12 c13 c14 c15 f12 f13 hz hbw cr
  generalize w1.drew = w2 at *
  obtain ⟨cXq, fXq, zX, -⟩ := HQ2.out.hx.cell (i := 0) (j := q) rfl hra (lvs_at (by simp; omega))
  dsimp only at cXq
  rw [hOf_put (by omega), if_neg (fun e => hne e.symm), HYQ.out] at cXq
  go_upto_region 4 with fail
  have HQ3 := Lib.hid (HQ2.out.putX q (y + d))
  obtain ⟨w3, hw1'⟩ : ∃ w3, w2.setCell ⟨gX, q, none⟩ (.int .i64 (y + d)) = w3 := ⟨_, rfl⟩
  rw [hw1'] at HQ3 ⊢
  clear hw1' cXq fXq zX
  obtain ⟨cEu, fEu, zE, -⟩ := HQ3.out.hx.cell (i := 1) (j := u) rfl huN (lvs_at (by show u < σ.E.length; omega))
  obtain ⟨⟨c0, c1, c2, c3, c4, c5⟩, ⟨c9, c10, c11⟩, ⟨c12, c13, c14, c15⟩, ⟨f12, f13⟩, hz⟩ := HQ3.out.cells
  dsimp only at c3 c4 c5 c12 c13 cEu
  rw [HEU.out] at cEu
  have hbw := HQ3.out.hx.bas
  go_upto_region 5 with fail
  have HQ4 := Lib.hid (HQ3.out.putE u (eu - d))
  obtain ⟨w4, hw1'⟩ : ∃ w4, w3.setCell ⟨gE, u, none⟩ (.int .i64 (eu - d)) = w4 := ⟨_, rfl⟩
  rw [hw1'] at HQ4 ⊢
  clear hw1' cEu fEu zE c0 c1 c2 c3 c4 c5 c9 c10 c11 c12 c13 c14 c15 f12 f13 hz hbw
  obtain ⟨cEv, fEv, zE, -⟩ := HQ4.out.hx.cell (i := 1) (j := v) rfl hvN (lvs_at (by simp; omega))
  obtain ⟨⟨c0, c1, c2, c3, c4, c5⟩, ⟨c9, c10, c11⟩, ⟨c12, c13, c14, c15⟩, ⟨f12, f13⟩, hz⟩ := HQ4.out.cells
  dsimp only at c3 c4 c5 c12 c13 cEv
  rw [hOf_put (by omega), if_neg huv, HEV.out] at cEv
  have hbw := HQ4.out.hx.bas
  go_upto_region 6 with fail
  have HQ5 := Lib.hid (HQ4.out.putE v (ev + d))
  obtain ⟨w5, hw1'⟩ : ∃ w5, w4.setCell ⟨gE, v, none⟩ (.int .i64 (ev + d)) = w5 := ⟨_, rfl⟩
  rw [hw1'] at HQ5 ⊢
  clear hw1' cEv fEv zE c0 c1 c2 c3 c4 c5 c9 c10 c11 c12 c13 c14 c15 f12 f13 hz hbw
  obtain ⟨⟨c0, c1, c2, c3, c4, c5⟩, ⟨c9, c10, c11⟩, ⟨c12, c13, c14, c15⟩, ⟨f12, f13⟩, hz⟩ := HQ5.out.cells
  dsimp only at c3 c4 c5 c12 c13
  have hbw := HQ5.out.hx.bas
  go_upto_region 7 with fail
  have HQ6 := Lib.hid (HQ5.out.putP (σ.P + 1))
  obtain ⟨w6, hw1'⟩ : ∃ w6, w5.setCell ⟨g, 12, none⟩ (.int .i64 ((σ.P + 1 : Nat) : Int)) = w6 := ⟨_, rfl⟩
  rw [hw1'] at HQ6
  first | rw [hw1'] | (have e9 : ((σ.P + 1 : Nat) : Int) = (σ.P : Int) + 1 := by omega
                       rw [e9] at hw1'; rw [hw1'])
  clear hw1' c0 c1 c2 c3 c4 c5 c9 c10 c11 c12 c13 c14 c15 f12 f13 hz hbw
  obtain ⟨⟨c0, c1, c2, c3, c4, c5⟩, ⟨c9, c10, c11⟩, ⟨c12, c13, c14, c15⟩, ⟨f12, f13⟩, hz⟩ := HQ6.out.cells
  dsimp only at c3 c4 c5 c12 c13
  have hbw := HQ6.out.hx.bas
  by_cases e0 : ev = 0
  · by_cases e1 : v = s
    · have hno : (if ev = 0 ∧ v ≠ s ∧ v ≠ t then σ.q ++ [v] else σ.q) = σ.q := if_neg fun h => h.2.1 e1
      rw [hno] at HFIN
      have HE0 := Lib.hid e0
      subst e1
      subst e0
      go_wp2_with fail
      go_end0
      exact ⟨⟨_, rfl⟩, by rw [HFIN.out]; exact HQ6.out⟩
    · by_cases e2 : v = t
      · have hno : (if ev = 0 ∧ v ≠ s ∧ v ≠ t then σ.q ++ [v] else σ.q) = σ.q := if_neg fun h => h.2.2 e2
        rw [hno] at HFIN
        subst e2
        subst e0
        go_wp2_with fail
        go_end0
        exact ⟨⟨_, rfl⟩, by rw [HFIN.out]; exact HQ6.out⟩
      · have hno : (if ev = 0 ∧ v ≠ s ∧ v ≠ t then σ.q ++ [v] else σ.q) = σ.q ++ [v] := if_pos ⟨e0, e1, e2⟩
        rw [hno] at HFIN
        subst e0
        have hs1 : ((v : Int) != (s : Int)) = true := by simp; omega
        have ht1 : ((v : Int) != (t : Int)) = true := by simp; omega
        have HS1 := Lib.hid e1; have HT1 := Lib.hid e2
        clear hno e1 e2
        go_upto_region 8 with fail
        obtain ⟨sn, rc, hck⟩ := HQ6.out.ck
        refine wp_region_to ?_
        refine to_val rfl rfl (v := .pointer (some ⟨g, 0, none⟩)) (w' := w6) (by simp [go_sem]) ?_
        refine to_val rfl rfl (v := .pointer (some ⟨g, 0, none⟩)) (w' := w6) (by simp [go_sem, Act.put]) ?_
        refine to_val rfl rfl (v := .pointer (some ⟨g, 14, none⟩)) (w' := w6) (by simp [go_sem, Act.put]) ?_
        refine to_val rfl rfl (v := .chan (some ch)) (w' := w6) (by simp [go_sem, Act.put, c14]) ?_
        refine to_val rfl rfl (v := .int .i64 (v : Int)) (w' := w6) (by simp [go_sem, Act.put]) ?_
        refine to_send (c := ch) (v := .int .i64 (v : Int)) (z := .tuple #[]) rfl rfl (by simp [execOp, scase, Act.eval, Act.put]) hck (by simpa [nvs] using hroom) ?_
        refine to_nil ?_
        go_wp2_with fail
        go_end0
        refine ⟨⟨_, rfl⟩, ?_⟩
        rw [HFIN.out, show nvs σ.q ++ [Value.int .i64 (v : Int)] = nvs (σ.q ++ [v]) from by simp [nvs]]
        exact HQ6.out.chan (σ.q ++ [v]) (sn + 1) rc
  · have hno : (if ev = 0 ∧ v ≠ s ∧ v ≠ t then σ.q ++ [v] else σ.q) = σ.q := if_neg fun h => e0 h.1
    rw [hno] at HFIN
    have e0' : (ev == 0) = false := by simpa using e0
    go_wp2_with fail
    go_end0
    exact ⟨⟨_, rfl⟩, by rw [HFIN.out]; exact HQ6.out⟩

end Go.Proofs.Ytfcjmhihheeifaa

/-! Serv -/
namespace Go.Proofs.Ytfcjmhihheeifaa
open Go.RowKit Go.Shelf
set_option maxRecDepth 100000
attribute [local go_sem] Oper.semAt_some

theorem mid_room {N M s t : Nat} {fst hd rv : Nat → Nat} {cp : Nat → Int} {C : Nat} {Ls : Int} {u : Nat} {σ : FS} (h : MidS N M s t fst hd rv cp C Ls u σ) : σ.q.length < N ∧ u < N ∧ StIs N M s t hd rv cp σ.X σ.E σ.H ∧ fst u ≤ σ.nx u ∧ σ.nx u ≤ fst (u + 1) := by
  obtain ⟨g, h⟩ := h
  have h1 := nodup_le (N := N) (xs := u :: σ.q) (List.nodup_cons.2 ⟨h.uq, h.co.nd⟩) (fun v hv => by
    rcases List.mem_cons.1 hv with rfl | hv
    · exact h.u0
    · exact (h.co.qa v hv).1)
  simp only [List.length_cons] at h1
  exact ⟨by omega, h.u0, h.co.st, h.co.nxb u h.u0⟩

set_option maxHeartbeats 4000000 in
theorem fserve_is (base g ch N M s t u C : Nat) (Ls : Int) (K : CsrS) (fst hd rv ai : Nat → Nat) (cp : Nat → Int) (bk : Nat → Bool) (gX cX gE cE gH cH gn cn : Nat) (σ : FS) (w0 w : World) (hG : PNet N M s t fst hd rv ai cp bk) (hI : PIn w0 base N M K fst hd rv ai cp bk)
    (hR : RunQ w0 w base g ch N M s t K (some ⟨gX, 0, none⟩) cX gE cE gH cH gn cn σ) (hS : MidS N M s t fst hd rv cp C Ls u σ) (hL : (N : Int) ≤ Ls) (hB : runMax N M C < 4611686018427387904) :
    Calls Try.prog 84 #[.pointer (some ⟨g, 0, none⟩), .int .i64 (u : Int)] w fun e w' => (∃ v, e = .returned v) ∧ ∃ σ', Srv N s t fst hd rv u σ σ' ∧ RunQ w0 w' base g ch N M s t K (some ⟨gX, 0, none⟩) cX gE cE gH cH gn cn σ' ∧ HeadS N M s t fst hd rv cp C Ls σ' := by
  have HG := Lib.hid hG; have HI := Lib.hid hI; have HR0 := Lib.hid hR; have HS0 := Lib.hid hS; have HL := Lib.hid hL; have HB := Lib.hid hB
  have hbw := hR.hx.bas
  have hu := (mid_room hS).2.1
  clear hG hI hR hS hL hB
  go_enter Try.func84, Try.ntmps84
  go_wp2_with fail
  go_loopg [] (runMax N M C - (σ.P + σ.L)) (fun k wr => ∃ τ : FS, k = runMax N M C - (τ.P + τ.L) ∧ (∀ σ', Srv N s t fst hd rv u τ σ' → Srv N s t fst hd rv u σ σ') ∧ MidS N M s t fst hd rv cp C Ls u τ ∧ RunQ w0 wr base g ch N M s t K (some ⟨gX, 0, none⟩) cX gE cE gH cH gn cn τ)
  case atStart => exact ⟨σ, rfl, fun _ h => h, HS0.out, HR0.out⟩
  case round =>
    obtain ⟨τ, rfl, hgo, hm, hQ⟩ := hrel
    have HGO := Lib.hid hgo; have HM := Lib.hid hm; have HQ := Lib.hid hQ
    clear hbw
    have hbw := hQ.hx.bas
    obtain ⟨hroom, -, hst, hn1, hn2⟩ := mid_room hm
    have hEl := hst.le
    obtain ⟨-, ⟨c9, c10, c11⟩, -, -, hz⟩ := hQ.cells
    obtain ⟨cEu, fEu, zE, -⟩ := hQ.hx.cell (i := 1) (j := u) rfl hu (lvs_at (by omega))
    obtain ⟨eu, heu⟩ : ∃ y, hOf τ.E u = y := ⟨_, rfl⟩
    rw [heu] at cEu
    have HEU := Lib.hid heu
    clear hgo hm hQ heu hst
    by_cases h0 : 0 < eu
    · have hd1 : decide (0 < eu) = true := decide_eq_true h0
      have h0' : 0 < hOf τ.E u := by rw [HEU.out]; exact h0
      obtain ⟨hms, ha1, ha2, ha3, ha4⟩ := mid_seek HM.out
      have hstep := mid_step HG.out HM.out h0'
      have hcnt := fsStep_cnt N s t fst hd rv τ u
      have hb2 := mid_bound HG.out hstep HL.out
      have hb1 := HB.out
      have hgo2 : ∀ σ', Srv N s t fst hd rv u (fsStep N s t fst hd rv τ u) σ' → Srv N s t fst hd rv u σ σ' := fun σ' h => HGO.out σ' (.step h0' h)
      obtain ⟨hroom1, -, hst1, hn3, hn4⟩ := mid_room hms
      by_cases hlt : fsNext fst hd rv τ u < fst (u + 1)
      · have hfs : fsStep N s t fst hd rv τ u = fsPush s t hd rv (fsSeek fst hd rv τ u) (fsNext fst hd rv τ u) := by unfold fsStep; rw [if_pos hlt]
        have hadm := fun W (hq : RunQ w0 W base g ch N M s t K (some ⟨gX, 0, none⟩) cX gE cE gH cH gn cn τ) => fadm_is base g ch N M s t u K fst hd rv ai cp bk gX cX gE cE gH cH gn cn τ (fsNext fst hd rv τ u) true w0 W HG.out HI.out hq (mid_room HM.out).2.2.1 hu hn1 hn2 (decide_eq_true hlt) (by simp)
        have haM : fsNext fst hd rv τ u < M := by have := HG.out.g.fle (v := u + 1) (by omega); omega
        have hpsh := fun W (hq : RunQ w0 W base g ch N M s t K (some ⟨gX, 0, none⟩) cX gE cE gH cH gn cn (fsSeek fst hd rv τ u)) => fpush_is base g ch N M s t u (fsNext fst hd rv τ u) K fst hd rv ai cp bk gX cX gE cE gH cH gn cn (fsSeek fst hd rv τ u) w0 W HG.out HI.out hq hst1 haM (HG.out.g.tail u _ hu ha1 hlt) h0' (adm_iff.1 (ha3 hlt)).1 hroom1 (by show τ.P < _; omega)
        rw [← hfs] at hpsh
        obtain ⟨A, hA⟩ : ∃ A, fsNext fst hd rv τ u = A := ⟨_, rfl⟩
        rw [hA] at hadm hpsh
        have HADM := Lib.hid hadm; have HPSH := Lib.hid hpsh; have HSTEP := Lib.hid hstep; have HGO2 := Lib.hid hgo2; have HCNT := Lib.hid hcnt; have HB2 := Lib.hid hb2
        clear hadm hpsh hstep hgo2 hcnt hb2 hb1 hfs hA hms ha1 ha2 ha3 ha4 hst1 hn1 hn2 hn3 hn4 hlt haM hroom hroom1 h0'
        go_wp2_with (first | (go_at_call 103; refine (HADM.out _ HQ.out).mono ?_; rintro e w1 ⟨rfl, R1⟩; have HR1 := Lib.hid R1; clear R1) | (go_at_call 104; refine (HPSH.out _ HR1.out).mono ?_; rintro e w2 ⟨⟨v2, rfl⟩, R2⟩; have HR2 := Lib.hid R2; clear R2))
        go_roundg (runMax N M C - ((fsStep N s t fst hd rv τ u).P + (fsStep N s t fst hd rv τ u).L))
        case measure => have := HCNT.out; have := HB2.out; omega
        case rel => exact ⟨_, rfl, HGO2.out, HSTEP.out, HR2.out⟩
      · have hfs : fsStep N s t fst hd rv τ u = fsLift N fst hd (fsSeek fst hd rv τ u) u := by unfold fsStep; rw [if_neg hlt]
        have hadm := fun W (hq : RunQ w0 W base g ch N M s t K (some ⟨gX, 0, none⟩) cX gE cE gH cH gn cn τ) => fadm_is base g ch N M s t u K fst hd rv ai cp bk gX cX gE cE gH cH gn cn τ 0 false w0 W HG.out HI.out hq (mid_room HM.out).2.2.1 hu hn1 hn2 (decide_eq_false hlt) (by simp)
        have hpsh := fun W (hq : RunQ w0 W base g ch N M s t K (some ⟨gX, 0, none⟩) cX gE cE gH cH gn cn (fsSeek fst hd rv τ u)) => flift_is base g ch N M s t u K fst hd rv ai cp bk gX cX gE cE gH cH gn cn (fsSeek fst hd rv τ u) w0 W HG.out HI.out hq hst1 hu (by show τ.L < _; omega)
        rw [← hfs] at hpsh
        have HADM := Lib.hid hadm; have HPSH := Lib.hid hpsh; have HSTEP := Lib.hid hstep; have HGO2 := Lib.hid hgo2; have HCNT := Lib.hid hcnt; have HB2 := Lib.hid hb2
        clear hadm hpsh hstep hgo2 hcnt hb2 hb1 hfs hms ha1 ha2 ha3 ha4 hst1 hn1 hn2 hn3 hn4 hlt hroom hroom1 h0'
        go_wp2_with (first | (go_at_call 103; refine (HADM.out _ HQ.out).mono ?_; rintro e w1 ⟨rfl, R1⟩; have HR1 := Lib.hid R1; clear R1) | (go_at_call 105; refine (HPSH.out _ HR1.out).mono ?_; rintro e w2 ⟨⟨v2, rfl⟩, R2⟩; have HR2 := Lib.hid R2; clear R2))
        go_roundg (runMax N M C - ((fsStep N s t fst hd rv τ u).P + (fsStep N s t fst hd rv τ u).L))
        case measure => have := HCNT.out; have := HB2.out; omega
        case rel => exact ⟨_, rfl, HGO2.out, HSTEP.out, HR2.out⟩
    · have hd1 : decide (0 < eu) = false := decide_eq_false h0
      have h0' : ¬ 0 < hOf τ.E u := by rw [HEU.out]; exact h0
      have hfin : Srv N s t fst hd rv u σ τ ∧ HeadS N M s t fst hd rv cp C Ls τ := ⟨HGO.out τ (.stop h0'), mid_done HM.out h0'⟩
      have HFIN := Lib.hid hfin
      clear hfin h0' hroom hn1 hn2
      go_wp2_with fail
      go_end0
      exact ⟨⟨_, rfl⟩, τ, HFIN.out.1, HQ.out, HFIN.out.2⟩

end Go.Proofs.Ytfcjmhihheeifaa

/-! Fini -/
namespace Go.Proofs.Ytfcjmhihheeifaa
open Go.RowKit Go.Shelf Go.Conc
set_option maxRecDepth 100000
attribute [local go_sem] Oper.semAt_some

theorem fserve_ax (base g ch N M s t u C : Nat) (Ls : Int) (K : CsrS) (fst hd rv ai : Nat → Nat) (cp : Nat → Int) (bk : Nat → Bool) (AX : Option Addr) (cX gE cE gH cH gn cn : Nat) (σ : FS) (w0 w : World) (hG : PNet N M s t fst hd rv ai cp bk) (hI : PIn w0 base N M K fst hd rv ai cp bk)
    (hR : RunQ w0 w base g ch N M s t K AX cX gE cE gH cH gn cn σ) (hS : MidS N M s t fst hd rv cp C Ls u σ) (hL : (N : Int) ≤ Ls) (hB : runMax N M C < 4611686018427387904) (h0 : 0 < hOf σ.E u) :
    Calls Try.prog 84 #[.pointer (some ⟨g, 0, none⟩), .int .i64 (u : Int)] w fun e w' => (∃ v, e = .returned v) ∧ ∃ σ', Srv N s t fst hd rv u σ σ' ∧ RunQ w0 w' base g ch N M s t K AX cX gE cE gH cH gn cn σ' ∧ HeadS N M s t fst hd rv cp C Ls σ' := by
  have hM0 : 0 < M := by
    obtain ⟨gg, hm⟩ := hS
    obtain ⟨a, h1, h2, h3, h4⟩ := hm.co.st.low hG hm.u0 hm.us h0
    omega
  obtain ⟨gX, rfl⟩ := own_some (hR.hx.held.own 0 _ rfl) hM0
  exact fserve_is base g ch N M s t u C Ls K fst hd rv ai cp bk gX cX gE cE gH cH gn cn σ w0 w hG hI hR hS hL hB

set_option maxHeartbeats 4000000 in
theorem ffinish_is (base g ch N M s t C : Nat) (Ls : Int) (K : CsrS) (fst hd rv ai : Nat → Nat) (cp : Nat → Int) (bk : Nat → Bool) (AX : Option Addr) (cX gE cE gH cH gn cn : Nat) (σ : FS) (w0 w : World) (hG : PNet N M s t fst hd rv ai cp bk) (hI : PIn w0 base N M K fst hd rv ai cp bk)
    (hR : RunQ w0 w base g ch N M s t K AX cX gE cE gH cH gn cn σ) (hS : HeadS N M s t fst hd rv cp C Ls σ) (hL : (N : Int) ≤ Ls) (hB : runMax N M C < 4611686018427387904) :
    Calls Try.prog 45 #[.pointer (some ⟨g, 0, none⟩)] w fun e w' => (∃ v, e = .returned v) ∧ ∃ σ', Fin N s t fst hd rv σ σ' ∧ σ'.q = [] ∧ RunQ w0 w' base g ch N M s t K AX cX gE cE gH cH gn cn σ' ∧ HeadS N M s t fst hd rv cp C Ls σ' := by
  have HG := Lib.hid hG; have HI := Lib.hid hI; have HR0 := Lib.hid hR; have HS0 := Lib.hid hS; have HL := Lib.hid hL; have HB := Lib.hid hB
  have hbw := hR.hx.bas
  clear hG hI hR hS hL hB
  go_enter Try.func45, Try.ntmps45
  go_wp2_with fail
  go_loopg [] (runMax N M C - (σ.P + σ.L)) (fun k wr => ∃ τ : FS, k = runMax N M C - (τ.P + τ.L) ∧ (∀ σ', Fin N s t fst hd rv τ σ' → Fin N s t fst hd rv σ σ') ∧ HeadS N M s t fst hd rv cp C Ls τ ∧ RunQ w0 wr base g ch N M s t K AX cX gE cE gH cH gn cn τ)
  case atStart => exact ⟨σ, rfl, fun _ h => h, HS0.out, HR0.out⟩
  case round =>
    obtain ⟨τ, rfl, hgo, hm, hQ⟩ := hrel
    have HGO := Lib.hid hgo; have HM := Lib.hid hm; have HQ := Lib.hid hQ
    clear hbw
    have hbw := hQ.hx.bas
    obtain ⟨-, -, ⟨c12, c13, c14, c15⟩, -, hz⟩ := hQ.cells
    obtain ⟨sn, rc, hck⟩ := hQ.ck
    clear c12 c13 c15
    cases hq : τ.q with
    | nil =>
      have hfin := HGO.out τ (.stop hq)
      have HFIN := Lib.hid hfin; have HQE := Lib.hid hq
      rw [hq] at hck
      clear hfin hq hgo hm hQ
      go_upto_region 1 with fail
      refine wp_region_to ?_
      refine to_none (c := ch) (z := .int .i64 0) rfl rfl (by simp [go_sem, execOp, rcase, Act.eval]) hck ?_
      refine to_val rfl rfl (v := .int .i64 (-1)) (w' := wr) (by simp [go_sem, Act.put, goInt]) ?_
      refine to_val rfl rfl (v := .bool false) (w' := wr) (by simp [go_sem, Act.put]) ?_
      refine to_nil ?_
      go_wp2_with fail
      (try simp only [Exit.inBlock, Exit.then])
      refine bodyPost_ret (results_none rfl _ _ _) rfl ?_
      exact ⟨⟨_, rfl⟩, τ, HFIN.out, HQE.out, HQ.out, HM.out⟩
    | cons u r =>
      obtain ⟨hmid, h0⟩ := head_take hm hq
      have HT := Lib.hid hmid; have H0 := Lib.hid h0
      have hgo2 : ∀ τ1 σ', Srv N s t fst hd rv u { τ with q := r } τ1 → Fin N s t fst hd rv τ1 σ' → Fin N s t fst hd rv σ σ' := fun τ1 σ' h1 h2 => HGO.out σ' (.step hq h1 h2)
      have HGO2 := Lib.hid hgo2
      have hcnt : ∀ τ1, Srv N s t fst hd rv u { τ with q := r } τ1 → τ.P + τ.L + 1 ≤ τ1.P + τ1.L := fun τ1 h => by
        cases h with
        | stop hn => exact absurd h0 hn
        | step _ h' =>
          have e1 := srv_cnt h'
          have e2 := fsStep_cnt N s t fst hd rv { τ with q := r } u
          dsimp only at e2
          omega
      have HCN := Lib.hid hcnt
      rw [hq] at hck
      have hsv := fun W (hw : RunQ w0 W base g ch N M s t K AX cX gE cE gH cH gn cn { τ with q := r }) => fserve_ax base g ch N M s t u C Ls K fst hd rv ai cp bk AX cX gE cE gH cH gn cn { τ with q := r } w0 W HG.out HI.out hw HT.out HL.out HB.out H0.out
      have HSV := Lib.hid hsv
      have hQ2 := HQ.out.chan r sn (rc + 1)
      have HQ2 := Lib.hid hQ2
      have e1 : (nvs (u :: r)).toArray.getD 0 undef = .int .i64 (u : Int) := by simp [nvs]
      have e2 : (nvs (u :: r)).toArray.extract 1 (nvs (u :: r)).toArray.size = (nvs r).toArray := by
        simp [nvs]
        exact List.take_of_length_le (by simp)
      clear hgo hm hQ hq hmid h0 hgo2 hcnt hsv hQ2
      go_upto_region 1 with fail
      refine wp_region_to ?_
      refine to_recv (c := ch) (z := .int .i64 0) rfl rfl (by simp [go_sem, execOp, rcase, Act.eval]) hck (by simp [nvs]) ?_
      rw [e1, e2]
      clear e1 e2 hck
      obtain ⟨w2, hw2⟩ : ∃ w2, wr.setChan ch N (nvs r).toArray false sn (rc + 1) false = w2 := ⟨_, rfl⟩
      rw [hw2] at HQ2 ⊢
      clear hw2 c14 hz hbw
      have hbw := HQ2.out.hx.bas
      refine to_val rfl rfl (v := .int .i64 0) (w' := w2) (by simp [go_sem, Act.put, goInt]) ?_
      refine to_val rfl rfl (v := .bool true) (w' := w2) (by simp [go_sem, Act.put]) ?_
      refine to_nil ?_
      go_wp2_with (go_at_call 84; refine (HSV.out _ HQ2.out).mono ?_; rintro e w3 ⟨⟨v2, rfl⟩, τ1, R1, R2, R3⟩; have HR1 := Lib.hid R1; have HR2 := Lib.hid R2; have HR3 := Lib.hid R3; clear R1 R2 R3)
      go_roundg (runMax N M C - (τ1.P + τ1.L))
      case measure =>
        have h1 := HCN.out τ1 HR1.out
        obtain ⟨gg, h3, _⟩ := HR3.out
        have h2 := core_bound HG.out h3 HL.out
        have h4 : τ1.P + τ1.L ≤ runMax N M C := by unfold runMax; omega
        omega
      case rel => exact ⟨τ1, rfl, fun σ' h => HGO2.out τ1 σ' HR1.out h, HR3.out, HR2.out⟩

end Go.Proofs.Ytfcjmhihheeifaa
