/- Layer 9: twin; apply: a move done in rows of the call's own. -/
import Derived.Test.YtanifbofjecpmaaRlc
namespace Go.Proofs.Ytanifbofjecpmaa
open Go.RowKit Go.Shelf
set_option maxRecDepth 100000

set_option maxHeartbeats 4000000 in
theorem twin_is (nX nE nH : Nat) (Q : PreS) (X E H : List Int) (w : World) (hQ : StIn w w.heap.size nX nE nH Q X E H) (hX : nX ≤ 17592186044416) (hE : nE ≤ 17592186044416) (hH : nH ≤ 17592186044416) :
    Calls Try.prog 37 #[preW nX nE nH Q] w (RetPre nX nE nH X E H w) := by
  have hcx := fun W (hb : Below w.heap.size w W) => cloneL_is Q.AX nX Q.cX X W (hQ.on hb).iX hX
  have hce := fun W (hb : Below w.heap.size w W) => cloneL_is Q.AE nE Q.cE E W (hQ.on hb).iE hE
  have hch := fun W (hb : Below w.heap.size w W) => cloneI_is Q.AH nH Q.cH H W (hQ.on hb).iH hH
  have HCX := Lib.hid hcx; have HCE := Lib.hid hce; have HCH := Lib.hid hch
  clear hcx hce hch hQ
  obtain ⟨AX, cX, AE, cE, AHH, cHH⟩ := Q
  dsimp only [preW] at HCX HCE HCH ⊢
  go_enter Try.func37, Try.ntmps37
  go_wp2_with fail
  obtain ⟨w1, hw1⟩ : ∃ w1, ((w.alloc (.cells #[.slice AX nX cX, .slice AE nE cE, .slice AHH nH cHH] 29)).alloc (.cells #[.slice none 0 0, .slice none 0 0, .slice none 0 0] 29)) = w1 := ⟨_, rfl⟩
  have S1 : w1.heap.size = w.heap.size + 2 := by rw [← hw1]; simp
  have hS0' : CopyS w nX nE nH ⟨AX, cX, AE, cE, AHH, cHH⟩ w1 := by
    rw [← hw1]
    exact ⟨((Below.refl _ w).alloc (Nat.le_refl _) _).alloc (by simp) _, (Blk.new rfl).alloc _, _, _, _, Blk.new (by simp)⟩
  rw [hw1]
  clear hw1
  refine wp_region_held_drew (S := CopyS w nX nE nH ⟨AX, cX, AE, cE, AHH, cHH⟩) (by kernel_rfl) (copyS_on hS0' (Below.refl _ _).drew) (fun hS0 => ?_)
  refine tk (v := ?_) 0 3 rfl ?_ ?_
  rotate_left
  · (intro W hSw; obtain ⟨k0, k1, k2⟩ := hSw.cells; go_simp; try with_reducible rfl)
  simp only [Act.put, pa, pz, ps]
  refine tk (v := ?_) 1 4 rfl ?_ ?_
  rotate_left
  · (intro W hSw; obtain ⟨k0, k1, k2⟩ := hSw.cells; go_simp; try with_reducible rfl)
  simp only [Act.put, pa, pz, ps]
  refine tk (v := ?_) 3 6 rfl ?_ ?_
  rotate_left
  · (intro W hSw; obtain ⟨k0, k1, k2⟩ := hSw.cells; go_simp; try with_reducible rfl)
  simp only [Act.put, pa, pz, ps]
  refine tk (v := ?_) 4 7 rfl ?_ ?_
  rotate_left
  · (intro W hSw; obtain ⟨k0, k1, k2⟩ := hSw.cells; go_simp; try with_reducible rfl)
  simp only [Act.put, pa, pz, ps]
  refine tk (v := ?_) 6 9 rfl ?_ ?_
  rotate_left
  · (intro W hSw; obtain ⟨k0, k1, k2⟩ := hSw.cells; go_simp; try with_reducible rfl)
  simp only [Act.put, pa, pz, ps]
  refine tk (v := ?_) 7 10 rfl ?_ ?_
  rotate_left
  · (intro W hSw; obtain ⟨k0, k1, k2⟩ := hSw.cells; go_simp; try with_reducible rfl)
  simp only [Act.put, pa, pz, ps]
  refine wpAnyH_ready (rs := [2]) (by kernel_rfl) (by simp) ?_
  refine AllReadyH.cons rfl (fun K hK => ?_) AllReadyH.nil
  go_simp
  first
    | (go_at_call 46; ((with_reducible refine (HCX.out _ (by refine CopyS.bel (w := w) (nX := nX) (nE := nE) (nH := nH) (Q := ⟨AX, cX, AE, cE, AHH, cHH⟩) ?_; assumption)).mono ?_); rintro e W2 ⟨A2, c2, rfl, R2, B2⟩); refine hK.out _ _ (copyS_on (by assumption) B2) (fun hS3 => ?_))
    | (go_at_call 46; ((with_reducible refine (HCE.out _ (by refine CopyS.bel (w := w) (nX := nX) (nE := nE) (nH := nH) (Q := ⟨AX, cX, AE, cE, AHH, cHH⟩) ?_; assumption)).mono ?_); rintro e W2 ⟨A2, c2, rfl, R2, B2⟩); refine hK.out _ _ (copyS_on (by assumption) B2) (fun hS3 => ?_))
  clear hK K
  try simp only [Act.put, pa, pz, ps]
  refine wpAnyH_ready (rs := [5]) (by kernel_rfl) (by simp) ?_
  refine AllReadyH.cons rfl (fun K hK => ?_) AllReadyH.nil
  go_simp
  first
    | (go_at_call 46; ((with_reducible refine (HCX.out _ (by refine CopyS.bel (w := w) (nX := nX) (nE := nE) (nH := nH) (Q := ⟨AX, cX, AE, cE, AHH, cHH⟩) ?_; assumption)).mono ?_); rintro e W5 ⟨A5, c5, rfl, R5, B5⟩); refine hK.out _ _ (copyS_on (by assumption) B5) (fun hS6 => ?_))
    | (go_at_call 46; ((with_reducible refine (HCE.out _ (by refine CopyS.bel (w := w) (nX := nX) (nE := nE) (nH := nH) (Q := ⟨AX, cX, AE, cE, AHH, cHH⟩) ?_; assumption)).mono ?_); rintro e W5 ⟨A5, c5, rfl, R5, B5⟩); refine hK.out _ _ (copyS_on (by assumption) B5) (fun hS6 => ?_))
  clear hK K
  try simp only [Act.put, pa, pz, ps]
  refine wpAnyH_ready (rs := [8]) (by kernel_rfl) (by simp) ?_
  refine AllReadyH.cons rfl (fun K hK => ?_) AllReadyH.nil
  go_simp
  first
    | (go_at_call 72; ((with_reducible refine (HCH.out _ (by refine CopyS.bel (w := w) (nX := nX) (nE := nE) (nH := nH) (Q := ⟨AX, cX, AE, cE, AHH, cHH⟩) ?_; assumption)).mono ?_); rintro e W8 ⟨A8, c8, rfl, R8, B8⟩); refine hK.out _ _ (copyS_on (by assumption) B8) (fun hS9 => ?_))
  clear hK K
  try simp only [Act.put, pa, pz, ps]
  refine tk (v := ?_) 9 12 rfl ?_ ?_
  rotate_left
  · (intro W hSw; obtain ⟨k0, k1, k2⟩ := hSw.cells; go_simp; try with_reducible rfl)
  simp only [Act.put, pa, pz, ps]
  obtain ⟨x, y, z, hres⟩ := hS9.res
  have q0 := hres.cell 0; have q1 := hres.cell 1; have q2 := hres.cell 2
  simp only [List.getElem?_toArray, List.getElem?_cons_zero, List.getElem?_cons_succ] at q0 q1 q2
  have f0 := hres.frozen 0; have f1 := hres.frozen 1; have f2 := hres.frozen 2
  have hz1 := hres.lt
  refine wpAnyH_ready (rs := [10]) (by kernel_rfl) (by simp) ?_
  refine AllReadyH.cons rfl (fun K hK => ?_) AllReadyH.nil
  go_simp
  have K9 := ((hres.set 0 (.slice A2 nX c2)).set 1 (.slice A5 nE c5)).set 2 (.slice A8 nH c8)
  refine hK.out _ _ (copyS_put hS9 _ _ _) (fun hS11 => ?_)
  clear hK K
  try simp only [Act.put, pa, pz, ps]
  refine wpAnyH_done (by kernel_rfl) ?_ _
  have hz : w1.drew.heap.size = w.heap.size + 2 := S1
  have HX0 : Hx w1.drew w1.drew w1.drew.heap.size [] := Hx.start rfl
  have HX3 := ((HX0.add B2 R2).add B5 R5).add B8 R8
  have q0 := K9.cell 0; have q1 := K9.cell 1; have q2 := K9.cell 2
  simp only [List.setIfInBounds_toArray, List.set_cons_zero, List.set_cons_succ, List.getElem?_toArray, List.getElem?_cons_zero, List.getElem?_cons_succ] at q0 q1 q2
  have hz9 := K9.lt
  go_wp2_with fail
  refine bodyPost_ret (v := .agg #[.slice A2 nX c2, .slice A5 nE c5, .slice A8 nH c8]) (by simp [results, Try.results37, go_sem, q0, q1, q2]) rfl ⟨⟨A2, c2, A5, c5, A8, c8⟩, rfl, ?_⟩
  have HY := ((HX3.held.under (p := ⟨w.heap.size + 1, 0, none⟩) (by simp; omega) (.slice A2 nX c2)).under (p := ⟨w.heap.size + 1, 1, none⟩) (by simp; omega) (.slice A5 nE c5)).under (p := ⟨w.heap.size + 1, 2, none⟩) (by simp; omega) (.slice A8 nH c8)
  exact ⟨HY.low (by omega), hS11.bel.size, hS11.bel⟩


theorem Hx.putH {w0 w : World} {base nX nE nH gH cX cE cH : Nat} {AX AE : Option Addr} {X E H : List Int} (h : Hx w0 w base (pstR nX nE nH ⟨AX, cX, AE, cE, some ⟨gH, 0, none⟩, cH⟩ X E H)) (i : Nat) (x : Int) : Hx w0 (w.setCell ⟨gH, i, none⟩ (.int .i64 x)) base (pstR nX nE nH ⟨AX, cX, AE, cE, some ⟨gH, 0, none⟩, cH⟩ X E (H.set i x)) := by
  have := h.put (i := 2) rfl i (.int .i64 x)
  unfold pstR
  rw [lvs_set]
  exact this
section
variable {W W' : World} {g b N M s t nX nE nH : Nat} {K : CsrS} {Q : PreS}
theorem Mch.alloc (h : Mch W g b N M s t K nX nE nH Q) (o : Obj) : Mch (W.alloc o) g b N M s t K nX nE nH Q := h.below (below_alloc o)
theorem Mch.drew (h : Mch W g b N M s t K nX nE nH Q) (n : Nat) : Mch (W.drewN n) g b N M s t K nX nE nH Q := ⟨h.box.drewN n, h.map⟩
theorem Mch.set (h : Mch W g b N M s t K nX nE nH Q) {k i : Nat} (hg : g ≠ k) (hb : b ≠ k) (u : Value) : Mch (W.setCell ⟨k, i, none⟩ u) g b N M s t K nX nE nH Q :=
  ⟨h.box.far (p := ⟨k, i, none⟩) hg u, (Below.heap_setCell W ⟨k, i, none⟩ u b hb).trans h.map⟩
end
/-- The map's block is no row's. -/
theorem map_ne {w : World} {base n c g b : Nat} {t : TypeId} {xs : List Value} {es : Array MapEntry} {k : Nat} (h : w.ownsRow base t 1 (.slice (some ⟨g, 0, none⟩) n c) n xs) (hp : w.heap[b]? = some (.map es k)) : b ≠ g := fun e => by
  obtain ⟨cur, hk⟩ := own_blk h
  subst e
  have h2 := hk.symm.trans hp
  cases h2

section
attribute [local go_sem] Oper.semAt_some
set_option maxHeartbeats 8000000 in
theorem applyLift_is (g b N M s t u cX cE gH cHH base : Nat) (AX AE : Option Addr) (K : CsrS) (X E H : List Int) (e : EvS) (w0 w : World)
    (hM : Mch w g b N M s t K M N N ⟨AX, cX, AE, cE, some ⟨gH, 0, none⟩, cHH⟩) (hx : Hx w0 w base (pstR M N N ⟨AX, cX, AE, cE, some ⟨gH, 0, none⟩, cHH⟩ X E H)) (hl : H.length = N) (hw : e.what = 2) (hu : e.u = u) (huN : u < N) :
    Calls Try.prog 38 #[.pointer (some ⟨g, 0, none⟩), evW e] w fun e' w' => (∃ v, e' = .returned v) ∧ Mch w' g b N M s t K M N N ⟨AX, cX, AE, cE, some ⟨gH, 0, none⟩, cHH⟩ ∧
      Hx w0 w' base (pstR M N N ⟨AX, cX, AE, cE, some ⟨gH, 0, none⟩, cHH⟩ X E (H.set u e.h)) ∧ w.heap.size ≤ w'.heap.size := by
  obtain ⟨hcu, hfu, hzu, -⟩ := hx.cell (i := 2) (j := u) rfl huN (lvs_at (by omega))
  have n1 : g ≠ gH := own_apart (hx.held.own 2 _ rfl) hM.box (show (3 : TypeId) ≠ 81 by decide)
  have n2 : b ≠ gH := map_ne (hx.held.own 2 _ rfl) hM.map
  have n3 : gH ≠ w.heap.size := by omega
  have HXX := Lib.hid hx; have HMM := Lib.hid hM
  have hbox := hM.box
  obtain ⟨AF, cF, AH, cH, AR, cR, AC, cC, AA, cA, AB, cB⟩ := K
  obtain ⟨who, what, eu, arc, d0, h0, low⟩ := e
  dsimp only [evW] at hw hu hbox ⊢
  subst hw; subst hu
  clear hx hM hl
  refine (callsIn_wide (n := 3)).1 ?_
  refine callsIn_of_wp Try.func38 rfl trivial ?_ rfl
  simp only [Try.ntmps38, List.size_toArray, List.length_cons, List.length_nil, Nat.reduceAdd, Nat.reduceSub, Array.replicate_succ, Array.replicate_zero, List.push_toArray, List.append_toArray, List.nil_append, List.cons_append]
  obtain ⟨m0, m1, m2, m3, m4, m5, m6, m7, m8, m9, m10, m11, m12⟩ := hbox.at13
  have hgl := hbox.lt
  clear hbox
  gi_wp2
  refine wpIn_region_split 10 rfl rfl (by kernel_rfl) (by kernel_rfl) (by kernel_rfl) ?_
  simp only [List.take_succ_cons, List.take_zero, List.drop_succ_cons, List.drop_zero]
  repeat (gi_big_quiet_step (fail))
  refine wpQuietIn_nil ?_
  rintro _ ⟨nq, rfl⟩
  gi_wp2
  refine bodyPost_ret (v := .tuple #[]) (results_none rfl _ _ _) rfl ?_
  exact ⟨⟨_, rfl⟩, ((HMM.out.alloc _).drew nq).set n1 n2 _, ((HXX.out.alloc _).drew nq).putH u h0, by simp⟩


set_option maxHeartbeats 16000000 in
theorem applyPush_is (g b N M s t u a gX cX gE cE gH cHH base : Nat) (K : CsrS) (fst hd rv ai : Nat → Nat) (cp : Nat → Int) (bk : Nat → Bool) (X E H : List Int) (e : EvS) (w0 w : World) (hG : PNet N M s t fst hd rv ai cp bk) (hI : GridIn w base N M K fst hd rv)
    (hM : Mch w g b N M s t K M N N ⟨some ⟨gX, 0, none⟩, cX, some ⟨gE, 0, none⟩, cE, some ⟨gH, 0, none⟩, cHH⟩) (hx : Hx w0 w base (pstR M N N ⟨some ⟨gX, 0, none⟩, cX, some ⟨gE, 0, none⟩, cE, some ⟨gH, 0, none⟩, cHH⟩ X E H)) (hXl : X.length = M) (hEl : E.length = N) (hw : e.what = 1) (hu : e.u = u) (hea : e.arc = a) (ha : a < M) (hta : hd (rv a) = u)
    (h1 : InR (hOf X a - e.d)) (h2 : InR (hOf X (rv a) + e.d)) (h3 : InR (hOf E (hd (rv a)) - e.d)) (h4 : InR (hOf E (hd a) + e.d)) :
    Calls Try.prog 38 #[.pointer (some ⟨g, 0, none⟩), evW e] w fun e' w' => (∃ v, e' = .returned v) ∧ Mch w' g b N M s t K M N N ⟨some ⟨gX, 0, none⟩, cX, some ⟨gE, 0, none⟩, cE, some ⟨gH, 0, none⟩, cHH⟩ ∧
      Hx w0 w' base (pstR M N N ⟨some ⟨gX, 0, none⟩, cX, some ⟨gE, 0, none⟩, cE, some ⟨gH, 0, none⟩, cHH⟩ (mvX rv X a e.d) (mvE hd rv E a e.d) H) ∧ w.heap.size ≤ w'.heap.size := by
  have hra := hG.g.rvl a ha
  have hne := hG.rne ha
  have huN := hG.mN ha
  have hvN := hG.g.hdl a ha
  have huv := hG.nol a ha
  have hgg : gX ≠ gE := fun e => hx.held.ne 0 1 _ _ (by omega) rfl rfl gX rfl (by rw [e]; rfl)
  obtain ⟨hcx, hfx, hzx, hbx⟩ := hx.cell (i := 0) (j := a) rfl ha (lvs_at (by omega))
  obtain ⟨hcy, hfy, -, -⟩ := hx.cell (i := 0) (j := rv a) rfl hra (lvs_at (by omega))
  obtain ⟨hcu, hfu, hze, hbe⟩ := hx.cell (i := 1) (j := hd (rv a)) rfl huN (lvs_at (by omega))
  obtain ⟨hcv, hfv, -, -⟩ := hx.cell (i := 1) (j := hd a) rfl hvN (lvs_at (by omega))
  have n1 : g ≠ gX := own_apart (hx.held.own 0 _ rfl) hM.box (show (2 : TypeId) ≠ 81 by decide)
  have n2 : b ≠ gX := map_ne (hx.held.own 0 _ rfl) hM.map
  have n3 : g ≠ gE := own_apart (hx.held.own 1 _ rfl) hM.box (show (2 : TypeId) ≠ 81 by decide)
  have n4 : b ≠ gE := map_ne (hx.held.own 1 _ rfl) hM.map
  have hbw := hx.bas
  obtain ⟨bR, oR, hR⟩ := hI.iR.adr (by omega)
  obtain ⟨bH, oH, hH⟩ := hI.iH.adr (by omega)
  obtain ⟨hbR, cr⟩ := tab_cell (hR ▸ hI.iR) ha
  obtain ⟨hbH, ch⟩ := tab_cell (hH ▸ hI.iH) ha
  have HMM := Lib.hid hM; have HXX := Lib.hid hx
  have hbox := hM.box
  obtain ⟨AF, cF, AH, cH, AR, cR, AC, cC, AA, cA, AB, cB⟩ := K
  obtain ⟨who, what, eu, arc, d, h0, low⟩ := e
  dsimp only [evW] at hw hu hea hbox hR hH h1 h2 h3 h4 ⊢
  subst hR; subst hH; subst hw; subst hu; subst hea
  unfold mvX mvE
  unfold InR at h1 h2 h3 h4
  obtain ⟨q, hq⟩ : ∃ q, rv a = q := ⟨_, rfl⟩
  obtain ⟨v, hv'⟩ : ∃ v, hd a = v := ⟨_, rfl⟩
  obtain ⟨x, hx'⟩ : ∃ x, hOf X a = x := ⟨_, rfl⟩
  obtain ⟨y, hy'⟩ : ∃ y, hOf X (rv a) = y := ⟨_, rfl⟩
  rw [hta] at h3 hcu hfu huN huv ⊢
  obtain ⟨eu, heu⟩ : ∃ y, hOf E u = y := ⟨_, rfl⟩
  obtain ⟨ev, hev⟩ : ∃ y, hOf E (hd a) = y := ⟨_, rfl⟩
  rw [hx'] at h1 hcx ⊢
  rw [hy'] at h2 hcy ⊢
  rw [heu] at h3 hcu ⊢
  rw [hev] at h4 hcv ⊢
  rw [hv'] at hcv hfv hvN ch huv ⊢
  rw [hq] at hcy hfy hra cr hne ⊢
  have HEU := Lib.hid heu
  have HEV := Lib.hid (show hOf E v = ev by rw [← hv']; exact hev)
  have HY := Lib.hid (show hOf X q = y by rw [← hq]; exact hy')
  clear hx' hy' heu hev hv' hq hx hG hI hM hta
  have hw1 : IntKind.i64.wrap (x - d) = x - d := wrap_in h1.1 (by omega)
  have hw2 : IntKind.i64.wrap (y + d) = y + d := wrap_in h2.1 (by omega)
  have hw3 : IntKind.i64.wrap (eu - d) = eu - d := wrap_in h3.1 (by omega)
  have hw4 : IntKind.i64.wrap (ev + d) = ev + d := wrap_in h4.1 (by omega)
  clear h1 h2 h3 h4
  refine (callsIn_wide (n := 3)).1 ?_
  refine callsIn_of_wp Try.func38 rfl trivial ?_ rfl
  simp only [Try.ntmps38, List.size_toArray, List.length_cons, List.length_nil, Nat.reduceAdd, Nat.reduceSub, Array.replicate_succ, Array.replicate_zero, List.push_toArray, List.append_toArray, List.nil_append, List.cons_append]
  have hgl := hbox.lt
  have n5 : gX ≠ w.heap.size := by omega
  have n6 : gE ≠ w.heap.size := by omega
  have n7 : gX ≠ bR := by omega
  have n8 : gX ≠ bH := by omega
  have n9 : gE ≠ bR := by omega
  have n10 : gE ≠ bH := by omega
  obtain ⟨m0, m1, m2, m3, m4, m5, m6, m7, m8, m9, m10, m11, m12⟩ := hbox.at13
  have zR : bR < w.heap.size := by omega
  have zH : bH < w.heap.size := by omega
  clear hbox
  gi_wp2
  refine wpIn_region_split 13 rfl rfl (by kernel_rfl) (by kernel_rfl) (by kernel_rfl) ?_
  simp only [List.take_succ_cons, List.take_zero, List.drop_succ_cons, List.drop_zero]
  repeat (gi_big_quiet_step (fail))
  refine wpQuietIn_nil ?_
  rintro _ ⟨nq, rfl⟩
  gi_wp2
  obtain ⟨w2, hw2'⟩ : ∃ w2, (((w.alloc (.cells #[.int .i64 who, .int .u8 1, .int .i64 (u : Int), .int .i64 (a : Int), .int .i64 d, .int .i64 h0, .int .i64 low] 39)).drewN nq).setCell ⟨gX, a, none⟩ (.int .i64 (x - d))) = w2 := ⟨_, rfl⟩
  have E1 : Blk (w.alloc (.cells #[.int .i64 who, .int .u8 1, .int .i64 (u : Int), .int .i64 (a : Int), .int .i64 d, .int .i64 h0, .int .i64 low] 39)) w.heap.size 39 #[.int .i64 who, .int .u8 1, .int .i64 (u : Int), .int .i64 (a : Int), .int .i64 d, .int .i64 h0, .int .i64 low] := Blk.new rfl
  have E2 : Blk w2 w.heap.size 39 #[.int .i64 who, .int .u8 1, .int .i64 (u : Int), .int .i64 (a : Int), .int .i64 d, .int .i64 h0, .int .i64 low] := by rw [← hw2']; exact (E1.drewN nq).far (p := ⟨gX, a, none⟩) (by simpa using fun e => n5 e.symm) _
  have M2 : Mch w2 g b N M s t ⟨AF, cF, some ⟨bH, oH, none⟩, cH, some ⟨bR, oR, none⟩, cR, AC, cC, AA, cA, AB, cB⟩ M N N ⟨some ⟨gX, 0, none⟩, cX, some ⟨gE, 0, none⟩, cE, some ⟨gH, 0, none⟩, cHH⟩ := by rw [← hw2']; exact ((HMM.out.alloc _).drew nq).set n1 n2 _
  have X2 := ((HXX.out.alloc (.cells #[.int .i64 who, .int .u8 1, .int .i64 (u : Int), .int .i64 (a : Int), .int .i64 d, .int .i64 h0, .int .i64 low] 39)).drew nq).putX a (x - d)
  rw [hw2'] at X2 ⊢
  have S2 : w2.heap.size = w.heap.size + 1 := by rw [← hw2']; simp
  have J2 : Kps (fun k _ => k ≠ gX ∧ k ≠ gE) w w2 := by rw [← hw2']; exact ((Kps.all (below_alloc _)).trans (kps_drew _ _)).trans (Kps.setCell fun _ _ h => h.1 rfl)
  have cr2 := J2.cell (p := ⟨bR, oR + a, none⟩) (fun _ _ => ⟨fun e => n7 e.symm, fun e => n9 e.symm⟩) cr
  have ch2 := J2.cell (p := ⟨bH, oH + a, none⟩) (fun _ _ => ⟨fun e => n8 e.symm, fun e => n10 e.symm⟩) ch
  clear hw2' E1 J2 m0 m1 m2 m3 m4 m5 m6 m7 m8 m9 m10 m11 m12 hcx hcy hcu hcv hfx hfy hfu hfv cr ch
  obtain ⟨hcy, hfy, hzx2, -⟩ := X2.cell (i := 0) (j := q) rfl hra (lvs_at (by simp; omega))
  rw [hOf_put (by omega), if_neg (fun e => hne e.symm), HY.out] at hcy
  obtain ⟨m0, m1, m2, m3, m4, m5, m6, m7, m8, m9, m10, m11, m12⟩ := M2.box.at13
  obtain ⟨e0, e1, e2, e3, e4, e5, e6⟩ := E2.at7
  have hgl2 := M2.box.lt; have hel2 := E2.lt
  have zR2 : bR < w2.heap.size := by omega
  have zH2 : bH < w2.heap.size := by omega
  have HM2 := Lib.hid M2; have HX2 := Lib.hid X2; have HE2 := Lib.hid E2; have HS2 := Lib.hid S2
  clear M2 X2 E2 S2 HMM HXX
  refine wpIn_region_split 20 rfl rfl (by kernel_rfl) (by kernel_rfl) (by kernel_rfl) ?_
  simp only [List.take_succ_cons, List.take_zero, List.drop_succ_cons, List.drop_zero]
  repeat (gi_big_quiet_step (fail))
  refine wpQuietIn_nil ?_
  rintro _ ⟨q2, rfl⟩
  gi_wp2
  obtain ⟨w3, hw3'⟩ : ∃ w3, (w2.drewN q2).setCell ⟨gX, q, none⟩ (.int .i64 (y + d)) = w3 := ⟨_, rfl⟩
  have E3 : Blk w3 w.heap.size 39 #[.int .i64 who, .int .u8 1, .int .i64 (u : Int), .int .i64 (a : Int), .int .i64 d, .int .i64 h0, .int .i64 low] := by rw [← hw3']; exact (HE2.out.drewN q2).far (p := ⟨gX, q, none⟩) (by simpa using fun e => n5 e.symm) _
  have M3 : Mch w3 g b N M s t ⟨AF, cF, some ⟨bH, oH, none⟩, cH, some ⟨bR, oR, none⟩, cR, AC, cC, AA, cA, AB, cB⟩ M N N ⟨some ⟨gX, 0, none⟩, cX, some ⟨gE, 0, none⟩, cE, some ⟨gH, 0, none⟩, cHH⟩ := by rw [← hw3']; exact (HM2.out.drew q2).set n1 n2 _
  have X3 := (HX2.out.drew q2).putX q (y + d)
  rw [hw3'] at X3 ⊢
  have S3 : w3.heap.size = w.heap.size + 1 := by rw [← hw3']; have := HS2.out; simpa using this
  have J3 : Kps (fun k _ => k ≠ gX ∧ k ≠ gE) w2 w3 := by rw [← hw3']; exact (kps_drew _ _).trans (Kps.setCell fun _ _ h => h.1 rfl)
  have cr3 := J3.cell (p := ⟨bR, oR + a, none⟩) (fun _ _ => ⟨fun e => n7 e.symm, fun e => n9 e.symm⟩) cr2
  have ch3 := J3.cell (p := ⟨bH, oH + a, none⟩) (fun _ _ => ⟨fun e => n8 e.symm, fun e => n10 e.symm⟩) ch2
  clear hw3' J3 m0 m1 m2 m3 m4 m5 m6 m7 m8 m9 m10 m11 m12 e0 e1 e2 e3 e4 e5 e6 cr2 ch2 hgl2 hel2 zR2 zH2 HM2 HX2 HE2
  clear hcy hfy
  obtain ⟨hcu, hfu, hzu3, -⟩ := X3.cell (i := 1) (j := u) rfl huN (lvs_at (by omega))
  rw [HEU.out] at hcu
  obtain ⟨m0, m1, m2, m3, m4, m5, m6, m7, m8, m9, m10, m11, m12⟩ := M3.box.at13
  obtain ⟨e0, e1, e2, e3, e4, e5, e6⟩ := E3.at7
  have hgl3 := M3.box.lt; have hel3 := E3.lt
  have zR3 : bR < w3.heap.size := by omega
  have zH3 : bH < w3.heap.size := by omega
  have HM3 := Lib.hid M3; have HX3 := Lib.hid X3; have HE3 := Lib.hid E3; have HS3 := Lib.hid S3
  clear M3 X3 E3 S3 HS2
  refine wpIn_region_split 13 rfl rfl (by kernel_rfl) (by kernel_rfl) (by kernel_rfl) ?_
  simp only [List.take_succ_cons, List.take_zero, List.drop_succ_cons, List.drop_zero]
  repeat (gi_big_quiet_step (fail))
  refine wpQuietIn_nil ?_
  rintro _ ⟨q3, rfl⟩
  gi_wp2
  obtain ⟨w4, hw4'⟩ : ∃ w4, (w3.drewN q3).setCell ⟨gE, u, none⟩ (.int .i64 (eu - d)) = w4 := ⟨_, rfl⟩
  have E4 : Blk w4 w.heap.size 39 #[.int .i64 who, .int .u8 1, .int .i64 (u : Int), .int .i64 (a : Int), .int .i64 d, .int .i64 h0, .int .i64 low] := by rw [← hw4']; exact (HE3.out.drewN q3).far (p := ⟨gE, u, none⟩) (by simpa using fun e => n6 e.symm) _
  have M4 : Mch w4 g b N M s t ⟨AF, cF, some ⟨bH, oH, none⟩, cH, some ⟨bR, oR, none⟩, cR, AC, cC, AA, cA, AB, cB⟩ M N N ⟨some ⟨gX, 0, none⟩, cX, some ⟨gE, 0, none⟩, cE, some ⟨gH, 0, none⟩, cHH⟩ := by rw [← hw4']; exact (HM3.out.drew q3).set n3 n4 _
  have X4 := (HX3.out.drew q3).putE u (eu - d)
  rw [hw4'] at X4 ⊢
  have S4 : w4.heap.size = w.heap.size + 1 := by rw [← hw4']; have := HS3.out; simpa using this
  have J4 : Kps (fun k _ => k ≠ gX ∧ k ≠ gE) w3 w4 := by rw [← hw4']; exact (kps_drew _ _).trans (Kps.setCell fun _ _ h => h.2 rfl)
  have cr4 := J4.cell (p := ⟨bR, oR + a, none⟩) (fun _ _ => ⟨fun e => n7 e.symm, fun e => n9 e.symm⟩) cr3
  have ch4 := J4.cell (p := ⟨bH, oH + a, none⟩) (fun _ _ => ⟨fun e => n8 e.symm, fun e => n10 e.symm⟩) ch3
  clear hw4' J4 m0 m1 m2 m3 m4 m5 m6 m7 m8 m9 m10 m11 m12 e0 e1 e2 e3 e4 e5 e6 cr3 ch3 hgl3 hel3 zR3 zH3 HM3 HX3 HE3
  clear hcu hfu
  obtain ⟨hcv, hfv, hzv4, -⟩ := X4.cell (i := 1) (j := v) rfl hvN (lvs_at (by simp; omega))
  rw [hOf_put (by omega), if_neg huv, HEV.out] at hcv
  obtain ⟨m0, m1, m2, m3, m4, m5, m6, m7, m8, m9, m10, m11, m12⟩ := M4.box.at13
  obtain ⟨e0, e1, e2, e3, e4, e5, e6⟩ := E4.at7
  have hgl4 := M4.box.lt; have hel4 := E4.lt
  have zR4 : bR < w4.heap.size := by omega
  have zH4 : bH < w4.heap.size := by omega
  have HM4 := Lib.hid M4; have HX4 := Lib.hid X4; have HE4 := Lib.hid E4; have HS4 := Lib.hid S4
  clear M4 X4 E4 S4 HS3
  refine wpIn_region_split 20 rfl rfl (by kernel_rfl) (by kernel_rfl) (by kernel_rfl) ?_
  simp only [List.take_succ_cons, List.take_zero, List.drop_succ_cons, List.drop_zero]
  repeat (gi_big_quiet_step (fail))
  refine wpQuietIn_nil ?_
  rintro _ ⟨q4, rfl⟩
  gi_wp2
  go_end0
  exact ⟨⟨_, rfl⟩, (HM4.out.drew q4).set n3 n4 _, (HX4.out.drew q4).putE v (ev + d), by have := HS4.out; simp; omega⟩
end

/-- A move done. -/
theorem apply_is (g b N M s t base : Nat) (K : CsrS) (Q : PreS) (fst hd rv ai : Nat → Nat) (cp : Nat → Int) (bk : Nat → Bool) (X E H : List Int) (e : EvS) (w0 w : World) (hG : PNet N M s t fst hd rv ai cp bk) (hI : GridIn w base N M K fst hd rv)
    (hM : Mch w g b N M s t K M N N Q) (hx : Hx w0 w base (pstR M N N Q X E H)) (hS : SndIs N M s t hd rv cp X E H) (hl : legI N s t fst X E H e = 0) :
    Calls Try.prog 38 #[.pointer (some ⟨g, 0, none⟩), evW e] w fun e' w' => (∃ v, e' = .returned v) ∧ Mch w' g b N M s t K M N N Q ∧
      Hx w0 w' base (pstR M N N Q (movX rv X e) (movE hd rv E e) (movH H e)) ∧ w.heap.size ≤ w'.heap.size := by
  have hn := hG.n2
  obtain ⟨gE, hgE⟩ := own_some (hx.held.own 1 _ rfl) (show 0 < N by omega)
  obtain ⟨gH, hgH⟩ := own_some (hx.held.own 2 _ rfl) (show 0 < N by omega)
  have hX0 : 0 < M → ∃ gX, Q.AX = some ⟨gX, 0, none⟩ := fun h => own_some (hx.held.own 0 _ rfl) h
  obtain ⟨AX, cX, AE, cE, AH, cH⟩ := Q
  dsimp only at hgE hgH hX0
  subst hgE; subst hgH
  rcases legI_what hl with hw | hw
  · obtain ⟨hv, hr, hp⟩ := legI_push hl hw
    obtain ⟨u, a, hu, ha, h1, h2, h3, h4, h5, h6, h7⟩ := push_lies hG hv hr
    obtain ⟨gX, hgX⟩ := hX0 (by omega)
    subst hgX
    obtain ⟨p1, p2, p3, p4, p5⟩ := hp
    rw [hu] at p2
    rw [ha] at p3
    simp only [Int.toNat_natCast] at p2 p3
    have hfit := move_fit hG hS.bal hS.le hS.exc h4 (d := e.d) (by omega) p3
    have := applyPush_is g b N M s t u a gX cX gE cE gH cH base K fst hd rv ai cp bk X E H e w0 w hG hI hM hx hS.bal.1 hS.le hw hu ha h4 h7 hfit.1 hfit.2.1 hfit.2.2.1 hfit.2.2.2
    unfold movX movE movH
    rw [if_neg (by omega), if_neg (by omega), if_neg (by omega), ha]
    exact this
  · obtain ⟨hv, hp⟩ := legI_lift hl hw
    obtain ⟨⟨h1, h2⟩, h3, h4⟩ := hv
    obtain ⟨u, hu⟩ : ∃ u : Nat, e.u = u := ⟨e.u.toNat, by omega⟩
    have := applyLift_is g b N M s t u cX cE gH cH base AX (some ⟨gE, 0, none⟩) K X E H e w0 w hM hx hS.lh hw hu (by omega)
    unfold movX movE movH
    rw [if_pos hw, if_pos hw, if_pos hw, hu]
    exact this
end Go.Proofs.Ytanifbofjecpmaa
