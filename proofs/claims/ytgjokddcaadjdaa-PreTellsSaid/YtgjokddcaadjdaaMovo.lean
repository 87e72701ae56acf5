/- Layer 7: move. -/
import Derived.Test.YtgjokddcaadjdaaCopo
namespace Go.Proofs.Ytgjokddcaadjdaa
open Go.RowKit Go.Shelf
set_option maxRecDepth 100000
attribute [local go_sem] Oper.semAt_some

theorem lvs_at {L : List Int} {i : Nat} (h : i < L.length) : (lvs L)[i]? = some (.int .i64 (hOf L i)) := by
  simp only [List.getElem?_map, hOf_get rfl h, Option.map_some]
theorem lvs_set (L : List Int) (i : Nat) (x : Int) : lvs (L.set i x) = (lvs L).set i (.int .i64 x) := by simp [List.map_set]
section
variable {w0 w : World} {base nX nE nH gX cX gE cE cH : Nat} {AH : Option Addr} {X E H : List Int}
theorem Hx.putX (h : Hx w0 w base (pstR nX nE nH ⟨some ⟨gX, 0, none⟩, cX, some ⟨gE, 0, none⟩, cE, AH, cH⟩ X E H)) (i : Nat) (x : Int) : Hx w0 (w.setCell ⟨gX, i, none⟩ (.int .i64 x)) base (pstR nX nE nH ⟨some ⟨gX, 0, none⟩, cX, some ⟨gE, 0, none⟩, cE, AH, cH⟩ (X.set i x) E H) := by
  have := h.put (i := 0) rfl i (.int .i64 x)
  unfold pstR
  rw [lvs_set]
  exact this
theorem Hx.putE (h : Hx w0 w base (pstR nX nE nH ⟨some ⟨gX, 0, none⟩, cX, some ⟨gE, 0, none⟩, cE, AH, cH⟩ X E H)) (i : Nat) (x : Int) : Hx w0 (w.setCell ⟨gE, i, none⟩ (.int .i64 x)) base (pstR nX nE nH ⟨some ⟨gX, 0, none⟩, cX, some ⟨gE, 0, none⟩, cE, AH, cH⟩ X (E.set i x) H) := by
  have := h.put (i := 1) rfl i (.int .i64 x)
  unfold pstR
  rw [lvs_set]
  exact this
end

set_option maxHeartbeats 8000000 in
theorem move_is (N M s t nH a gX cX gE cE cHH base : Nat) (AHH : Option Addr) (K : CsrS) (fst hd rv ai : Nat → Nat) (cp : Nat → Int) (bk : Nat → Bool) (X E H : List Int) (d : Int) (w0 w : World) (hG : PNet N M s t fst hd rv ai cp bk) (hI : PIn w base N M K fst hd rv ai cp bk)
    (hx : Hx w0 w base (pstR M N nH ⟨some ⟨gX, 0, none⟩, cX, some ⟨gE, 0, none⟩, cE, AHH, cHH⟩ X E H)) (hXl : X.length = M) (hEl : E.length = N) (ha : a < M)
    (h1 : InR (hOf X a - d)) (h2 : InR (hOf X (rv a) + d)) (h3 : InR (hOf E (hd (rv a)) - d)) (h4 : InR (hOf E (hd a) + d)) :
    Calls Try.prog 46 #[csrW N M s t K, preW M N nH ⟨some ⟨gX, 0, none⟩, cX, some ⟨gE, 0, none⟩, cE, AHH, cHH⟩, .int .i64 (a : Int), .int .i64 d] w fun e w' => (∃ v, e = .returned v) ∧
      Hx w0 w' base (pstR M N nH ⟨some ⟨gX, 0, none⟩, cX, some ⟨gE, 0, none⟩, cE, AHH, cHH⟩ (mvX rv X a d) (mvE hd rv E a d) H) ∧ KeepsOthers w w' ∧ Kps (fun k _ => k ≠ gX ∧ k ≠ gE) w w' := by
  have hM := hG.nM; have hN := hG.nN
  have hra := hG.g.rvl a ha
  have hne := hG.rne ha
  have hu := hG.mN ha
  have hv := hG.g.hdl a ha
  have huv := hG.nol a ha
  have hgg : gX ≠ gE := fun e => hx.held.ne 0 1 _ _ (by omega) rfl rfl gX rfl (by rw [e]; rfl)
  obtain ⟨hcx, hfx, hzx, hbx⟩ := hx.cell (i := 0) (j := a) rfl ha (lvs_at (by omega))
  obtain ⟨hcy, hfy, -, -⟩ := hx.cell (i := 0) (j := rv a) rfl hra (lvs_at (by omega))
  obtain ⟨hcu, hfu, hze, hbe⟩ := hx.cell (i := 1) (j := hd (rv a)) rfl hu (lvs_at (by omega))
  obtain ⟨hcv, hfv, -, -⟩ := hx.cell (i := 1) (j := hd a) rfl hv (lvs_at (by omega))
  have hbw := hx.bas
  have HXX := Lib.hid hx
  obtain ⟨bR, oR, hR⟩ := hI.gi.iR.adr (by omega)
  obtain ⟨bH, oH, hH⟩ := hI.gi.iH.adr (by omega)
  obtain ⟨hbR, cr⟩ := tab_cell (hR ▸ hI.gi.iR) ha
  obtain ⟨hbH, ch1⟩ := tab_cell (hH ▸ hI.gi.iH) hra
  obtain ⟨-, ch2⟩ := tab_cell (hH ▸ hI.gi.iH) ha
  obtain ⟨AF, cF, AH, cH, AR, cR, AC, cC, AA, cA, AB, cB⟩ := K
  dsimp only [csrW, preW] at hR hH ⊢
  subst hR; subst hH
  unfold mvX mvE
  unfold InR at h1 h2 h3 h4
  obtain ⟨q, hq⟩ : ∃ q, rv a = q := ⟨_, rfl⟩
  obtain ⟨u, hu'⟩ : ∃ u, hd (rv a) = u := ⟨_, rfl⟩
  obtain ⟨v, hv'⟩ : ∃ v, hd a = v := ⟨_, rfl⟩
  obtain ⟨x, hx'⟩ : ∃ x, hOf X a = x := ⟨_, rfl⟩
  obtain ⟨y, hy'⟩ : ∃ y, hOf X (rv a) = y := ⟨_, rfl⟩
  obtain ⟨eu, heu⟩ : ∃ y, hOf E (hd (rv a)) = y := ⟨_, rfl⟩
  obtain ⟨ev, hev⟩ : ∃ y, hOf E (hd a) = y := ⟨_, rfl⟩
  rw [hx'] at h1 hcx ⊢
  rw [hy'] at h2 hcy ⊢
  rw [heu] at h3 hcu ⊢
  rw [hev] at h4 hcv ⊢
  rw [hu'] at hcu hfu hu ch1 huv ⊢
  rw [hv'] at hcv hfv hv ch2 huv ⊢
  rw [hq] at hcy hfy hra cr ch1 hne ⊢
  have HEU := Lib.hid (show hOf E u = eu by rw [← hu']; exact heu); have HEV := Lib.hid (show hOf E v = ev by rw [← hv']; exact hev)
  clear hx' hy' heu hev hu' hv' hq hx hG hI
  have hw1 : IntKind.i64.wrap (x - d) = x - d := wrap_in h1.1 (by omega)
  have hw2 : IntKind.i64.wrap (y + d) = y + d := wrap_in h2.1 (by omega)
  have hw3 : IntKind.i64.wrap (eu - d) = eu - d := wrap_in h3.1 (by omega)
  have hw4 : IntKind.i64.wrap (ev + d) = ev + d := wrap_in h4.1 (by omega)
  clear h1 h2 h3 h4
  refine (callsIn_wide (n := 3)).1 ?_
  refine callsIn_of_wp Try.func46 rfl trivial ?_ rfl
  simp only [Try.ntmps46, List.size_toArray, List.length_cons, List.length_nil, Nat.reduceAdd, Nat.reduceSub, Array.replicate_succ, Array.replicate_zero, List.push_toArray, List.append_toArray, List.nil_append, List.cons_append]
  have n1 : gX ≠ w.heap.size := by omega
  have n2 : gX ≠ w.heap.size + 1 := by omega
  have n3 : gE ≠ w.heap.size := by omega
  have n4 : gE ≠ w.heap.size + 1 := by omega
  have n5 : gX ≠ bR := by omega
  have n6 : gX ≠ bH := by omega
  have n7 : gE ≠ bR := by omega
  have n8 : gE ≠ bH := by omega
  have zR : bR < w.heap.size := by omega
  have zH : bH < w.heap.size := by omega
  gi_wp2
  obtain ⟨w1, hw1'⟩ : ∃ w1, ((((w.setCell ⟨gX, a, none⟩ (.int .i64 (x - d))).setCell ⟨gX, q, none⟩ (.int .i64 (y + d))).alloc (.cells #[.int .i64 (N : Int), .int .i64 (s : Int), .int .i64 (t : Int), .slice AF (N + 1) cF, .slice (some ⟨bH, oH, none⟩) M cH, .slice (some ⟨bR, oR, none⟩) M cR, .slice AC M cC, .slice AA M cA, .slice AB M cB] 32)).alloc (.cells #[.slice (some ⟨gX, 0, none⟩) M cX, .slice (some ⟨gE, 0, none⟩) N cE, .slice AHH nH cHH] 29)) = w1 := ⟨_, rfl⟩
  have HX1 := (((HXX.out.putX a (x - d)).putX q (y + d)).alloc (.cells #[.int .i64 (N : Int), .int .i64 (s : Int), .int .i64 (t : Int), .slice AF (N + 1) cF, .slice (some ⟨bH, oH, none⟩) M cH, .slice (some ⟨bR, oR, none⟩) M cR, .slice AC M cC, .slice AA M cA, .slice AB M cB] 32)).alloc (.cells #[.slice (some ⟨gX, 0, none⟩) M cX, .slice (some ⟨gE, 0, none⟩) N cE, .slice AHH nH cHH] 29)
  have O1 : KeepsOthers w w1 := by rw [← hw1']; exact (((KeepsOthers.setCell _ _ _).trans (KeepsOthers.setCell _ _ _)).trans (KeepsOthers.alloc _ _)).trans (KeepsOthers.alloc _ _)
  have J1 : Kps (fun k _ => k ≠ gX ∧ k ≠ gE) w w1 := by rw [← hw1']; exact (((Kps.setCell fun _ _ h => h.1 rfl).trans (Kps.setCell fun _ _ h => h.1 rfl)).trans (Kps.all (below_alloc _))).trans (Kps.all (below_alloc _))
  have S1 : w1.heap.size = w.heap.size + 2 := by rw [← hw1']; simp
  have C1 : Blk w1 w.heap.size 32 #[.int .i64 (N : Int), .int .i64 (s : Int), .int .i64 (t : Int), .slice AF (N + 1) cF, .slice (some ⟨bH, oH, none⟩) M cH, .slice (some ⟨bR, oR, none⟩) M cR, .slice AC M cC, .slice AA M cA, .slice AB M cB] := by rw [← hw1']; exact (Blk.new (by simp)).alloc _
  have P1 : Blk w1 (w.heap.size + 1) 29 #[.slice (some ⟨gX, 0, none⟩) M cX, .slice (some ⟨gE, 0, none⟩) N cE, .slice AHH nH cHH] := by rw [← hw1']; exact Blk.new (by simp)
  rw [hw1'] at HX1 ⊢
  clear hw1'
  have ch1' := J1.cell (p := ⟨bH, oH + q, none⟩) (fun _ _ => ⟨fun e => n6 e.symm, fun e => n8 e.symm⟩) ch1
  have ch2' := J1.cell (p := ⟨bH, oH + a, none⟩) (fun _ _ => ⟨fun e => n6 e.symm, fun e => n8 e.symm⟩) ch2
  obtain ⟨hcu', hfu', hze', -⟩ := HX1.cell (i := 1) (j := u) rfl hu (lvs_at (by omega))
  obtain ⟨a0, a1, a2, a3, a4, a5, a6, a7, a8⟩ := C1.at9
  have p0 := P1.cell 0; have p1 := P1.cell 1; have p2 := P1.cell 2
  simp only [List.getElem?_toArray, List.getElem?_cons_zero, List.getElem?_cons_succ] at p0 p1 p2
  rw [HEU.out] at hcu'
  have hz1 := C1.lt; have hz2 := P1.lt
  clear hcx hcy hcu hcv hfx hfy hfu hfv ch1 ch2 cr
  have HX2 := Lib.hid HX1; have HC1 := Lib.hid C1; have HP1 := Lib.hid P1; have HO1 := Lib.hid O1; have HJ1 := Lib.hid J1
  clear HX1 C1 P1 O1 J1 HXX
  refine wpIn_region_split 12 rfl rfl (by kernel_rfl) (by kernel_rfl) (by kernel_rfl) ?_
  simp only [List.take_succ_cons, List.take_zero, List.drop_succ_cons, List.drop_zero]
  repeat (gi_big_quiet_step (fail))
  refine wpQuietIn_nil ?_
  rintro _ ⟨nq, rfl⟩
  gi_wp2
  obtain ⟨w2, hw2'⟩ : ∃ w2, (w1.drewN nq).setCell ⟨gE, u, none⟩ (.int .i64 (eu - d)) = w2 := ⟨_, rfl⟩
  have HX3 := (HX2.out.drew nq).putE u (eu - d)
  have C2 := (HC1.out.drewN nq).far (p := ⟨gE, u, none⟩) (by simpa using fun e => n3 e.symm) (.int .i64 (eu - d))
  have P2 := (HP1.out.drewN nq).far (p := ⟨gE, u, none⟩) (by simpa using fun e => n4 e.symm) (.int .i64 (eu - d))
  have O2 : KeepsOthers w1 w2 := by rw [← hw2']; exact (others_drew _ _).trans (KeepsOthers.setCell _ _ _)
  have J2 : Kps (fun k _ => k ≠ gX ∧ k ≠ gE) w1 w2 := by rw [← hw2']; exact (kps_drew _ _).trans (Kps.setCell fun _ _ h => h.2 rfl)
  rw [hw2'] at HX3 C2 P2 ⊢
  clear hw2'
  have ch2 := J2.cell (p := ⟨bH, oH + a, none⟩) (fun _ _ => ⟨fun e => n6 e.symm, fun e => n8 e.symm⟩) ch2'
  obtain ⟨hcv, hfv, hzv, -⟩ := HX3.cell (i := 1) (j := v) rfl hv (lvs_at (by simp; omega))
  rw [hOf_put (by omega), if_neg huv, HEV.out] at hcv
  clear a0 a1 a2 a3 a4 a5 a6 a7 a8 p0 p1 p2 hcu' hfu' ch1' ch2' hz1 hz2 hze'
  obtain ⟨a0, a1, a2, a3, a4, a5, a6, a7, a8⟩ := C2.at9
  have p0 := P2.cell 0; have p1 := P2.cell 1; have p2 := P2.cell 2
  simp only [List.getElem?_toArray, List.getElem?_cons_zero, List.getElem?_cons_succ] at p0 p1 p2
  have hz1 := C2.lt; have hz2 := P2.lt
  have HX4 := Lib.hid HX3; have HO2 := Lib.hid O2; have HJ2 := Lib.hid J2
  clear HX3 C2 P2 O2 J2 HX2 HC1 HP1
  refine wpIn_region_split 12 rfl rfl (by kernel_rfl) (by kernel_rfl) (by kernel_rfl) ?_
  simp only [List.take_succ_cons, List.take_zero, List.drop_succ_cons, List.drop_zero]
  repeat (gi_big_quiet_step (fail))
  refine wpQuietIn_nil ?_
  rintro _ ⟨n2, rfl⟩
  gi_wp2
  go_end0
  exact ⟨⟨_, rfl⟩, (HX4.out.drew n2).putE v (ev + d), (HO1.out.trans HO2.out).trans ((others_drew _ _).trans (KeepsOthers.setCell _ _ _)), (HJ1.out.trans HJ2.out).trans ((kps_drew _ _).trans (Kps.setCell fun _ _ h => h.2 rfl))⟩

end Go.Proofs.Ytgjokddcaadjdaa
