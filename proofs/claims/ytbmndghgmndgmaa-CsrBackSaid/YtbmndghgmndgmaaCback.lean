/- CsrBack: the walk. -/
import Derived.Test.YtbmndghgmndgmaaBackp
namespace Go.Proofs.Ytbmndghgmndgmaa
open Go.RowKit

set_option maxRecDepth 100000 in
set_option maxHeartbeats 8000000 in
theorem backc_walk (N S T : Int) (A : Option Addr) (n c : Nat) (l : List ArcN) (AL : Option Addr) (nl cl : Nat) (L : List Int) (t : Nat) (z : Int) (w : World) (hA : Arcs w w.heap.size A n l) (hf : FitsAll l) (hnc : n ≤ c) (hL : Ints w w.heap.size AL nl L) (hLR : ∀ x ∈ L, InR x) (ht : t ≤ 255) :
    Calls Try.prog 5 #[.agg #[.int .i64 N, .int .i64 S, .int .i64 T, .slice A n c], .slice AL nl cl, .int .u8 t, .int .i64 z] w fun e w' => e = .returned (.bool true) ∧ Below w.heap.size w w' := by
  have hso := fun W hW => some_any N S T A n c 40 80 l W hW hf hnc (by omega) (by omega) (by omega)
  obtain ⟨N1, hN1, hN2, hN3, hck, hln, hmem⟩ := some_net N S T 40 80 l (by omega) (by omega) (by omega)
  rw [hN1] at hso hck hln hmem
  generalize S % (N1 : Int) = S1 at *
  generalize someT (N1 : Int) S T = T1 at *
  generalize someL (N1 : Int) 80 l = l1 at *
  obtain ⟨-, -, hE⟩ := ends_of_check hck
  have hM := csr_size (N := N1) (l := l1) (by omega) (by omega)
  obtain ⟨M, hMe⟩ : ∃ M, firstOf l1 N1 = M := ⟨_, rfl⟩
  rw [hMe] at hM
  have HSO := Lib.hid hso; have HCK := Lib.hid hck; have HMEM := Lib.hid hmem
  clear hso hck hmem hN1
  go_enter Try.func5, Try.ntmps5
  go_wp2_with fail
  refine (HSO.out _ (hA.onAlloc _)).mono ?_
  rintro e w1 ⟨A1, n1, c1, rfl, o1, hl1, B1⟩
  have K1 : Blk w1 w.heap.size 24 #[.int .i64 N, .int .i64 S, .int .i64 T, .slice A n c] := (Blk.new rfl).below B1 (by simp)
  have hz1 := K1.lt
  obtain ⟨r0, r1, r2, r3⟩ := K1.at4
  obtain ⟨f0, f1, f2, f3⟩ := K1.free4
  have ST := some_stored K1 o1 hl1 (below_step (below_alloc _) B1) (.int .i64 (N1 : Int)) (.int .i64 S1) (.int .i64 T1)
  have hn1 : n1 ≤ 80 := by omega
  go_wp2_with fail
  generalize (((w1.setCell ⟨w.heap.size, 0, none⟩ (.int .i64 (N1 : Int))).setCell ⟨w.heap.size, 1, none⟩ (.int .i64 S1)).setCell ⟨w.heap.size, 2, none⟩ (.int .i64 T1)).setCell ⟨w.heap.size, 3, none⟩ (.slice A1 n1 c1) = w2 at *
  obtain ⟨K2, a2, Bw2⟩ := ST
  clear r0 r1 r2 r3 f0 f1 f2 f3 K1 o1 B1 hz1 HSO
  have hz2 := K2.lt
  refine (withinL_any N1 S1 T1 A1 n1 c1 l1 AL nl cl L _ a2 (by omega) (fun a ha => by have := HMEM.out a ha; omega) ((hL.below Bw2).more Bw2.size) hLR).mono ?_
  rintro e w3 ⟨gX, X, rfl, hgX, X3, WX, B3⟩
  have K3 := K2.below B3 K2.lt
  have HA2 := Lib.hid a2
  have hgX3 := X3.lt
  have a3 := a2.on B3
  have Bw3 := below_step Bw2 B3
  clear K2 a2 Bw2 B3
  obtain ⟨r0, r1, r2, r3⟩ := K3.at4
  go_wp2_with fail
  refine (make_good N1 S1 T1 A1 n1 c1 l1 _ a3 HCK.out).mono ?_
  rintro e w4 ⟨gF, gH, gR, gC, gA, gB, rfl, hg, C4, B4⟩
  rw [hMe]
  have hlt4 := C4.lt
  have hwz := B4.size
  have K4 := K3.below B4 K3.lt
  have a4 := a3.on B4
  have X4 := X3.below B4 X3.lt
  have Bw4 := below_step Bw3 B4
  have hz4 := B4.size
  clear r0 r1 r2 r3 K3 a3 X3 Bw3 B4
  have hXl : X.length = n1 := WX.len.trans hl1
  have hXl' : X.length = l1.length := WX.len
  have hok : okB l1 X = true := okB_iff.2 fun i a x ha hx => by
    have := WX.ent i a x (by have := (List.getElem?_eq_some_iff.1 ha).1; omega) ha hx
    exact .inr ⟨this.1, this.2.1⟩
  have hcap : ∀ a ∈ l1, a.cap ≤ 4611686018427387904 := fun a ha => by have := HMEM.out a ha; omega
  have hcap2 : ∀ a ∈ l1, 0 ≤ a.cap ∧ a.cap ≤ 4611686018427387904 := fun a ha => by have := HMEM.out a ha; omega
  have hloop : ∀ (i : Nat) (a : ArcN) (x : Int), l1[i]? = some a → X[i]? = some x → a.frm = a.to → x = 0 := fun i a x ha hx => (WX.ent i a x (by have := (List.getElem?_eq_some_iff.1 ha).1; omega) ha hx).2.2
  have HOK := Lib.hid hok; have HLOOP := Lib.hid hloop
  clear hok hloop
  go_wp2_with fail
  have KC4 : Blk (w4.alloc (.cells #[.int .i64 (N1 : Int), .int .i64 S1, .int .i64 T1, .slice (some ⟨gF, 0, none⟩) (N1 + 1) (N1 + 1), .slice (some ⟨gH, 0, none⟩) M M, .slice (some ⟨gR, 0, none⟩) M M, .slice (some ⟨gC, 0, none⟩) M M, .slice (some ⟨gA, 0, none⟩) M M, .slice (some ⟨gB, 0, none⟩) M M] 30)) w4.heap.size 30 #[.int .i64 (N1 : Int), .int .i64 S1, .int .i64 T1, .slice (some ⟨gF, 0, none⟩) (N1 + 1) (N1 + 1), .slice (some ⟨gH, 0, none⟩) M M, .slice (some ⟨gR, 0, none⟩) M M, .slice (some ⟨gC, 0, none⟩) M M, .slice (some ⟨gA, 0, none⟩) M M, .slice (some ⟨gB, 0, none⟩) M M] := Blk.new rfl
  have C4' := C4.onAlloc (.cells #[.int .i64 (N1 : Int), .int .i64 S1, .int .i64 T1, .slice (some ⟨gF, 0, none⟩) (N1 + 1) (N1 + 1), .slice (some ⟨gH, 0, none⟩) M M, .slice (some ⟨gR, 0, none⟩) M M, .slice (some ⟨gC, 0, none⟩) M M, .slice (some ⟨gA, 0, none⟩) M M, .slice (some ⟨gB, 0, none⟩) M M] 30)
  refine (res_good N1 M S1 T1 gF gH gR gC gA gB l1 _ n1 _ X _ C4' hE hMe hM ((X4.ints hXl).onAlloc _) hl1 HOK.out hcap).mono ?_
  rintro e w5 ⟨gr, Xr, rfl, hgr, Y5, hYl, R5, B5⟩
  have C5 := C4'.on B5
  have KC5 := KC4.below B5 KC4.lt
  have K5 := (K4.alloc _).below B5 (K4.alloc _).lt
  have a5 := (a4.onAlloc _).on B5
  have X5 := (X4.alloc _).below B5 (X4.alloc _).lt
  have Bw5 := below_step (Bw4.alloc Bw4.size _) B5
  have hgrX : gr ≠ gX := by have := X4.lt; simp at hgr; omega
  have hbal := res_balanced R5 hMe hXl' HOK.out
  have hbnd := res_bound R5 hMe hXl' HOK.out (fun a ha => (HMEM.out a ha).2.2.2.2.2)
  clear C4 C4' KC4 K4 a4 X4 Bw4 B5
  obtain ⟨a0, a1, a2, a3, a4, a5', a6, a7, a8⟩ := KC5.at9
  go_wp2_with fail
  refine (len_any _ _ _ _ _ _ _ _ _ _ _).mono ?_
  rintro e w6 ⟨rfl, B6⟩
  have C6 := C5.on B6
  have KC6 := KC5.below B6 KC5.lt
  have K6 := K5.below B6 K5.lt
  have a6' := a5.on B6
  have X6 := X5.below B6 X5.lt
  have Y6 := Y5.below B6 Y5.lt
  have Bw6 := below_step Bw5 B6
  clear a0 a1 a2 a3 a4 a5' a6 a7 a8 C5 KC5 K5 a5 X5 Y5 Bw5 B6
  obtain ⟨a0, a1, a2, a3, a4, a5', a6, a7, a8⟩ := KC6.at9
  obtain ⟨y0, y1, y2, y3⟩ := K6.at4
  have HBAL := Lib.hid hbal; have HBND := Lib.hid hbnd; have HR5 := Lib.hid R5; clear hbal hbnd R5
  go_wp2_with fail
  go_loopw [14, 15, 54] (fun _ _ i wr => ∃ k nd : Nat, k ≤ M ∧ i = .int .i64 k ∧ wr = w6.drewN nd) (fun _ _ i _ => M - (intOf i).toNat)
  case atStart => exact ⟨0, 0, Nat.zero_le _, rfl, rfl⟩
  case round =>
    obtain ⟨k, nd, hk, rfl, rfl⟩ := hrel
    by_cases hlt : k < M
    · obtain ⟨i, q, v, u, b, c, hI, hpos, hqos, hq, e1, e2, e3, e4, e5⟩ := C6.at hE (show k < firstOf l1 N1 by omega)
      obtain ⟨x, hx⟩ : ∃ x, Xr[k]? = some x := ⟨_, List.getElem?_eq_getElem (by omega)⟩
      obtain ⟨y, hy⟩ : ∃ y, Xr[q]? = some y := ⟨_, List.getElem?_eq_getElem (by omega)⟩
      obtain ⟨ba, off, ar, rfl, hba, hla, z0, z1, z2⟩ := arcs_at a6' (k := i) (by have := hI.lt; omega)
      have hin : (i : Int) < (n1 : Int) := by have := hI.lt; omega
      have x1 := Y6.iat hx
      have x2 := Y6.iat hy
      have hqM : q < M := by omega
      have hx0 := HBAL.out.1 k x hx
      have hg0 : decide (x < 0) = false := by simpa using hx0
      have hxb := HBND.out x (mem_at hx)
      have hcp := HMEM.out ar (mem_at hla)
      have hyc : y = ar.cap - x := by
        obtain ⟨c', hI'⟩ := hI.flip
        have hcc : capAt l1 i = ar.cap := by unfold capAt; rw [hla]
        cases b with
        | false =>
          have h1 := HBAL.out.2 _ _ _ _ _ _ hI (by rw [hpos]; exact hx) (by rw [hqos]; exact hy)
          have h2 := capAt_fwd hI
          omega
        | true =>
          have h1 := HBAL.out.2 _ _ _ _ _ _ hI' (by rw [hqos]; exact hy) (by rw [hpos]; exact hx)
          have h2 := capAt_fwd hI'
          omega
      have hyc' : (y != ar.cap - x) = false := by simpa using hyc
      clear e1 e3 e5 hx hy hI hpos hqos hla hyc
      go_wp2_with fail
      go_quiet (fail)
      go_wp2_with fail
      go_roundw
      case rel => exact ⟨k + 1, nd + nq, by omega, by go_num, rfl⟩
      case measure => simp [intOf]; omega
    · have hM0 : (M : Int) = 0 ∨ 0 < M := by omega
      have Cd : CsrAt (w6.drewN nd) (w6.drewN nd).heap.size N1 l1 gF gH gR gC gA gB := C6.on (below_drewN' (Below.refl _ _) _)
      have Yd : Blk (w6.drewN nd) gr 2 (ivs Xr) := Y6.drewN _
      have Xd : Blk (w6.drewN nd) gX 2 (ivs X) := X6.drewN _
      have Kd : Blk (w6.drewN nd) w.heap.size 24 #[.int .i64 (N1 : Int), .int .i64 S1, .int .i64 T1, .slice A1 n1 c1] := K6.drewN _
      have KCd : Blk (w6.drewN nd) w4.heap.size 30 #[.int .i64 (N1 : Int), .int .i64 S1, .int .i64 T1, .slice (some ⟨gF, 0, none⟩) (N1 + 1) (N1 + 1), .slice (some ⟨gH, 0, none⟩) M M, .slice (some ⟨gR, 0, none⟩) M M, .slice (some ⟨gC, 0, none⟩) M M, .slice (some ⟨gA, 0, none⟩) M M, .slice (some ⟨gB, 0, none⟩) M M] := KC6.drewN _
      have ad : Arcs (w6.drewN nd) (w6.drewN nd).heap.size A1 n1 l1 := a6'.on (below_drewN' (Below.refl _ _) _)
      have Bd : Below w.heap.size w (w6.drewN nd) := below_drewN' Bw6 _
      clear C6 Y6 X6 K6 KC6 a6' Bw6 a0 a1 a2 a3 a4 a5' a6 a7 a8 y0 y1 y2 y3
      generalize w6.drewN nd = w7 at *
      obtain ⟨a0, a1, a2, a3, a4, a5', a6, a7, a8⟩ := KCd.at9
      go_wp2_with fail
      refine (flow_good N1 M S1 T1 gF gH gR gC gA gB l1 _ _ n1 Xr X _ Cd hE hMe hM (Yd.ints hYl) (fun x hx => by have := HBND.out x hx; omega) hcap2 hl1 (by omega) HBAL.out hXl HR5.out HLOOP.out).mono ?_
      rintro e w8 ⟨gb, Fb, rfl, hgb, Z8, hZl, hFb, B8⟩
      have hFb' := hFb.symm
      subst hFb'
      have C8 := Cd.on B8
      have Y8 := Yd.below B8 Yd.lt
      have X8 := Xd.below B8 Xd.lt
      have K8 := Kd.below B8 Kd.lt
      have KC8 := KCd.below B8 KCd.lt
      have a8' := ad.on B8
      have Bw8 := below_step Bd B8
      clear a0 a1 a2 a3 a4 a5' a6 a7 a8 Cd Yd Xd Kd KCd ad Bd B8
      go_wp2_with fail
      refine (longs_is _ _ (Z8.ints hZl) (X8.ints hXl) (by omega) (by omega) (v := true) (by simp)).mono ?_
      rintro e w9 ⟨rfl, B9⟩
      have C9 := C8.on B9
      have Y9 := Y8.below B9 Y8.lt
      have X9 := X8.below B9 X8.lt
      have K9 := K8.below B9 K8.lt
      have KC9 := KC8.below B9 KC8.lt
      have a9' := a8'.on B9
      have Bw9 := below_step Bw8 B9
      clear C8 Y8 X8 K8 KC8 a8' Bw8 B9 Z8
      rcases hM0 with hM0 | hM0
      · go_wp2_with fail
        refine (awake2_any _).mono ?_
        rintro e w10 ⟨rfl, B10⟩
        go_wp2_with fail
        go_ret
        exact ⟨rfl, below_step Bw9 B10⟩
      · obtain ⟨p, hp⟩ : ∃ p, t % M = p := ⟨_, rfl⟩
        have hpM : p < M := by rw [← hp]; exact Nat.mod_lt _ hM0
        have ek : (t : Int) % (M : Int) = (p : Int) := by rw [← hp]; omega
        have ek2 : (t : Int).tmod (M : Int) = (p : Int) := by rw [Int.tmod_eq_emod_of_nonneg (by omega)]; exact ek
        have hM1 : ¬ (M : Int) = 0 := by omega
        have hM2 : ((M : Int) == 0) = false := by simpa using hM1
        obtain ⟨i, q, v, u, b, c', hI, hpos, hqos, hq, e1, e2, e3, e4, e5⟩ := C9.at hE (show p < firstOf l1 N1 by omega)
        have hil := hI.lt
        obtain ⟨x, hx⟩ : ∃ x, Xr[p]? = some x := ⟨_, List.getElem?_eq_getElem (by omega)⟩
        obtain ⟨y, hy⟩ : ∃ y, X[i]? = some y := ⟨_, List.getElem?_eq_getElem (by omega)⟩
        obtain ⟨ba, off, ar, rfl, hba, hla, z0, z1, z2⟩ := arcs_at a9' (k := i) (by omega)
        have hin : (i : Int) < (n1 : Int) := by omega
        have hne : ar.frm ≠ ar.to := by
          obtain ⟨hne, a', ha', hh⟩ := hI
          rw [hla] at ha'
          injection ha' with ha'
          subst ha'
          rcases hh with ⟨_, g1, g2, _⟩ | ⟨_, g1, g2, _⟩ <;> omega
        have hset := ok_set (z := z) HOK.out hla hne hXl'
        have c1 := X9.iat hy
        have fr1 := X9.frozen i
        have HPX := Lib.hid hx; have HSET := Lib.hid hset
        have hxb := HBND.out x (mem_at hx)
        have hx0 := HBAL.out.1 p x hx
        clear hx hy hset hI hpos hqos hp e1 e2 e3 e5
        obtain ⟨a0, a1, a2, a3, a4, a5', a6, a7, a8⟩ := KC9.at9
        obtain ⟨ba', off', hAA, hba2, -⟩ := HA2.out.2 (by omega)
        injection hAA with hAA
        injection hAA with hAA1 hAA2 _
        subst hAA1; subst hAA2
        simp at hgr
        have hXge : w.heap.size ≤ gX := by omega
        have hgrge : w.heap.size ≤ gr := by omega
        have nX4 : gX ≠ w4.heap.size := by omega
        have nXw : w.heap.size ≠ gX := by omega
        have nXba : gX ≠ ba := by omega
        have hgr4 : gr ≠ w4.heap.size := by omega
        have hgrw : w.heap.size ≠ gr := by omega
        have hgrba : gr ≠ ba := by omega
        have nXs : gX ≠ gF ∧ gX ≠ gH ∧ gX ≠ gR ∧ gX ≠ gC ∧ gX ≠ gA ∧ gX ≠ gB := by omega
        have ngr : gr ≠ gF ∧ gr ≠ gH ∧ gr ≠ gR ∧ gr ≠ gC ∧ gr ≠ gA ∧ gr ≠ gB := by omega
        go_wp2_with fail
        go_quiet (fail)
        go_wp2_with fail
        have C10 : CsrAt ((w9.drewN nq).setCell ⟨gX, i, none⟩ (.int .i64 z)) ((w9.drewN nq).setCell ⟨gX, i, none⟩ (.int .i64 z)).heap.size N1 l1 gF gH gR gC gA gB := ((C9.on (below_drewN' (Below.refl _ _) nq)).far (p := ⟨gX, i, none⟩) nXs (.int .i64 z)).more (by simp)
        have Y10 : Blk ((w9.drewN nq).setCell ⟨gX, i, none⟩ (.int .i64 z)) gr 2 (ivs Xr) := (Y9.drewN nq).far (p := ⟨gX, i, none⟩) hgrX (.int .i64 z)
        have X10 : Blk ((w9.drewN nq).setCell ⟨gX, i, none⟩ (.int .i64 z)) gX 2 (ivs (X.set i z)) := (X9.drewN nq).iset i z
        have K10 : Blk ((w9.drewN nq).setCell ⟨gX, i, none⟩ (.int .i64 z)) w.heap.size 24 _ := (K9.drewN nq).far (p := ⟨gX, i, none⟩) nXw (.int .i64 z)
        have KC10 : Blk ((w9.drewN nq).setCell ⟨gX, i, none⟩ (.int .i64 z)) w4.heap.size 30 _ := (KC9.drewN nq).far (p := ⟨gX, i, none⟩) (Ne.symm nX4) (.int .i64 z)
        have z10 : ((w9.drewN nq).setCell ⟨gX, i, none⟩ (.int .i64 z)).cell? ⟨ba, off + i * 3 + 2, none⟩ = some (.int .i64 ar.cap) := (World.cell?_setCell_far (w9.drewN nq) ⟨gX, i, none⟩ ⟨ba, off + i * 3 + 2, none⟩ (.int .i64 z) nXba).trans z2
        have Bw10 : Below w.heap.size w ((w9.drewN nq).setCell ⟨gX, i, none⟩ (.int .i64 z)) := (below_drewN' Bw9 nq).setCell (p := ⟨gX, i, none⟩) hXge (.int .i64 z)
        generalize (w9.drewN nq).setCell ⟨gX, i, none⟩ (.int .i64 z) = w10 at *
        clear a0 a1 a2 a3 a4 a5' a6 a7 a8 C9 Y9 X9 K9 KC9 a9' Bw9 e4 c1 fr1 z0 z1 z2
        by_cases hzz : 0 ≤ z ∧ z ≤ ar.cap
        · have hokz : okB l1 (X.set i z) = true := by rw [HSET.out]; simpa using hzz
          obtain ⟨hzz1, hzz2⟩ := hzz
          refine (res_good N1 M S1 T1 gF gH gR gC gA gB l1 _ n1 _ _ _ C10 hE hMe hM (X10.ints (by simp [hXl])) hl1 hokz hcap).mono ?_
          rintro e w11 ⟨g2, X2, rfl, _, _, _, _, B11⟩
          have C11 := C10.on B11
          have Y11 := Y10.below B11 Y10.lt
          have K11 := K10.below B11 K10.lt
          have KC11 := KC10.below B11 KC10.lt
          have z11 := (B11.cell (p := ⟨ba, off + i * 3 + 2, none⟩) (by have := World.block_lt_of_cell? w10 _ z10; exact this)).trans z10
          have Bw11 := below_step Bw10 B11
          have C11' := C11.far (p := ⟨gr, p, none⟩) ngr (.int .i64 (x + 1))
          have Y11' := Y11.iset p (x + 1)
          have K11' := K11.far (p := ⟨gr, p, none⟩) hgrw (.int .i64 (x + 1))
          have KC11' := KC11.far (p := ⟨gr, p, none⟩) (Ne.symm hgr4) (.int .i64 (x + 1))
          have z11' := (World.cell?_setCell_far w11 ⟨gr, p, none⟩ ⟨ba, off + i * 3 + 2, none⟩ (.int .i64 (x + 1)) hgrba).trans z11
          have Bw11' := Bw11.setCell (p := ⟨gr, p, none⟩) hgrge (.int .i64 (x + 1))
          have C11s : CsrAt (w11.setCell ⟨gr, p, none⟩ (.int .i64 (x + 1))) (w11.setCell ⟨gr, p, none⟩ (.int .i64 (x + 1))).heap.size N1 l1 gF gH gR gC gA gB := C11'.more (by simp)
          obtain ⟨a0, a1, a2, a3, a4, a5', a6, a7, a8⟩ := KC11.at9
          have c2 := Y11.iat HPX.out
          have fr2 := Y11.frozen p
          go_wp2_with fail
          generalize w11.setCell ⟨gr, p, none⟩ (.int .i64 (x + 1)) = w12 at *
          refine (flow_bad N1 M S1 T1 gF gH gR gC gA gB l1 _ _ n1 (Xr.set p (x + 1)) _ C11s hE hMe hM (Y11'.ints (by simp [hYl])) ?_ hcap2 hl1 (by omega) (res_more HBAL.out hE hMe hYl HPX.out)).mono ?_
          · intro y hy
            rcases List.mem_or_eq_of_mem_set hy with h | h
            · have := HBND.out y h
              omega
            · omega
          rintro e w13 ⟨rfl, B13⟩
          have K13 := K11'.below B13 K11'.lt
          have z13 := (B13.cell (p := ⟨ba, off + i * 3 + 2, none⟩) (by have := World.block_lt_of_cell? w12 _ z11'; exact this)).trans z11'
          have Bw13 := below_step Bw11' B13
          clear a0 a1 a2 a3 a4 a5' a6 a7 a8
          obtain ⟨y0, y1, y2, y3⟩ := K13.at4
          go_wp2_with fail
          refine (awake2_any _).mono ?_
          rintro e w14 ⟨rfl, B14⟩
          go_wp2_with fail
          go_ret
          exact ⟨rfl, below_step Bw13 B14⟩
        · have hokz : okB l1 (X.set i z) = false := by rw [HSET.out]; simpa using hzz
          refine (res_bad N1 M S1 T1 gF gH gR gC gA gB l1 _ n1 _ _ _ C10 hE hMe hM (X10.ints (by simp [hXl])) hl1 hokz).mono ?_
          rintro e w11 ⟨rfl, B11⟩
          have C11 := C10.on B11
          have Y11 := Y10.below B11 Y10.lt
          have K11 := K10.below B11 K10.lt
          have KC11 := KC10.below B11 KC10.lt
          have z11 := (B11.cell (p := ⟨ba, off + i * 3 + 2, none⟩) (by have := World.block_lt_of_cell? w10 _ z10; exact this)).trans z10
          have Bw11 := below_step Bw10 B11
          have C11' := C11.far (p := ⟨gr, p, none⟩) ngr (.int .i64 (x + 1))
          have Y11' := Y11.iset p (x + 1)
          have K11' := K11.far (p := ⟨gr, p, none⟩) hgrw (.int .i64 (x + 1))
          have KC11' := KC11.far (p := ⟨gr, p, none⟩) (Ne.symm hgr4) (.int .i64 (x + 1))
          have z11' := (World.cell?_setCell_far w11 ⟨gr, p, none⟩ ⟨ba, off + i * 3 + 2, none⟩ (.int .i64 (x + 1)) hgrba).trans z11
          have Bw11' := Bw11.setCell (p := ⟨gr, p, none⟩) hgrge (.int .i64 (x + 1))
          have C11s : CsrAt (w11.setCell ⟨gr, p, none⟩ (.int .i64 (x + 1))) (w11.setCell ⟨gr, p, none⟩ (.int .i64 (x + 1))).heap.size N1 l1 gF gH gR gC gA gB := C11'.more (by simp)
          obtain ⟨a0, a1, a2, a3, a4, a5', a6, a7, a8⟩ := KC11.at9
          have c2 := Y11.iat HPX.out
          have fr2 := Y11.frozen p
          go_wp2_with fail
          generalize w11.setCell ⟨gr, p, none⟩ (.int .i64 (x + 1)) = w12 at *
          refine (flow_bad N1 M S1 T1 gF gH gR gC gA gB l1 _ _ n1 (Xr.set p (x + 1)) _ C11s hE hMe hM (Y11'.ints (by simp [hYl])) ?_ hcap2 hl1 (by omega) (res_more HBAL.out hE hMe hYl HPX.out)).mono ?_
          · intro y hy
            rcases List.mem_or_eq_of_mem_set hy with h | h
            · have := HBND.out y h
              omega
            · omega
          rintro e w13 ⟨rfl, B13⟩
          have K13 := K11'.below B13 K11'.lt
          have z13 := (B13.cell (p := ⟨ba, off + i * 3 + 2, none⟩) (by have := World.block_lt_of_cell? w12 _ z11'; exact this)).trans z11'
          have Bw13 := below_step Bw11' B13
          clear a0 a1 a2 a3 a4 a5' a6 a7 a8
          obtain ⟨y0, y1, y2, y3⟩ := K13.at4
          by_cases hz0 : z < 0
          · go_wp2_with fail
            refine (awake2_any _).mono ?_
            rintro e w14 ⟨rfl, B14⟩
            go_wp2_with fail
            go_ret
            exact ⟨rfl, below_step Bw13 B14⟩
          · have hz1 : 0 ≤ z := by omega
            have hz2' : ¬ z ≤ ar.cap := fun h => hzz ⟨hz1, h⟩
            have hz3' : decide (z ≤ ar.cap) = false := by simpa using hz2'
            go_wp2_with fail
            refine (awake2_any _).mono ?_
            rintro e w14 ⟨rfl, B14⟩
            go_wp2_with fail
            go_ret
            first
              | exact ⟨rfl, below_step Bw13 B14⟩
              | exact ⟨ret_bool (by simp; omega), below_step Bw13 B14⟩

end Go.Proofs.Ytbmndghgmndgmaa
