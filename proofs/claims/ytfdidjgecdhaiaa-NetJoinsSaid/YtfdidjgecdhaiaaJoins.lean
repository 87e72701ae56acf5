/- NetJoins: the walk. -/
import Derived.Test.YtfdidjgecdhaiaaTurns
import Derived.Test.YtfdidjgecdhaiaaMaps2
import Derived.Test.YtfdidjgecdhaiaaJoinr
import Derived.Deep.DeepCutAuto
namespace Go.Proofs.Ytfdidjgecdhaiaa
open Go.RowKit Go.Maps

theorem pair_keyLaw : WideMaps.KeyLaw Try.prog 42 := deep_law_laid ends_laid (m := 2) (by omega) (of_decide_eq_true (by kernel_rfl)) (by kernel_rfl) (by kernel_rfl)
theorem pair_arr : WideMaps.ArrKey Try.prog 42 3 2 := ⟨Try.underlying42, by kernel_rfl, by kernel_rfl, by kernel_rfl⟩

theorem pair_key {p : Int × Int} (h1 : InR p.1) (h2 : InR p.2) : keyOf Try.prog 42 (pairV p) = some (.string (keyBytes [.int .i64 p.1, .int .i64 p.2])) :=
  WideMaps.keyOf_pair pair_arr Try.underlying3 types_some (wf_i64 h1) (wf_i64 h2)
abbrev Met := MapsTo pairV Try.prog 42 3
def metF (J : List ArcN) (k : Nat) (p : Int × Int) : Option Int := (idxOf (J.take k) p).map fun _ => 1
theorem metF_none {J : List ArcN} (h : Apart J) {k : Nat} {a : ArcN} (ha : J[k]? = some a) : metF J k (a.frm, a.to) = none := by
  unfold metF
  cases hx : idxOf (J.take k) (a.frm, a.to) with
  | none => rfl
  | some q =>
    obtain ⟨b, hb, e1, e2⟩ := idxOf_at hx
    rw [List.getElem?_take] at hb
    split at hb
    · have := h.uniq q k b a hb ha e1 e2
      omega
    · cases hb
theorem metF_next {J : List ArcN} (h : Apart J) {k : Nat} {a : ArcN} (ha : J[k]? = some a) (p : Int × Int) : metF J (k + 1) p = if p = (a.frm, a.to) then some 1 else metF J k p := by
  have hn : idxOf (J.take k) (a.frm, a.to) = none := by
    have := metF_none h ha
    unfold metF at this
    simpa using this
  unfold metF
  rw [take_at ha, idxOf_snoc _ _ _ hn]
  by_cases e : p = (a.frm, a.to)
  · rw [if_pos e, if_pos e]; rfl
  · rw [if_neg e, if_neg e]

set_option maxRecDepth 100000 in
set_option maxHeartbeats 8000000 in
theorem joins_good (N S T : Int) (A : Option Addr) (n c : Nat) (l : List ArcN) (w : World) (hA : Arcs w w.heap.size A n l) (hn : n ≤ 200) (hf : FitsAll l) (hc : checkF N S T l = 0) :
    Calls Try.prog 6 #[.agg #[.int .i64 N, .int .i64 S, .int .i64 T, .slice A n c]] w fun e w' => e = .returned (.bool true) ∧ Below w.heap.size w w' := by
  obtain ⟨J, o, hj⟩ : ∃ J o, joinOf l = (J, o) := ⟨_, _, rfl⟩
  have hJ := joined_of hf hc hj
  have HC := Lib.hid hc; have HJ := Lib.hid hj
  clear hc hj
  have hnn := (sumB_total (check_ok HC.out).2.2.2.2.2).1
  have hto := (sumB_total (check_ok HC.out).2.2.2.2.2).2
  have hn' : ¬ (200 : Int) < n := by omega
  go_enter Try.func6, Try.ntmps6
  go_wp2_with fail
  refine (join_is _ (hA.onAlloc _) (by omega) hf HC.out HJ.out).mono ?_
  rintro e w1 ⟨AJ, nJ, cJ, Ap, np, cp, rfl, oJ, lJ, op, lp, B1⟩
  obtain rfl : n = np := by rw [← lp, hJ.olen]; exact hA.len.symm
  have hnJ : nJ ≤ n := by have := hJ.jlen; have := hA.len; omega
  have bJ := arcs_own oJ lJ
  have bo := ints_own op lp
  have b0 := (hA.onAlloc _).on B1
  have K0 : Blk w1 w.heap.size 24 #[.int .i64 N, .int .i64 S, .int .i64 T, .slice A n c] := (Blk.new rfl).below B1 (by simp)
  have B01 := below_step (below_alloc _) B1
  have z1 : w.heap.size < w1.heap.size := K0.lt
  clear oJ op lp B1
  obtain ⟨p0, p1, p2, p3⟩ := K0.at4
  go_wp2_with fail
  have KJ : Blk (w1.alloc (.cells #[.int .i64 N, .int .i64 S, .int .i64 T, .slice AJ nJ cJ] 24)) w1.heap.size 24 #[.int .i64 N, .int .i64 S, .int .i64 T, .slice AJ nJ cJ] := Blk.new rfl
  refine (check_is _ (b0.onAlloc _) (by omega) HC.out).mono ?_
  rintro e w2 ⟨rfl, B2⟩
  have c0 := (b0.onAlloc _).on B2
  have cJ2 := (bJ.onAlloc _).on B2
  have co := (bo.onAlloc _).on B2
  have K02 := (K0.alloc _).below B2 (K0.alloc _).lt
  have KJ2 := KJ.below B2 KJ.lt
  have B02 := below_step (B01.alloc B01.size _) B2
  clear p0 p1 p2 p3 b0 bJ bo K0 KJ B01 B2
  obtain ⟨p0, p1, p2, p3⟩ := KJ2.at4
  go_wp2_with fail
  refine (check_is _ cJ2 (by omega) hJ.good).mono ?_
  rintro e w3 ⟨rfl, B3⟩
  have d0 := c0.on B3
  have dJ := cJ2.on B3
  have d_o := co.on B3
  have K03 := K02.below B3 K02.lt
  have KJ3 := KJ2.below B3 KJ2.lt
  have B03 := below_step B02 B3
  clear p0 p1 p2 p3 c0 cJ2 co K02 KJ2 B02 B3
  obtain ⟨p0, p1, p2, p3⟩ := KJ3.at4
  obtain ⟨q0, q1, q2, q3⟩ := K03.at4
  have z3 : w1.heap.size < w3.heap.size := KJ3.lt
  have z03 : w.heap.size < w3.heap.size := K03.lt
  have hmm := @run_makeMap Try.prog
  go_wp2_with fail
  clear hmm
  have HDJ := Lib.hid dJ; have HDO := Lib.hid d_o; have HD0 := Lib.hid d0
  clear dJ d_o d0
  go_loopw [7, 85] (fun _ i wr => ∃ k : Nat, k ≤ nJ ∧ i = .int .i64 k ∧ Below w3.heap.size w3 wr ∧ Met wr w3.heap.size k (metF J k)) (fun _ i _ => nJ - (intOf i).toNat)
  case atStart => exact ⟨0, Nat.zero_le _, rfl, below_alloc _, (MapsTo.made_at rfl).as fun p => by simp [metF, idxOf]⟩
  case round =>
    obtain ⟨k, hk, rfl, hb, hM⟩ := hrel
    clear p0 p1 p2 p3 q0 q1 q2 q3
    by_cases hlt : k < nJ
    · obtain ⟨b, off, ⟨x, y, z⟩, rfl, hbl, hla, a0, a1, a2⟩ := arcs_at (HDJ.out.below hb) hlt
      simp only at a0 a1 a2
      have hfa := hJ.fits _ (mem_at hla)
      have hlo := hJ.apart.loop _ (mem_at hla)
      have hxy : (x == y) = false := by simpa using hlo
      have hmn := metF_none hJ.apart hla
      have hmx := metF_next hJ.apart hla
      simp only at hmn hmx hlo
      have hMW : Met ((wr.alloc (.cells #[.int .i64 x, .int .i64 y, .int .i64 z] 31)).drew) w3.heap.size k (metF J k) := (hM.alloc _).drew
      have hkey := pair_key (p := (x, y)) hfa.1 hfa.2.1
      obtain ⟨st, wa, wb, hme, hl2, hes, hMb, ga, gb⟩ := hMW.entry_new (t := 41) pair_keyLaw pairV_inj Try.underlying41 Try.underlying3 int_zero (by unfold maxLen; omega) hkey hmn (v := 1) (by decide)
      have hl1 := hMW.look (t := 41) (Keyed.of_law pair_keyLaw) Try.underlying41 Try.underlying3 (int_zero _) hkey
      have hl3 := hMb.look (t := 41) (Keyed.of_law pair_keyLaw) Try.underlying41 Try.underlying3 (int_zero _) hkey
      rw [hmn] at hl1
      simp only [pairV, goInt, Option.getD_none, if_true, Option.getD_some] at hl1 hl2 hl3 hme hes
      have V0 : Blk ((wr.alloc (.cells #[.int .i64 x, .int .i64 y, .int .i64 z] 31)).drew) wr.heap.size 31 #[.int .i64 x, .int .i64 y, .int .i64 z] := (Blk.new rfl).drew
      have hzm : w3.heap.size < wr.heap.size := hM.lt
      have Va := V0.grown ga (by simp; omega)
      have Vb := V0.grown gb (by simp; omega)
      have va0 := Va.cell 0; have va1 := Va.cell 1; have vb0 := Vb.cell 0; have vb1 := Vb.cell 1
      simp only [List.getElem?_toArray, List.getElem?_cons_zero, List.getElem?_cons_succ] at va0 va1 vb0 vb1
      have hbb : Below w3.heap.size w3 wb := (hb.alloc hb.size _).drew.grown gb (by simp; omega) (by rintro _ ⟨⟩; omega)
      have HMB := Lib.hid hMb; have HMX := Lib.hid hmx
      clear hMb hmx hmn hkey hMW hla hfa ga gb V0 Va Vb hM
      have hw1 : IntKind.i64.wrap 1 = 1 := by decide
      go_upto_region 12 with fail
      go_region_held3 (fun W => W.cell? ⟨wr.heap.size, 0, none⟩ = some (.int .i64 x) ∧ W.cell? ⟨wr.heap.size, 1, none⟩ = some (.int .i64 y)) (go_keep) (first | fail)
      all_goals
        go_wp2_with fail
        go_roundw
        case rel => exact ⟨k + 1, by omega, by go_num, hbb, HMB.out.as HMX.out⟩
        case measure => simp [intOf]; omega
    · have KJr := KJ3.below hb KJ3.lt
      have bJr := HDJ.out.on hb
      obtain ⟨p0, p1, p2, p3⟩ := KJr.at4
      have zr : w1.heap.size < wr.heap.size := KJr.lt
      have hzr : w3.heap.size ≤ wr.heap.size := hb.size
      clear hM
      go_wp2_with fail
      refine (copy_any _ _ _ _ _ _ J _ bJr (by omega)).mono ?_
      rintro e w5 ⟨AL, nL, cL, rfl, oL, lL, B5⟩
      obtain rfl : nJ = nL := lJ.symm.trans lL
      have B35 := below_step hb B5
      have oL' := own_less (base' := w3.heap.size) oL (by omega)
      have z5 : w3.heap.size ≤ w5.heap.size := B35.size
      have HOL := Lib.hid oL'
      clear p0 p1 p2 p3 oL oL' lL bJr KJr zr B5 hb hzr
      go_wp2_with fail
      go_loopw [9, 10, 11, 12, 119] (fun la _ _ _ i wl => ∃ k : Nat, k ≤ n ∧ i = .int .i64 k ∧ la = .int .i64 ((jn l k : Int) - 1) ∧ Below w3.heap.size w3 wl ∧ Blk wl w5.heap.size 24 #[.int .i64 N, .int .i64 S, .int .i64 T, .slice AL nJ cL] ∧
          wl.ownsRow w3.heap.size 31 3 (.slice AL nJ cL) nJ ((leftTo l J k).flatMap arcCells)) (fun _ _ _ _ i _ => n - (intOf i).toNat)
      case atStart => exact ⟨0, Nat.zero_le _, rfl, by simp [jn, joinTo_zero], B35.alloc B35.size _, Blk.new rfl, by rw [leftTo_zero]; exact HOL.out.alloc _⟩
      case round =>
        obtain ⟨k, hk, rfl, rfl, hb, KL, hol⟩ := hrel
        have HOW := Lib.hid hol; clear hol
        have KJr := KJ3.below hb KJ3.lt
        have K0r := K03.below hb K03.lt
        obtain ⟨p0, p1, p2, p3⟩ := KJr.at4
        obtain ⟨q0, q1, q2, q3⟩ := K0r.at4
        obtain ⟨r0, r1, r2, r3⟩ := KL.at4
        have zl : w5.heap.size < wr.heap.size := KL.lt
        have zj : w1.heap.size < wr.heap.size := KJr.lt
        have z0 : w.heap.size < wr.heap.size := K0r.lt
        have hll : l.length = n := hA.len
        by_cases hlt : k < n
        · obtain ⟨bo, offo, x, rfl, hbo, hox, hxc⟩ := intl_at (HDO.out.below hb) hlt
          obtain ⟨b, off, ⟨fr, to_, cp0⟩, rfl, hbl, hla, a0, a1, a2⟩ := arcs_at (HD0.out.below hb) hlt
          simp only at a0 a1 a2
          obtain ⟨x', hx', hpart⟩ := part_at HJ.out hla
          obtain rfl : x = x' := by rw [hox] at hx'; injection hx'
          have hjle : jn l (k + 1) ≤ nJ := by
            have := jn_le HJ.out (k := k + 1) (m := l.length) (by omega) (Nat.le_refl _)
            have e : jn l l.length = J.length := by unfold jn; rw [← joinOf_to, HJ.out]
            omega
          have hjl2 : jn l k ≤ nJ := by
            have := jn_le HJ.out (k := k) (m := l.length) (by omega) (Nat.le_refl _)
            have e : jn l l.length = J.length := by unfold jn; rw [← joinOf_to, HJ.out]
            omega
          have HLA := Lib.hid hla
          clear hox hx' hla
          rcases hpart with ⟨e1, rfl, e3⟩ | ⟨e1, q, bq, rfl, hbq, f1, f2, hq1, hq2⟩
          · simp only at e1
            subst e1
            have HE3 := Lib.hid e3
            clear e3
            generalize hjk : jn l k = jk at hjl2
            clear hjle
            have HJK := Lib.hid hjk
            clear hjk
            go_wp2_with fail
            go_roundw
            case rel =>
              refine ⟨k + 1, by omega, by go_num, ?_, hb.alloc hb.size _, KL.alloc _, ?_⟩
              · rw [HE3.out, HJK.out]
              · rw [leftTo_loop hJ.apart HLA.out rfl]
                exact HOW.out.alloc _
            case measure => simp [intOf]; omega
          · obtain ⟨b1, b2, b3⟩ := bq
            simp only at f1 f2 e1
            subst f1
            subst f2
            have hq3 : q < nJ := by have := (List.getElem?_eq_some_iff.1 hbq).1; omega
            obtain ⟨bj, offj, aj, rfl, hbj, hlj, j0, j1, j2⟩ := arcs_at (HDJ.out.below hb) hq3
            obtain rfl : aj = ⟨b1, b2, b3⟩ := by rw [hbq] at hlj; injection hlj with hlj; exact hlj.symm
            simp only at j0 j1 j2
            obtain ⟨gl, rfl, hg1, hg2⟩ := own_form HOW.out (by omega)
            obtain ⟨al, hal, x0, x1, x2, e0, e4, e2⟩ := own_cells3 HOW.out ((leftTo_len _ _ _).trans lJ) hq3
            have hal' := leftTo_at (l := l) (i := k) hbq
            obtain rfl : al = ⟨b1, b2, b3 - capOf (b1, b2) (l.take k)⟩ := by rw [hal'] at hal; injection hal with hal; exact hal.symm
            simp only at x0 x1 x2
            have hl0 := hJ.left hnn HLA.out hbq rfl rfl
            have hc0 := capOf_nonneg (p := (b1, b2)) (l := l.take k) fun x hx => hnn x (List.mem_of_mem_take hx)
            have hb3 := total_at hJ.nn hbq
            have htt := hJ.tot
            have hcp := hnn _ (mem_at HLA.out)
            unfold maxSum at hto
            simp only at hl0 hb3 hcp
            generalize hcc : b3 - capOf (b1, b2) (l.take k) = lc at x2 hl0
            have hlc : lc ≤ 4611686018427387904 := by omega
            have hlc2 : cp0 ≤ 4611686018427387904 := by omega
            have HCC := Lib.hid hcc
            have HB := Lib.hid hbq
            have HQ2 := Lib.hid hq2
            have hxy : (b1 == b2) = false := by simpa using e1
            have nl := own_ne HOW.out KL (by decide) gl rfl
            have nl' := Ne.symm nl
            have hgw : ¬ gl = wr.heap.size := by omega
            have hgw' : ¬ wr.heap.size = gl := by omega
            clear hcc hbq hq2 hal hal' hlj htt hb3 hc0
            generalize hjk : jn l k = jk at hjl2 hq1
            have HJK := Lib.hid hjk
            clear hjk hjle
            have i1 : (b1 != b1) = false := by simp
            have i2 : (b2 != b2) = false := by simp
            have y0 : (0 : Int) ≤ (q : Int) := by omega
            have y1 : (q : Int) < (nJ : Int) := by omega
            have hbj' : bj < wr.heap.size := by have := hb.size; omega
            rcases Nat.lt_or_ge q jk with hjq | hjq
            all_goals
              go_wp2_with fail
              go_quiet (fail)
              go_wp2_with fail
              go_region
              go_wp2_with fail
              go_roundw
              case rel =>
                refine ⟨k + 1, by omega, by go_num, ?_, ?_, ?_, ?_⟩
                · rw [HQ2.out, HJK.out]; congr 1; omega
                · exact (below_drewN' (hb.alloc hb.size _) _).setCell (by show w3.heap.size ≤ gl; omega) _
                · exact ((KL.alloc _).drewN _).far nl' _
                · rw [leftTo_set hJ.apart HLA.out HB.out rfl rfl]
                  simp only [HCC.out]
                  exact own_setCap (b := ⟨b1, b2, _⟩) (HOW.out.alloc _) (leftTo_at HB.out) _
              case measure => simp [intOf]; omega
        · have HZ : ∀ b ∈ leftTo l J k, b.cap = 0 := hJ.zero (by omega)
          have hLl : (leftTo l J k).length = nJ := (leftTo_len _ _ _).trans lJ
          generalize leftTo l J k = L at HOW HZ hLl
          go_wp2_with fail
          go_loopw [14, 190] (fun _ i wl => ∃ k : Nat, k ≤ nJ ∧ i = .int .i64 k ∧ Below w3.heap.size w3 wl ∧
            wl.ownsRow w3.heap.size 31 3 (.slice AL nJ cL) nJ (L.flatMap arcCells)) (fun _ i _ => nJ - (intOf i).toNat)
          case atStart => exact ⟨0, Nat.zero_le _, rfl, hb, HOW.out⟩
          case round =>
            clear p0 p1 p2 p3 q0 q1 q2 q3 r0 r1 r2 r3
            rename_i wx hbx HOX
            obtain ⟨k, hk, rfl, hb, hol⟩ := hrel
            by_cases hlt : k < nJ
            · obtain ⟨gl, rfl, hg1, hg2⟩ := own_form hol (by omega)
              obtain ⟨⟨y0, y1, y2⟩, hal, x0, x1, x2, _⟩ := own_cells3 hol hLl hlt
              have hz : y2 = 0 := HZ _ (mem_at hal)
              subst hz
              simp only at x0 x1 x2
              go_wp2_with fail
              go_roundw
              case rel => exact ⟨k + 1, by omega, by go_num, hb.alloc hb.size _, hol.alloc _⟩
              case measure => simp [intOf]; omega
            · have KJx := KJ3.below hb KJ3.lt
              have bJx := HDJ.out.on hb
              obtain ⟨p0, p1, p2, p3⟩ := KJx.at4
              have zx : w1.heap.size < wr.heap.size := KJx.lt
              have B0x := below_step B03 hb
              clear hol
              go_wp2_with fail
              refine (join_is _ bJx (by omega) hJ.fits hJ.good (join_again hJ.apart)).mono ?_
              rintro e w7 ⟨A7, n7, c7, A8, n8, c8, rfl, o7, l7, o8, l8, B7⟩
              obtain rfl : nJ = n7 := lJ.symm.trans l7
              obtain rfl : nJ = n8 := by rw [← l8]; simp [lJ]
              have b7 := arcs_own o7 l7
              have b8 := ints_own o8 l8
              have bJ7 := bJx.on B7
              have KJ7 := KJx.below B7 KJx.lt
              have B07 := below_step B0x B7
              clear p0 p1 p2 p3 o7 o8 l7 l8 B7 bJx KJx B0x
              obtain ⟨p0, p1, p2, p3⟩ := KJ7.at4
              have z7 : w1.heap.size < w7.heap.size := KJ7.lt
              have H7 := Lib.hid b7; have H8 := Lib.hid b8; have H9 := Lib.hid bJ7
              clear b7 b8 bJ7
              go_wp2_with fail
              go_loopw [17, 18, 205] (fun _ _ i wl => ∃ k : Nat, k ≤ nJ ∧ i = .int .i64 k ∧ wl = w7.alloc (.cells #[.int .i64 N, .int .i64 S, .int .i64 T, .slice A7 nJ c7] 24)) (fun _ _ i _ => nJ - (intOf i).toNat)
              case atStart => exact ⟨0, Nat.zero_le _, rfl, rfl⟩
              case round =>
                obtain ⟨k, hk, rfl, rfl⟩ := hrel
                by_cases hlt : k < nJ
                · obtain ⟨b8, off8, x, rfl, hb8, hox, hxc⟩ := intl_at (H8.out.onAlloc (.cells #[.int .i64 N, .int .i64 S, .int .i64 T, .slice A7 nJ c7] 24)) hlt
                  obtain rfl : x = (k : Int) := by
                    rw [List.getElem?_map, List.getElem?_range (by omega)] at hox
                    simpa using hox.symm
                  clear hox p0 p1 p2 p3
                  go_wp2_with fail
                  go_roundw
                  case rel => exact ⟨k + 1, by omega, by go_num, by first | rfl | trivial⟩
                  case measure => simp [intOf]; omega
                · go_wp2_with fail
                  refine (sameNet_is _ _ (H7.out.onAlloc _) (H9.out.onAlloc _) (by omega) (by omega) (same_refl _ _ _ _)).mono ?_
                  rintro e w9 ⟨rfl, B9⟩
                  go_wp2_with fail
                  refine (awake_any _).mono ?_
                  rintro e w10 ⟨rfl, B10⟩
                  go_wp2_with fail
                  go_ret
                  exact ⟨rfl, below_step (below_step (B07.alloc B07.size _) B9) B10⟩

end Go.Proofs.Ytfdidjgecdhaiaa
