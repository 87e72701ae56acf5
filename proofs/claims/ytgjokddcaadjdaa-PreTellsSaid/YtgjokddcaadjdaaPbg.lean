/- PreTells: the document's own Begin. -/
import Derived.Test.YtgjokddcaadjdaaPmt
import Derived.Test.YtgjokddcaadjdaaBego
namespace Go.Proofs.Ytgjokddcaadjdaa
open Go.RowKit Go.Shelf
set_option maxRecDepth 100000

/-- How many of s's arcs stand ahead of number k. -/
def jOf (fst : Nat → Nat) (s k : Nat) : Nat := min (k - fst s) (fst (s + 1) - fst s)

set_option maxHeartbeats 32000000 in
theorem rbegin_is (N M s t : Nat) (K : CsrS) (fst hd rv ai : Nat → Nat) (cp : Nat → Int) (bk : Nat → Bool) (w : World) (hG : PNet N M s t fst hd rv ai cp bk) (hI : PIn w w.heap.size N M K fst hd rv ai cp bk) :
    Calls Try.prog 12 #[csrW N M s t K] w (RetPre M N N (begX fst rv cp M s (fst (s + 1) - fst s)) (begE fst hd rv cp M N s (fst (s + 1) - fst s)) (begH N s) w) := by
  have hM := hG.nM; have hN := hG.nN; have hsN := hG.hs
  have hmn := hG.g.mono s hsN
  have hfl := hG.g.fle (v := s + 1) (by omega)
  have htl := fun (k : Nat) (hk : k < M) W (hb : Below w.heap.size w W) => rtail_is N M s t k K fst hd rv W hG.g (hI.gi.on hb) hk hN
  have hcsrc := fun W (hb : Below w.heap.size w W) => ints_src hI.iC hb
  have HTL := Lib.hid htl; have HCS := Lib.hid hcsrc; have HG := Lib.hid hG; have HI := Lib.hid hI
  clear htl hcsrc
  obtain ⟨AF, cF, AH, cH, AR, cR, AC, cC, AA, cA, AB, cB⟩ := K
  dsimp only [csrW] at HTL HCS ⊢
  have HNL : Hid (N ≤ maxLen) := Lib.hid (by unfold maxLen; omega)
  obtain ⟨i1, hi, hi0, hi1, hi2⟩ := info_parts long_info
  have hml := fun W => run_make_lit (P := Try.prog) 26 2 i1 _ Try.underlying26 hi hi0 N (by rw [hi2]; omega) (by omega) W
  rw [hi1, ivs_made] at hml
  clear hi hi0 hi1 hi2
  obtain ⟨i2, hi, hi0, hi1, hi2⟩ := info_parts int_info
  have hmi := fun W => run_make_lit (P := Try.prog) 27 3 i2 _ Try.underlying27 hi hi0 N (by rw [hi2]; omega) (by omega) W
  rw [hi1, ivs_made] at hmi
  clear hi hi0 hi1 hi2
  obtain ⟨w1, hw1⟩ : ∃ W, (w.alloc (.cells #[.int .i64 (N : Int), .int .i64 (s : Int), .int .i64 (t : Int), .slice AF (N + 1) cF, .slice AH M cH, .slice AR M cR, .slice AC M cC, .slice AA M cA, .slice AB M cB] 32)).alloc (.cells #[.slice none 0 0, .slice none 0 0, .slice none 0 0] 29) = W := ⟨_, rfl⟩
  obtain ⟨w2, hw2⟩ : ∃ W, w1.drew = W := ⟨_, rfl⟩
  have B1 : Below w.heap.size w w2 := by rw [← hw2, ← hw1]; exact ((below_alloc _).alloc (by simp) _).drew
  have HC2 := Lib.hid (show Blk w2 w.heap.size 32 #[.int .i64 (N : Int), .int .i64 (s : Int), .int .i64 (t : Int), .slice AF (N + 1) cF, .slice AH M cH, .slice AR M cR, .slice AC M cC, .slice AA M cA, .slice AB M cB] by rw [← hw2, ← hw1]; exact ((Blk.new rfl).alloc _).drew)
  have HR2 := Lib.hid (show Blk w2 (w.heap.size + 1) 29 #[.slice none 0 0, .slice none 0 0, .slice none 0 0] by rw [← hw2, ← hw1]; exact (Blk.new (by simp)).drew)
  have HB2 := Lib.hid B1
  have HKEEP := Lib.hid (show ∀ W, Below w2.heap.size w2 W → W.cell? ⟨w.heap.size, 0, none⟩ = some (.int .i64 (N : Int)) from fun W hb => (HC2.out.below hb HC2.out.lt).at9.1)
  have HX : Hx w2 w2 w2.heap.size (pstR 0 0 0 ⟨none, 0, none, 0, none, 0⟩ [] [] []) := nil_st (Below.refl _ _) (Nat.le_refl _)
  clear hI hG B1
  go_enter Try.func12, Try.ntmps12
  go_wp2_with fail
  clear hw1
  refine wp_region_held_drew (S := fun W' => W'.cell? ⟨w.heap.size, 0, none⟩ = some (.int .i64 (N : Int))) (by kernel_rfl) (by rw [hw2]; exact HKEEP.out _ (Below.refl _ _)) (fun hS0 => ?_)
  rw [hw2] at hS0 ⊢
  clear hw2 w1
  obtain ⟨W, hW⟩ : ∃ W, w2 = W := ⟨_, rfl⟩
  have HX0 := HX
  rw [hW] at hS0 ⊢
  have HX : Hx w2 W w2.heap.size (pstR 0 0 0 ⟨none, 0, none, 0, none, 0⟩ [] [] []) := by rw [← hW]; exact HX0
  clear HX0 hW
  refine tk (v := ?_) 0 6 rfl ?_ ?_
  rotate_left
  · (intro W' hSw; have b0 := hSw; go_simp; try with_reducible rfl)
  simp only [Act.put, pa, pz, ps]
  refine tk (v := ?_) 1 7 rfl ?_ ?_
  rotate_left
  · (intro W' hSw; have b0 := hSw; go_simp; try with_reducible rfl)
  simp only [Act.put, pa, pz, ps]
  refine tk (v := ?_) 3 9 rfl ?_ ?_
  rotate_left
  · (intro W' hSw; have b0 := hSw; go_simp; try with_reducible rfl)
  simp only [Act.put, pa, pz, ps]
  refine tk (v := ?_) 4 10 rfl ?_ ?_
  rotate_left
  · (intro W' hSw; have b0 := hSw; go_simp; try with_reducible rfl)
  simp only [Act.put, pa, pz, ps]
  refine (have u257 : Hid ?Tu257 := ?pu257; ?mu257)
  case mu257 =>
   refine (have u57 : Hid ?Tu57 := ?pu57; ?mu57)
   case mu57 =>
    refine (have u27 : Hid ?Tu27 := ?pu27; ?mu27)
    case mu27 =>
     refine (have u25 : Hid ?Tu25 := ?pu25; ?mu25)
     case mu25 =>
      refine (have u7 : Hid ?Tu7 := ?pu7; ?mu7)
      case mu7 =>
       refine (have u5 : Hid ?Tu5 := ?pu5; ?mu5)
       case mu5 =>
        refine (have u2 : Hid ?Tu2 := ?pu2; ?mu2)
        case mu2 =>
         refine wpAnyH_ready (rs := [2, 5, 7]) (by kernel_rfl) (by simp) ?_
         refine AllReadyH.cons rfl (fun K hK => ?_) (AllReadyH.cons rfl (fun K hK => ?_) (AllReadyH.cons rfl (fun K hK => ?_) (AllReadyH.nil)))
         · go_simp
           obtain ⟨gE, hgn⟩ : ∃ g, W.heap.size = g := ⟨_, rfl⟩
           have HX' := HX.fresh (i := 1) rfl (below_alloc _) (own_zeros2 N 2 W gE hgn HNL.out)
           refine hK.out _ _ (HKEEP.out _ HX'.bel) (fun hSx => ?_)
           clear hK K hSx
           try simp only [Act.put, pa, pz, ps]
           obtain ⟨V, hV⟩ : ∃ V, W.alloc (.cells (ivs (List.replicate N 0)) 2) = V := ⟨_, rfl⟩
           rw [hV] at HX' ⊢
           rw [hgn]
           clear hV hgn
           obtain ⟨W, rfl⟩ : ∃ W, W = V := ⟨_, rfl⟩
           have HX := HX'
           clear HX'
           replace HX : Hx w2 W w2.heap.size [⟨2, none, 0, 0, []⟩, ⟨2, some ⟨gE, 0, none⟩, N, N, lvs (List.replicate N 0)⟩, ⟨3, none, 0, 0, []⟩] := HX
           revert HX
           revert W
           revert gE
           exact u2.out
         · go_simp
           obtain ⟨gH, hgn⟩ : ∃ g, W.heap.size = g := ⟨_, rfl⟩
           have HX' := HX.fresh (i := 2) rfl (below_alloc _) (own_zeros2 N 3 W gH hgn HNL.out)
           refine hK.out _ _ (HKEEP.out _ HX'.bel) (fun hSx => ?_)
           clear hK K hSx
           try simp only [Act.put, pa, pz, ps]
           obtain ⟨V, hV⟩ : ∃ V, W.alloc (.cells (ivs (List.replicate N 0)) 3) = V := ⟨_, rfl⟩
           rw [hV] at HX' ⊢
           rw [hgn]
           clear hV hgn
           obtain ⟨W, rfl⟩ : ∃ W, W = V := ⟨_, rfl⟩
           have HX := HX'
           clear HX'
           replace HX : Hx w2 W w2.heap.size [⟨2, none, 0, 0, []⟩, ⟨2, none, 0, 0, []⟩, ⟨3, some ⟨gH, 0, none⟩, N, N, lvs (List.replicate N 0)⟩] := HX
           revert HX
           revert W
           revert gH
           exact u5.out
         · go_simp
           obtain ⟨gP, hgn⟩ : ∃ g, W.heap.size = g := ⟨_, rfl⟩
           have hgp : w2.heap.size ≤ gP := by have := HX.bas; omega
           have HX' := HX.alloc (.cells #[.slice none 0 0, .slice none 0 0, .slice none 0 0] 29)
           have HP : Blk (W.alloc (.cells #[.slice none 0 0, .slice none 0 0, .slice none 0 0] 29)) gP 29 #[.slice none 0 0, .slice none 0 0, .slice none 0 0] := Blk.new hgn
           refine hK.out _ _ (HKEEP.out _ HX'.bel) (fun hSx => ?_)
           clear hK K hSx
           try simp only [Act.put, pa, pz, ps]
           obtain ⟨V, hV⟩ : ∃ V, W.alloc (.cells #[.slice none 0 0, .slice none 0 0, .slice none 0 0] 29) = V := ⟨_, rfl⟩
           rw [hV] at HX' HP ⊢
           rw [hgn]
           clear hV hgn
           obtain ⟨W, rfl⟩ : ∃ W, W = V := ⟨_, rfl⟩
           have HX := HX'
           clear HX'
           replace HX : Hx w2 W w2.heap.size [⟨2, none, 0, 0, []⟩, ⟨2, none, 0, 0, []⟩, ⟨3, none, 0, 0, []⟩] := HX
           revert hgp
           revert HP
           revert HX
           revert W
           revert gP
           exact u7.out
        case pu2 =>
         refine Lib.hid ?_
         intro gE W HX
         refine wpAnyH_ready (rs := [5, 7]) (by kernel_rfl) (by simp) ?_
         refine AllReadyH.cons rfl (fun K hK => ?_) (AllReadyH.cons rfl (fun K hK => ?_) (AllReadyH.nil))
         · go_simp
           obtain ⟨gH, hgn⟩ : ∃ g, W.heap.size = g := ⟨_, rfl⟩
           have HX' := HX.fresh (i := 2) rfl (below_alloc _) (own_zeros2 N 3 W gH hgn HNL.out)
           refine hK.out _ _ (HKEEP.out _ HX'.bel) (fun hSx => ?_)
           clear hK K hSx HX
           try simp only [Act.put, pa, pz, ps]
           obtain ⟨V, hV⟩ : ∃ V, W.alloc (.cells (ivs (List.replicate N 0)) 3) = V := ⟨_, rfl⟩
           rw [hV] at HX' ⊢
           rw [hgn]
           clear hV hgn W
           obtain ⟨W, rfl⟩ : ∃ W, W = V := ⟨_, rfl⟩
           have HX := HX'
           clear HX'
           replace HX : Hx w2 W w2.heap.size [⟨2, none, 0, 0, []⟩, ⟨2, some ⟨gE, 0, none⟩, N, N, lvs (List.replicate N 0)⟩, ⟨3, some ⟨gH, 0, none⟩, N, N, lvs (List.replicate N 0)⟩] := HX
           revert HX
           revert W
           revert gH
           revert gE
           exact u25.out
         · go_simp
           obtain ⟨gP, hgn⟩ : ∃ g, W.heap.size = g := ⟨_, rfl⟩
           have hgp : w2.heap.size ≤ gP := by have := HX.bas; omega
           have HX' := HX.alloc (.cells #[.slice none 0 0, .slice none 0 0, .slice none 0 0] 29)
           have HP : Blk (W.alloc (.cells #[.slice none 0 0, .slice none 0 0, .slice none 0 0] 29)) gP 29 #[.slice none 0 0, .slice none 0 0, .slice none 0 0] := Blk.new hgn
           refine hK.out _ _ (HKEEP.out _ HX'.bel) (fun hSx => ?_)
           clear hK K hSx HX
           try simp only [Act.put, pa, pz, ps]
           obtain ⟨V, hV⟩ : ∃ V, W.alloc (.cells #[.slice none 0 0, .slice none 0 0, .slice none 0 0] 29) = V := ⟨_, rfl⟩
           rw [hV] at HX' HP ⊢
           rw [hgn]
           clear hV hgn W
           obtain ⟨W, rfl⟩ : ∃ W, W = V := ⟨_, rfl⟩
           have HX := HX'
           clear HX'
           replace HX : Hx w2 W w2.heap.size [⟨2, none, 0, 0, []⟩, ⟨2, some ⟨gE, 0, none⟩, N, N, lvs (List.replicate N 0)⟩, ⟨3, none, 0, 0, []⟩] := HX
           revert hgp
           revert HP
           revert HX
           revert W
           revert gP
           revert gE
           exact u27.out
       case pu5 =>
        refine Lib.hid ?_
        intro gH W HX
        refine wpAnyH_ready (rs := [2, 7]) (by kernel_rfl) (by simp) ?_
        refine AllReadyH.cons rfl (fun K hK => ?_) (AllReadyH.cons rfl (fun K hK => ?_) (AllReadyH.nil))
        · go_simp
          obtain ⟨gE, hgn⟩ : ∃ g, W.heap.size = g := ⟨_, rfl⟩
          have HX' := HX.fresh (i := 1) rfl (below_alloc _) (own_zeros2 N 2 W gE hgn HNL.out)
          refine hK.out _ _ (HKEEP.out _ HX'.bel) (fun hSx => ?_)
          clear hK K hSx HX
          try simp only [Act.put, pa, pz, ps]
          obtain ⟨V, hV⟩ : ∃ V, W.alloc (.cells (ivs (List.replicate N 0)) 2) = V := ⟨_, rfl⟩
          rw [hV] at HX' ⊢
          rw [hgn]
          clear hV hgn W
          obtain ⟨W, rfl⟩ : ∃ W, W = V := ⟨_, rfl⟩
          have HX := HX'
          clear HX'
          replace HX : Hx w2 W w2.heap.size [⟨2, none, 0, 0, []⟩, ⟨2, some ⟨gE, 0, none⟩, N, N, lvs (List.replicate N 0)⟩, ⟨3, some ⟨gH, 0, none⟩, N, N, lvs (List.replicate N 0)⟩] := HX
          revert HX
          revert W
          revert gH
          revert gE
          exact u25.out
        · go_simp
          obtain ⟨gP, hgn⟩ : ∃ g, W.heap.size = g := ⟨_, rfl⟩
          have hgp : w2.heap.size ≤ gP := by have := HX.bas; omega
          have HX' := HX.alloc (.cells #[.slice none 0 0, .slice none 0 0, .slice none 0 0] 29)
          have HP : Blk (W.alloc (.cells #[.slice none 0 0, .slice none 0 0, .slice none 0 0] 29)) gP 29 #[.slice none 0 0, .slice none 0 0, .slice none 0 0] := Blk.new hgn
          refine hK.out _ _ (HKEEP.out _ HX'.bel) (fun hSx => ?_)
          clear hK K hSx HX
          try simp only [Act.put, pa, pz, ps]
          obtain ⟨V, hV⟩ : ∃ V, W.alloc (.cells #[.slice none 0 0, .slice none 0 0, .slice none 0 0] 29) = V := ⟨_, rfl⟩
          rw [hV] at HX' HP ⊢
          rw [hgn]
          clear hV hgn W
          obtain ⟨W, rfl⟩ : ∃ W, W = V := ⟨_, rfl⟩
          have HX := HX'
          clear HX'
          replace HX : Hx w2 W w2.heap.size [⟨2, none, 0, 0, []⟩, ⟨2, none, 0, 0, []⟩, ⟨3, some ⟨gH, 0, none⟩, N, N, lvs (List.replicate N 0)⟩] := HX
          revert hgp
          revert HP
          revert HX
          revert W
          revert gP
          revert gH
          exact u57.out
      case pu7 =>
       refine Lib.hid ?_
       intro gP W HX HP hgp
       refine wpAnyH_ready (rs := [2, 5]) (by kernel_rfl) (by simp) ?_
       refine AllReadyH.cons rfl (fun K hK => ?_) (AllReadyH.cons rfl (fun K hK => ?_) (AllReadyH.nil))
       · go_simp
         obtain ⟨gE, hgn⟩ : ∃ g, W.heap.size = g := ⟨_, rfl⟩
         have HX' := HX.fresh (i := 1) rfl (below_alloc _) (own_zeros2 N 2 W gE hgn HNL.out)
         have HP' := HP.alloc (.cells (ivs (List.replicate N 0)) 2)
         refine hK.out _ _ (HKEEP.out _ HX'.bel) (fun hSx => ?_)
         clear hK K hSx HX HP
         try simp only [Act.put, pa, pz, ps]
         obtain ⟨V, hV⟩ : ∃ V, W.alloc (.cells (ivs (List.replicate N 0)) 2) = V := ⟨_, rfl⟩
         rw [hV] at HX' HP' ⊢
         rw [hgn]
         clear hV hgn W
         obtain ⟨W, rfl⟩ : ∃ W, W = V := ⟨_, rfl⟩
         have HX := HX'
         clear HX'
         have HP := HP'
         clear HP'
         replace HX : Hx w2 W w2.heap.size [⟨2, none, 0, 0, []⟩, ⟨2, some ⟨gE, 0, none⟩, N, N, lvs (List.replicate N 0)⟩, ⟨3, none, 0, 0, []⟩] := HX
         revert hgp
         revert HP
         revert HX
         revert W
         revert gP
         revert gE
         exact u27.out
       · go_simp
         obtain ⟨gH, hgn⟩ : ∃ g, W.heap.size = g := ⟨_, rfl⟩
         have HX' := HX.fresh (i := 2) rfl (below_alloc _) (own_zeros2 N 3 W gH hgn HNL.out)
         have HP' := HP.alloc (.cells (ivs (List.replicate N 0)) 3)
         refine hK.out _ _ (HKEEP.out _ HX'.bel) (fun hSx => ?_)
         clear hK K hSx HX HP
         try simp only [Act.put, pa, pz, ps]
         obtain ⟨V, hV⟩ : ∃ V, W.alloc (.cells (ivs (List.replicate N 0)) 3) = V := ⟨_, rfl⟩
         rw [hV] at HX' HP' ⊢
         rw [hgn]
         clear hV hgn W
         obtain ⟨W, rfl⟩ : ∃ W, W = V := ⟨_, rfl⟩
         have HX := HX'
         clear HX'
         have HP := HP'
         clear HP'
         replace HX : Hx w2 W w2.heap.size [⟨2, none, 0, 0, []⟩, ⟨2, none, 0, 0, []⟩, ⟨3, some ⟨gH, 0, none⟩, N, N, lvs (List.replicate N 0)⟩] := HX
         revert hgp
         revert HP
         revert HX
         revert W
         revert gP
         revert gH
         exact u57.out
     case pu25 =>
      refine Lib.hid ?_
      intro gE gH W HX
      have hS := HKEEP.out _ HX.bel
      refine tk (v := ?_) 6 12 rfl ?_ ?_
      rotate_left
      · (intro W' hSw; have b0 := hSw; go_simp; try with_reducible rfl)
      simp only [Act.put, pa, pz, ps]
      clear hS
      refine wpAnyH_ready (rs := [7]) (by kernel_rfl) (by simp) ?_
      refine AllReadyH.cons rfl (fun K hK => ?_) (AllReadyH.nil)
      · go_simp
        obtain ⟨gP, hgn⟩ : ∃ g, W.heap.size = g := ⟨_, rfl⟩
        have hgp : w2.heap.size ≤ gP := by have := HX.bas; omega
        have HX' := HX.alloc (.cells #[.slice none 0 0, .slice none 0 0, .slice none 0 0] 29)
        have HP : Blk (W.alloc (.cells #[.slice none 0 0, .slice none 0 0, .slice none 0 0] 29)) gP 29 #[.slice none 0 0, .slice none 0 0, .slice none 0 0] := Blk.new hgn
        refine hK.out _ _ (HKEEP.out _ HX'.bel) (fun hSx => ?_)
        clear hK K hSx HX
        try simp only [Act.put, pa, pz, ps]
        obtain ⟨V, hV⟩ : ∃ V, W.alloc (.cells #[.slice none 0 0, .slice none 0 0, .slice none 0 0] 29) = V := ⟨_, rfl⟩
        rw [hV] at HX' HP ⊢
        rw [hgn]
        clear hV hgn W
        obtain ⟨W, rfl⟩ : ∃ W, W = V := ⟨_, rfl⟩
        have HX := HX'
        clear HX'
        replace HX : Hx w2 W w2.heap.size [⟨2, none, 0, 0, []⟩, ⟨2, some ⟨gE, 0, none⟩, N, N, lvs (List.replicate N 0)⟩, ⟨3, some ⟨gH, 0, none⟩, N, N, lvs (List.replicate N 0)⟩] := HX
        revert hgp
        revert HP
        revert HX
        revert W
        revert gP
        revert gH
        revert gE
        exact u257.out
    case pu27 =>
     refine Lib.hid ?_
     intro gE gP W HX HP hgp
     refine wpAnyH_ready (rs := [5]) (by kernel_rfl) (by simp) ?_
     refine AllReadyH.cons rfl (fun K hK => ?_) (AllReadyH.nil)
     · go_simp
       obtain ⟨gH, hgn⟩ : ∃ g, W.heap.size = g := ⟨_, rfl⟩
       have HX' := HX.fresh (i := 2) rfl (below_alloc _) (own_zeros2 N 3 W gH hgn HNL.out)
       have HP' := HP.alloc (.cells (ivs (List.replicate N 0)) 3)
       refine hK.out _ _ (HKEEP.out _ HX'.bel) (fun hSx => ?_)
       clear hK K hSx HX HP
       try simp only [Act.put, pa, pz, ps]
       obtain ⟨V, hV⟩ : ∃ V, W.alloc (.cells (ivs (List.replicate N 0)) 3) = V := ⟨_, rfl⟩
       rw [hV] at HX' HP' ⊢
       rw [hgn]
       clear hV hgn W
       obtain ⟨W, rfl⟩ : ∃ W, W = V := ⟨_, rfl⟩
       have HX := HX'
       clear HX'
       have HP := HP'
       clear HP'
       have hS := HKEEP.out _ HX.bel
       refine tk (v := ?_) 6 12 rfl ?_ ?_
       rotate_left
       · (intro W' hSw; have b0 := hSw; go_simp; try with_reducible rfl)
       simp only [Act.put, pa, pz, ps]
       clear hS
       replace HX : Hx w2 W w2.heap.size [⟨2, none, 0, 0, []⟩, ⟨2, some ⟨gE, 0, none⟩, N, N, lvs (List.replicate N 0)⟩, ⟨3, some ⟨gH, 0, none⟩, N, N, lvs (List.replicate N 0)⟩] := HX
       revert hgp
       revert HP
       revert HX
       revert W
       revert gP
       revert gH
       revert gE
       exact u257.out
   case pu57 =>
    refine Lib.hid ?_
    intro gH gP W HX HP hgp
    refine wpAnyH_ready (rs := [2]) (by kernel_rfl) (by simp) ?_
    refine AllReadyH.cons rfl (fun K hK => ?_) (AllReadyH.nil)
    · go_simp
      obtain ⟨gE, hgn⟩ : ∃ g, W.heap.size = g := ⟨_, rfl⟩
      have HX' := HX.fresh (i := 1) rfl (below_alloc _) (own_zeros2 N 2 W gE hgn HNL.out)
      have HP' := HP.alloc (.cells (ivs (List.replicate N 0)) 2)
      refine hK.out _ _ (HKEEP.out _ HX'.bel) (fun hSx => ?_)
      clear hK K hSx HX HP
      try simp only [Act.put, pa, pz, ps]
      obtain ⟨V, hV⟩ : ∃ V, W.alloc (.cells (ivs (List.replicate N 0)) 2) = V := ⟨_, rfl⟩
      rw [hV] at HX' HP' ⊢
      rw [hgn]
      clear hV hgn W
      obtain ⟨W, rfl⟩ : ∃ W, W = V := ⟨_, rfl⟩
      have HX := HX'
      clear HX'
      have HP := HP'
      clear HP'
      have hS := HKEEP.out _ HX.bel
      refine tk (v := ?_) 6 12 rfl ?_ ?_
      rotate_left
      · (intro W' hSw; have b0 := hSw; go_simp; try with_reducible rfl)
      simp only [Act.put, pa, pz, ps]
      clear hS
      replace HX : Hx w2 W w2.heap.size [⟨2, none, 0, 0, []⟩, ⟨2, some ⟨gE, 0, none⟩, N, N, lvs (List.replicate N 0)⟩, ⟨3, some ⟨gH, 0, none⟩, N, N, lvs (List.replicate N 0)⟩] := HX
      revert hgp
      revert HP
      revert HX
      revert W
      revert gP
      revert gH
      revert gE
      exact u257.out
  case pu257 =>
   refine Lib.hid ?_
   intro gE gH gP W HX HP hgp
   have HY : Hx w2 W w2.heap.size (pstR 0 N N ⟨none, 0, some ⟨gE, 0, none⟩, N, some ⟨gH, 0, none⟩, N⟩ [] (List.replicate N 0) (List.replicate N 0)) := HX
   clear HX
   obtain ⟨⟨q0, q1, q2⟩, ⟨f0, f1, f2⟩, hzp⟩ := HP.full3
   refine wpAnyH_ready (rs := [8]) (by kernel_rfl) (by simp) ?_
   refine AllReadyH.cons rfl (fun K hK => ?_) AllReadyH.nil
   go_simp
   have HX4 := HY.put3 (x := .slice none 0 0) (y := .slice (some ⟨gE, 0, none⟩) N N) (z := .slice (some ⟨gH, 0, none⟩) N N) HP pst_ne hgp
   have HP4 := HP.put3 (x := .slice none 0 0) (y := .slice (some ⟨gE, 0, none⟩) N N) (z := .slice (some ⟨gH, 0, none⟩) N N)
   refine hK.out _ _ (HKEEP.out _ HX4.bel) (fun hSx => ?_)
   clear hK K hSx q0 q1 q2 f0 f1 f2 hzp HY HP
   try simp only [Act.put, pa, pz, ps]
   obtain ⟨V, hV⟩ : ∃ V, put3 W gP (.slice none 0 0) (.slice (some ⟨gE, 0, none⟩) N N) (.slice (some ⟨gH, 0, none⟩) N N) = V := ⟨_, rfl⟩
   rw [hV] at HX4 HP4
   dsimp only [put3] at hV
   rw [hV]
   clear hV W
   refine wpAnyH_done (by kernel_rfl) ?_ _
   have Cv := HC2.out.below HX4.bel HC2.out.lt
   obtain ⟨a0, a1, a2, a3, a4, a5, a6, a7, a8⟩ := Cv.at9
   obtain ⟨⟨o0, o1, o2⟩, -, hzo⟩ := HP4.full3
   have hz1 := Cv.lt
   have HXv := Lib.hid HX4; have HPv := Lib.hid HP4
   clear HX4 HP4 Cv
   go_wp2_with (at_builtin; refine wp_appSrcH HXv.out rfl _ _ _ _ _ rfl one_long.wide 0 0 0 none [] rfl rfl AC M cC (lvs (tab M cp)) rfl (HCS.out _ (below_step HB2.out HXv.out.bel)) (by rw [List.length_map]; exact tab_len _ _) (fun u hu => by obtain ⟨x, _, rfl⟩ := List.mem_map.1 hu; rfl) (by omega) ?_)
   intro AX2 cX2 v3 hx3 hb3
   have hy3 : Hx w2 v3 w2.heap.size (pstR M N N ⟨AX2, cX2, some ⟨gE, 0, none⟩, N, some ⟨gH, 0, none⟩, N⟩ (tab M cp) (List.replicate N 0) (List.replicate N 0)) := by
     have h := hx3.out
     simpa [pstR] using h
   have p3 := hb3.out _ _ _ HPv.out (show (29 : TypeId) ≠ 2 by decide)
   have nH := own_apart (n := N) (g := gH) (hy3.held.own 2 _ rfl) p3 (show (3 : TypeId) ≠ 29 by decide)
   have nE := own_apart (n := N) (g := gE) (hy3.held.own 1 _ rfl) p3 (show (2 : TypeId) ≠ 29 by decide)
   obtain ⟨w4, hw4⟩ : ∃ W, v3.setCell ⟨gP, 0, none⟩ (.slice AX2 M cX2) = W := ⟨_, rfl⟩
   have HX4 := Lib.hid (show Hx w2 w4 w2.heap.size (pstR M N N ⟨AX2, cX2, some ⟨gE, 0, none⟩, N, some ⟨gH, 0, none⟩, N⟩ (tab M cp) (List.replicate N 0) (List.replicate N 0)) by rw [← hw4]; exact hy3.far p3 pst_ne hgp 0 _)
   have HP4 := Lib.hid (show Blk w4 gP 29 #[.slice AX2 M cX2, .slice (some ⟨gE, 0, none⟩) N N, .slice (some ⟨gH, 0, none⟩) N N] by rw [← hw4]; exact p3.set 0 _)
   obtain ⟨w5, hw5⟩ : ∃ W, w4.setCell ⟨gH, s, none⟩ (.int .i64 (N : Int)) = W := ⟨_, rfl⟩
   have HX5 := Lib.hid (show Hx w2 w5 w2.heap.size (pstR M N N ⟨AX2, cX2, some ⟨gE, 0, none⟩, N, some ⟨gH, 0, none⟩, N⟩ (tab M cp) (List.replicate N 0) (begH N s)) by rw [← hw5]; exact HX4.out.putH s (N : Int))
   have HP5 := Lib.hid (show Blk w5 gP 29 #[.slice AX2 M cX2, .slice (some ⟨gE, 0, none⟩) N N, .slice (some ⟨gH, 0, none⟩) N N] by rw [← hw5]; exact HP4.out.far (p := ⟨gH, s, none⟩) nH _)
   clear o0 o1 o2 hzo a0 a1 a2 a3 a4 a5 a6 a7 a8 hz1
   have hcw := HC2.out.below HX4.out.bel HC2.out.lt
   obtain ⟨a0, a1, a2, a3, a4, a5, a6, a7, a8⟩ := hcw.at9
   obtain ⟨⟨o0, o1, o2⟩, ⟨o3, o4, o5⟩, hzo⟩ := p3.full3
   obtain ⟨⟨i0, i1, i2⟩, -, hzi⟩ := HP4.out.full3
   obtain ⟨hcs, hfs, hzs, -⟩ := HX4.out.cell (i := 2) (j := s) rfl hsN (lvs_at (by simp; exact hsN))
   have hz1 := hcw.lt
   clear hx3 hb3 hy3 p3 hcw HXv HPv
   try rw [Nat.zero_add]
   go_wp2_with fail
   clear hw4 hw5 o0 o1 o2 o3 o4 o5 hzo i0 i1 i2 hzi hcs hfs hzs a0 a1 a2 a3 a4 a5 a6 a7 a8 hz1 HX4 HP4 hml hmi
   go_loopw [4, 5] (fun i _ wr => ∃ k : Nat, k ≤ M ∧ i = .int .i64 k ∧ Hx w2 wr w2.heap.size (pstR M N N ⟨AX2, cX2, some ⟨gE, 0, none⟩, N, some ⟨gH, 0, none⟩, N⟩ (begX fst rv cp M s (jOf fst s k)) (begE fst hd rv cp M N s (jOf fst s k)) (begH N s)) ∧ Blk wr gP 29 #[.slice AX2 M cX2, .slice (some ⟨gE, 0, none⟩) N N, .slice (some ⟨gH, 0, none⟩) N N]) (fun i _ _ => M - (intOf i).toNat)
   case atStart => exact ⟨0, Nat.zero_le _, rfl, by rw [show jOf fst s 0 = 0 by unfold jOf; omega]; exact HX5.out, HP5.out⟩
   case round =>
     clear HX5 HP5
     obtain ⟨k, hk, rfl, hxr, hpr⟩ := hrel
     have HXr := Lib.hid hxr; have HPr := Lib.hid hpr
     have hcw := HC2.out.below hxr.bel HC2.out.lt
     obtain ⟨a0, a1, a2, a3, a4, a5, a6, a7, a8⟩ := hcw.at9
     have hz1 := hcw.lt
     clear hxr hpr hcw
     by_cases hlt : k < M
     · obtain ⟨j, hj⟩ : ∃ j, jOf fst s k = j := ⟨_, rfl⟩
       have hrow := HG.out.g.row hlt
       obtain ⟨w6, hw6⟩ : ∃ W, wr.drew = W := ⟨_, rfl⟩
       have HX6 := Lib.hid (show Hx w2 w6 w2.heap.size (pstR M N N ⟨AX2, cX2, some ⟨gE, 0, none⟩, N, some ⟨gH, 0, none⟩, N⟩ (begX fst rv cp M s j) (begE fst hd rv cp M N s j) (begH N s)) by rw [← hw6, ← hj]; exact HXr.out.drew 1)
       have HP6 := Lib.hid (show Blk w6 gP _ _ by rw [← hw6]; exact HPr.out.drew)
       have HJ := Lib.hid hj
       have htl := HTL.out k hlt
       have hut := HG.out.mN hlt
       obtain ⟨u, hu⟩ : ∃ u, hd (rv k) = u := ⟨_, rfl⟩
       rw [hu] at htl hrow hut
       have HUE := Lib.hid hu; have HTK := Lib.hid htl; have HROW := Lib.hid hrow
       have HKC := Lib.hid (show ∀ W, Below w2.heap.size w2 W → W.cell? ⟨w.heap.size, 0, none⟩ = some (.int .i64 (N : Int)) ∧ W.cell? ⟨w.heap.size, 1, none⟩ = some (.int .i64 (s : Int)) ∧ W.cell? ⟨w.heap.size, 2, none⟩ = some (.int .i64 (t : Int)) ∧ W.cell? ⟨w.heap.size, 3, none⟩ = some (.slice AF (N + 1) cF) ∧ W.cell? ⟨w.heap.size, 4, none⟩ = some (.slice AH M cH) ∧ W.cell? ⟨w.heap.size, 5, none⟩ = some (.slice AR M cR) ∧ W.cell? ⟨w.heap.size, 6, none⟩ = some (.slice AC M cC) ∧ W.cell? ⟨w.heap.size, 7, none⟩ = some (.slice AA M cA) ∧ W.cell? ⟨w.heap.size, 8, none⟩ = some (.slice AB M cB) from fun W hb => (HC2.out.below hb HC2.out.lt).at9)
       clear hj hu htl hrow
       go_wp2_with fail
       clear a0 a1 a2 a3 a4 a5 a6 a7 a8 hz1
       refine wp_region_held_drew (S := fun W' => W'.cell? ⟨w.heap.size, 0, none⟩ = some (.int .i64 (N : Int)) ∧ W'.cell? ⟨w.heap.size, 1, none⟩ = some (.int .i64 (s : Int)) ∧ W'.cell? ⟨w.heap.size, 2, none⟩ = some (.int .i64 (t : Int)) ∧ W'.cell? ⟨w.heap.size, 3, none⟩ = some (.slice AF (N + 1) cF) ∧ W'.cell? ⟨w.heap.size, 4, none⟩ = some (.slice AH M cH) ∧ W'.cell? ⟨w.heap.size, 5, none⟩ = some (.slice AR M cR) ∧ W'.cell? ⟨w.heap.size, 6, none⟩ = some (.slice AC M cC) ∧ W'.cell? ⟨w.heap.size, 7, none⟩ = some (.slice AA M cA) ∧ W'.cell? ⟨w.heap.size, 8, none⟩ = some (.slice AB M cB)) (by kernel_rfl) (by rw [hw6]; exact HKC.out _ HX6.out.bel) (fun hS0 => ?_)
       rw [hw6] at hS0 ⊢
       clear hw6 HXr HPr
       refine tk (v := ?_) 0 33 rfl ?_ ?_
       rotate_left
       · (intro W' hSw; obtain ⟨b0, b1, b2, b3, b4, b5, b6, b7, b8⟩ := hSw; go_simp; try with_reducible rfl)
       simp only [Act.put, pa, pz, ps]
       refine tk (v := ?_) 1 34 rfl ?_ ?_
       rotate_left
       · (intro W' hSw; obtain ⟨b0, b1, b2, b3, b4, b5, b6, b7, b8⟩ := hSw; go_simp; try with_reducible rfl)
       simp only [Act.put, pa, pz, ps]
       refine tk (v := ?_) 3 36 rfl ?_ ?_
       rotate_left
       · (intro W' hSw; obtain ⟨b0, b1, b2, b3, b4, b5, b6, b7, b8⟩ := hSw; go_simp; try with_reducible rfl)
       simp only [Act.put, pa, pz, ps]
       refine tk (v := ?_) 4 37 rfl ?_ ?_
       rotate_left
       · (intro W' hSw; obtain ⟨b0, b1, b2, b3, b4, b5, b6, b7, b8⟩ := hSw; go_simp; try with_reducible rfl)
       simp only [Act.put, pa, pz, ps]
       refine wpAnyH_ready (rs := [2]) (by kernel_rfl) (by simp) ?_
       refine AllReadyH.cons rfl (fun K hK => ?_) AllReadyH.nil
       go_simp
       refine (HTK.out _ (below_step HB2.out HX6.out.bel)).mono ?_
       rintro e w7 ⟨rfl, B7⟩
       have HX7 := Lib.hid (HX6.out.on B7); have HP7 := Lib.hid (HP6.out.below B7 HP6.out.lt)
       refine hK.out _ _ (HKC.out _ HX7.out.bel) (fun hS1 => ?_)
       clear hK K hS0 B7 HX6 HP6 HTK
       try simp only [Act.put, pa, pz, ps]
       by_cases hus : u = s
       · subst hus
         refine tk (v := ?_) 5 38 rfl ?_ ?_
         rotate_left
         · (intro W' hSw; obtain ⟨b0, b1, b2, b3, b4, b5, b6, b7, b8⟩ := hSw; go_simp; try with_reducible rfl)
         simp only [Act.put, pa, pz, ps]
         refine wpAnyH_done (by kernel_rfl) ?_ _
         have hje : j = k - fst u := by rw [← HJ.out]; have := HROW.out; unfold jOf; omega
         have hjk : fst u + j = k := by have := HROW.out; omega
         have hj1 : fst u + j ≤ fst (u + 1) := by have := HROW.out; omega
         have hjn : jOf fst u (k + 1) = j + 1 := by have := HROW.out; unfold jOf; omega
         have hbal := begX_bal HG.out j hj1
         have hexc := begE_exc HG.out j hj1
         have hXs : begX fst rv cp M u (j + 1) = mvX rv (begX fst rv cp M u j) k (hOf (begX fst rv cp M u j) k) := by rw [begX, hjk]
         have hEs : begE fst hd rv cp M N u (j + 1) = mvE hd rv (begE fst hd rv cp M N u j) k (hOf (begX fst rv cp M u j) k) := by rw [begE, hjk]
         have hel : (begE fst hd rv cp M N u j).length = N := begE_len j
         obtain ⟨X, hX⟩ : ∃ X, begX fst rv cp M u j = X := ⟨_, rfl⟩
         obtain ⟨E, hE⟩ : ∃ E, begE fst hd rv cp M N u j = E := ⟨_, rfl⟩
         rw [hX] at hbal hexc hXs hEs
         rw [hE] at hexc hEs hel
         have hxl := hbal.1
         have hfit := move_fit HG.out hbal hel hexc hlt (hbal.2 k hlt).1 (Int.le_refl _)
         have hx7 := HX7.out
         rw [hX, hE] at hx7
         have hra := HG.out.g.rvl k hlt
         have hne := HG.out.rne hlt
         have hv := HG.out.g.hdl k hlt
         have huv := HG.out.nol k hlt
         have hM0 : 0 < M := by omega
         obtain ⟨bR, oR, hRa⟩ := HI.out.gi.iR.adr hM0
         obtain ⟨bD, oD, hDa⟩ := HI.out.gi.iH.adr hM0
         dsimp only at hRa hDa
         have hiR := HI.out.gi.iR; have hiD := HI.out.gi.iH
         dsimp only at hiR hiD
         subst hRa; subst hDa
         obtain ⟨gX, rfl⟩ := own_some (n := M) (A := AX2) (hx7.held.own 0 _ rfl) hM0
         have nX := own_apart (n := M) (g := gX) (hx7.held.own 0 _ rfl) HP7.out (show (2 : TypeId) ≠ 29 by decide)
         have HNE := Lib.hid (And.intro nX nE)
         unfold mvX at hXs
         unfold mvE at hEs
         obtain ⟨q, hq⟩ : ∃ q, rv k = q := ⟨_, rfl⟩
         obtain ⟨v, hv'⟩ : ∃ v, hd k = v := ⟨_, rfl⟩
         obtain ⟨x, hx'⟩ : ∃ x, hOf X k = x := ⟨_, rfl⟩
         obtain ⟨y, hy'⟩ : ∃ y, hOf X (rv k) = y := ⟨_, rfl⟩
         obtain ⟨eu, heu⟩ : ∃ y, hOf E (hd (rv k)) = y := ⟨_, rfl⟩
         obtain ⟨ev, hev⟩ : ∃ y, hOf E (hd k) = y := ⟨_, rfl⟩
         have HXE := Lib.hid hx'; have HYE := Lib.hid (show hOf X q = y by rw [← hq]; exact hy')
         have HEU := Lib.hid (show hOf E u = eu by rw [← HUE.out]; exact heu); have HEV := Lib.hid (show hOf E v = ev by rw [← hv']; exact hev)
         have HQE := Lib.hid hq; have HVE := Lib.hid hv'
         rw [hx', hy', heu, hev] at hfit
         rw [hx', Int.sub_self, hy', hq] at hXs
         rw [hx', heu, hev, HUE.out, hv'] at hEs
         rw [HUE.out, hv'] at huv
         rw [hq] at hra hne
         rw [hv'] at hv
         have wr2 : IntKind.i64.wrap (y + x) = y + x := wrap_in hfit.2.1.1 (by have := hfit.2.1; unfold InR at this; omega)
         have wr3 : IntKind.i64.wrap (eu - x) = eu - x := wrap_in hfit.2.2.1.1 (by have := hfit.2.2.1; unfold InR at this; omega)
         have wr4 : IntKind.i64.wrap (ev + x) = ev + x := wrap_in hfit.2.2.2.1 (by have := hfit.2.2.2; unfold InR at this; omega)
         have HX7' := Lib.hid hx7; have HXS := Lib.hid hXs; have HES := Lib.hid hEs; have HJN := Lib.hid hjn
         have HIR := Lib.hid hiR; have HID := Lib.hid hiD
         clear hje hjk hj1 hjn hbal hexc hXs hEs hX hE hfit hx7 nX hq hv' hx' hy' heu hev hiR hiD HX7 HTL HI HJ HUE HROW HCS HNL
         -- X[k] is read, and set to 0
         obtain ⟨hck, hfk, hzk, -⟩ := HX7'.out.cell (i := 0) (j := k) rfl hlt (lvs_at (by omega))
         rw [HXE.out] at hck
         obtain ⟨w8, hw8⟩ : ∃ W, w7.setCell ⟨gX, k, none⟩ (.int .i64 0) = W := ⟨_, rfl⟩
         have HX8 := Lib.hid (show Hx w2 w8 w2.heap.size (pstR M N N ⟨some ⟨gX, 0, none⟩, cX2, some ⟨gE, 0, none⟩, N, some ⟨gH, 0, none⟩, N⟩ (X.set k 0) E (begH N u)) by rw [← hw8]; exact HX7'.out.putX k 0)
         have HP8 := Lib.hid (show Blk w8 gP 29 #[.slice (some ⟨gX, 0, none⟩) M cX2, .slice (some ⟨gE, 0, none⟩) N N, .slice (some ⟨gH, 0, none⟩) N N] by rw [← hw8]; exact HP7.out.far (p := ⟨gX, k, none⟩) HNE.out.1 _)
         obtain ⟨⟨o0, o1, o2⟩, -, hzo⟩ := HP7.out.full3
         obtain ⟨⟨i0, i1, i2⟩, -, hzi⟩ := HP8.out.full3
         clear hS1
         go_wp2_with fail
         clear hw8 o0 o1 o2 hzo i0 i1 i2 hzi hck hfk hzk
         -- the other one
         obtain ⟨hcx, hfx, hzx, -⟩ := HX8.out.cell (i := 0) (j := q) rfl hra (lvs_at (by rw [List.length_set]; omega))
         rw [hOf_put (by omega), if_neg (fun e => hne e.symm), HYE.out] at hcx
         obtain ⟨⟨o0, o1, o2⟩, -, hzo⟩ := HP8.out.full3
         have hcc := HC2.out.below HX8.out.bel HC2.out.lt
         obtain ⟨a0, a1, a2, a3, a4, a5, a6, a7, a8⟩ := hcc.at9
         have hzc := hcc.lt
         have cr := (tab_cell (HIR.out.on (below_step HB2.out HX8.out.bel)) hlt).2
         have hbR := (tab_cell (HIR.out.on (below_step HB2.out HX8.out.bel)) hlt).1
         have cd := (tab_cell (HID.out.on (below_step HB2.out HX8.out.bel)) hlt).2
         have hbD := (tab_cell (HID.out.on (below_step HB2.out HX8.out.bel)) hlt).1
         rw [HQE.out] at cr
         rw [HVE.out] at cd
         clear hcc
         obtain ⟨w9, hw9⟩ : ∃ W, w8.drew.setCell ⟨gX, q, none⟩ (.int .i64 (y + x)) = W := ⟨_, rfl⟩
         have HX9 := Lib.hid (show Hx w2 w9 w2.heap.size (pstR M N N ⟨some ⟨gX, 0, none⟩, cX2, some ⟨gE, 0, none⟩, N, some ⟨gH, 0, none⟩, N⟩ ((X.set k 0).set q (y + x)) E (begH N u)) by rw [← hw9]; exact (HX8.out.drew 1).putX q (y + x))
         have HP9 := Lib.hid (show Blk w9 gP 29 #[.slice (some ⟨gX, 0, none⟩) M cX2, .slice (some ⟨gE, 0, none⟩) N N, .slice (some ⟨gH, 0, none⟩) N N] by rw [← hw9]; exact HP8.out.drew.far (p := ⟨gX, q, none⟩) HNE.out.1 _)
         refine wp_region_lastL (S := fun W' => W'.cell? ⟨gP, 0, none⟩ = some (.slice (some ⟨gX, 0, none⟩) M cX2) ∧ W'.cell? ⟨w.heap.size, 5, none⟩ = some (.slice (some ⟨bR, oR, none⟩) M cR) ∧ W'.cell? ⟨bR, oR + k, none⟩ = some (.int .i64 (q : Int)) ∧ W'.cell? ⟨gX, q, none⟩ = some (.int .i64 y)) rfl (by kernel_rfl) (by kernel_rfl) ⟨o0, a5, cr, hcx⟩ (fun hS0 => ?_)
         simp only [List.dropLast]
         refine tk (v := ?_) 0 48 rfl ?_ ?_
         rotate_left
         · (intro W' hSw; obtain ⟨t0, t1, t2, t3⟩ := hSw; go_simp; try with_reducible rfl)
         simp only [Act.put, pa, pz, ps]
         refine tk (v := ?_) 1 49 rfl ?_ ?_
         rotate_left
         · (intro W' hSw; obtain ⟨t0, t1, t2, t3⟩ := hSw; go_simp; try with_reducible rfl)
         simp only [Act.put, pa, pz, ps]
         refine tk (v := ?_) 2 50 rfl ?_ ?_
         rotate_left
         · (intro W' hSw; obtain ⟨t0, t1, t2, t3⟩ := hSw; go_simp; try with_reducible rfl)
         simp only [Act.put, pa, pz, ps]
         refine tk (v := ?_) 3 51 rfl ?_ ?_
         rotate_left
         · (intro W' hSw; obtain ⟨t0, t1, t2, t3⟩ := hSw; go_simp; try with_reducible rfl)
         simp only [Act.put, pa, pz, ps]
         refine tk (v := ?_) 4 52 rfl ?_ ?_
         rotate_left
         · (intro W' hSw; obtain ⟨t0, t1, t2, t3⟩ := hSw; go_simp; try with_reducible rfl)
         simp only [Act.put, pa, pz, ps]
         refine tk (v := ?_) 5 53 rfl ?_ ?_
         rotate_left
         · (intro W' hSw; obtain ⟨t0, t1, t2, t3⟩ := hSw; go_simp; try with_reducible rfl)
         simp only [Act.put, pa, pz, ps]
         refine tk (v := ?_) 6 54 rfl ?_ ?_
         rotate_left
         · (intro W' hSw; obtain ⟨t0, t1, t2, t3⟩ := hSw; go_simp; try with_reducible rfl)
         simp only [Act.put, pa, pz, ps]
         refine tk (v := ?_) 7 55 rfl ?_ ?_
         rotate_left
         · (intro W' hSw; obtain ⟨t0, t1, t2, t3⟩ := hSw; go_simp; try with_reducible rfl)
         simp only [Act.put, pa, pz, ps]
         refine tk (v := ?_) 8 56 rfl ?_ ?_
         rotate_left
         · (intro W' hSw; obtain ⟨t0, t1, t2, t3⟩ := hSw; go_simp; try with_reducible rfl)
         simp only [Act.put, pa, pz, ps]
         refine tk (v := ?_) 9 57 rfl ?_ ?_
         rotate_left
         · (intro W' hSw; obtain ⟨t0, t1, t2, t3⟩ := hSw; go_simp; try with_reducible rfl)
         simp only [Act.put, pa, pz, ps]
         refine tk (v := ?_) 10 58 rfl ?_ ?_
         rotate_left
         · (intro W' hSw; obtain ⟨t0, t1, t2, t3⟩ := hSw; go_simp; try with_reducible rfl)
         simp only [Act.put, pa, pz, ps]
         refine tk (v := ?_) 11 59 rfl ?_ ?_
         rotate_left
         · (intro W' hSw; obtain ⟨t0, t1, t2, t3⟩ := hSw; go_simp; try with_reducible rfl)
         simp only [Act.put, pa, pz, ps]
         refine tk (v := ?_) 12 60 rfl ?_ ?_
         rotate_left
         · (intro W' hSw; obtain ⟨t0, t1, t2, t3⟩ := hSw; go_simp; try with_reducible rfl)
         simp only [Act.put, pa, pz, ps]
         refine tk (v := ?_) 13 61 rfl ?_ ?_
         rotate_left
         · (intro W' hSw; obtain ⟨t0, t1, t2, t3⟩ := hSw; go_simp; try with_reducible rfl)
         simp only [Act.put, pa, pz, ps]
         refine tk (v := ?_) 14 62 rfl ?_ ?_
         rotate_left
         · (intro W' hSw; obtain ⟨t0, t1, t2, t3⟩ := hSw; go_simp; try with_reducible rfl)
         simp only [Act.put, pa, pz, ps]
         refine tk (v := ?_) 15 63 rfl ?_ ?_
         rotate_left
         · (intro W' hSw; obtain ⟨t0, t1, t2, t3⟩ := hSw; go_simp; try with_reducible rfl)
         simp only [Act.put, pa, pz, ps]
         refine tk (v := ?_) 16 64 rfl ?_ ?_
         rotate_left
         · (intro W' hSw; obtain ⟨t0, t1, t2, t3⟩ := hSw; go_simp; try with_reducible rfl)
         simp only [Act.put, pa, pz, ps]
         refine tk (v := ?_) 17 65 rfl ?_ ?_
         rotate_left
         · (intro W' hSw; obtain ⟨t0, t1, t2, t3⟩ := hSw; go_simp; try with_reducible rfl)
         simp only [Act.put, pa, pz, ps]
         refine tk (v := ?_) 18 66 rfl ?_ ?_
         rotate_left
         · (intro W' hSw; obtain ⟨t0, t1, t2, t3⟩ := hSw; go_simp; try with_reducible rfl)
         simp only [Act.put, pa, pz, ps]
         refine wpAnyH_done (by kernel_rfl) ?_ _
         clear hS0
         go_wp2_with fail
         clear hw9
         clear o0 o1 o2 hzo a0 a1 a2 a3 a4 a5 a6 a7 a8 hzc cr cd hbR hbD hcx hfx hzx
         obtain ⟨hcx, hfx, hzx, -⟩ := HX9.out.cell (i := 1) (j := u) rfl hsN (lvs_at (by omega))
         rw [HEU.out] at hcx
         obtain ⟨⟨o0, o1, o2⟩, -, hzo⟩ := HP9.out.full3
         have hcc := HC2.out.below HX9.out.bel HC2.out.lt
         obtain ⟨a0, a1, a2, a3, a4, a5, a6, a7, a8⟩ := hcc.at9
         have hzc := hcc.lt
         have cr := (tab_cell (HIR.out.on (below_step HB2.out HX9.out.bel)) hlt).2
         have hbR := (tab_cell (HIR.out.on (below_step HB2.out HX9.out.bel)) hlt).1
         have cd := (tab_cell (HID.out.on (below_step HB2.out HX9.out.bel)) hlt).2
         have hbD := (tab_cell (HID.out.on (below_step HB2.out HX9.out.bel)) hlt).1
         rw [HQE.out] at cr
         rw [HVE.out] at cd
         clear hcc
         obtain ⟨w10, hw10⟩ : ∃ W, w9.drew.setCell ⟨gE, u, none⟩ (.int .i64 (eu - x)) = W := ⟨_, rfl⟩
         have HX10 := Lib.hid (show Hx w2 w10 w2.heap.size (pstR M N N ⟨some ⟨gX, 0, none⟩, cX2, some ⟨gE, 0, none⟩, N, some ⟨gH, 0, none⟩, N⟩ ((X.set k 0).set q (y + x)) (E.set u (eu - x)) (begH N u)) by rw [← hw10]; exact (HX9.out.drew 1).putE u (eu - x))
         have HP10 := Lib.hid (show Blk w10 gP 29 #[.slice (some ⟨gX, 0, none⟩) M cX2, .slice (some ⟨gE, 0, none⟩) N N, .slice (some ⟨gH, 0, none⟩) N N] by rw [← hw10]; exact HP9.out.drew.far (p := ⟨gE, u, none⟩) HNE.out.2 _)
         refine wp_region_lastL (S := fun W' => W'.cell? ⟨gP, 1, none⟩ = some (.slice (some ⟨gE, 0, none⟩) N N) ∧ W'.cell? ⟨w.heap.size, 1, none⟩ = some (.int .i64 (u : Int)) ∧ W'.cell? ⟨gE, u, none⟩ = some (.int .i64 eu)) rfl (by kernel_rfl) (by kernel_rfl) ⟨o1, a1, hcx⟩ (fun hS0 => ?_)
         simp only [List.dropLast]
         refine tk (v := ?_) 0 67 rfl ?_ ?_
         rotate_left
         · (intro W' hSw; obtain ⟨t0, t1, t2⟩ := hSw; go_simp; try with_reducible rfl)
         simp only [Act.put, pa, pz, ps]
         refine tk (v := ?_) 1 68 rfl ?_ ?_
         rotate_left
         · (intro W' hSw; obtain ⟨t0, t1, t2⟩ := hSw; go_simp; try with_reducible rfl)
         simp only [Act.put, pa, pz, ps]
         refine tk (v := ?_) 2 69 rfl ?_ ?_
         rotate_left
         · (intro W' hSw; obtain ⟨t0, t1, t2⟩ := hSw; go_simp; try with_reducible rfl)
         simp only [Act.put, pa, pz, ps]
         refine tk (v := ?_) 3 70 rfl ?_ ?_
         rotate_left
         · (intro W' hSw; obtain ⟨t0, t1, t2⟩ := hSw; go_simp; try with_reducible rfl)
         simp only [Act.put, pa, pz, ps]
         refine tk (v := ?_) 4 71 rfl ?_ ?_
         rotate_left
         · (intro W' hSw; obtain ⟨t0, t1, t2⟩ := hSw; go_simp; try with_reducible rfl)
         simp only [Act.put, pa, pz, ps]
         refine tk (v := ?_) 5 72 rfl ?_ ?_
         rotate_left
         · (intro W' hSw; obtain ⟨t0, t1, t2⟩ := hSw; go_simp; try with_reducible rfl)
         simp only [Act.put, pa, pz, ps]
         refine tk (v := ?_) 6 73 rfl ?_ ?_
         rotate_left
         · (intro W' hSw; obtain ⟨t0, t1, t2⟩ := hSw; go_simp; try with_reducible rfl)
         simp only [Act.put, pa, pz, ps]
         refine tk (v := ?_) 7 74 rfl ?_ ?_
         rotate_left
         · (intro W' hSw; obtain ⟨t0, t1, t2⟩ := hSw; go_simp; try with_reducible rfl)
         simp only [Act.put, pa, pz, ps]
         refine tk (v := ?_) 8 75 rfl ?_ ?_
         rotate_left
         · (intro W' hSw; obtain ⟨t0, t1, t2⟩ := hSw; go_simp; try with_reducible rfl)
         simp only [Act.put, pa, pz, ps]
         refine tk (v := ?_) 9 76 rfl ?_ ?_
         rotate_left
         · (intro W' hSw; obtain ⟨t0, t1, t2⟩ := hSw; go_simp; try with_reducible rfl)
         simp only [Act.put, pa, pz, ps]
         refine tk (v := ?_) 10 77 rfl ?_ ?_
         rotate_left
         · (intro W' hSw; obtain ⟨t0, t1, t2⟩ := hSw; go_simp; try with_reducible rfl)
         simp only [Act.put, pa, pz, ps]
         refine tk (v := ?_) 11 78 rfl ?_ ?_
         rotate_left
         · (intro W' hSw; obtain ⟨t0, t1, t2⟩ := hSw; go_simp; try with_reducible rfl)
         simp only [Act.put, pa, pz, ps]
         refine tk (v := ?_) 12 79 rfl ?_ ?_
         rotate_left
         · (intro W' hSw; obtain ⟨t0, t1, t2⟩ := hSw; go_simp; try with_reducible rfl)
         simp only [Act.put, pa, pz, ps]
         refine wpAnyH_done (by kernel_rfl) ?_ _
         clear hS0
         go_wp2_with fail
         clear hw10
         clear o0 o1 o2 hzo a0 a1 a2 a3 a4 a5 a6 a7 a8 hzc cr cd hbR hbD hcx hfx hzx
         obtain ⟨hcx, hfx, hzx, -⟩ := HX10.out.cell (i := 1) (j := v) rfl hv (lvs_at (by rw [List.length_set]; omega))
         rw [hOf_put (by omega), if_neg huv, HEV.out] at hcx
         obtain ⟨⟨o0, o1, o2⟩, -, hzo⟩ := HP10.out.full3
         have hcc := HC2.out.below HX10.out.bel HC2.out.lt
         obtain ⟨a0, a1, a2, a3, a4, a5, a6, a7, a8⟩ := hcc.at9
         have hzc := hcc.lt
         have cr := (tab_cell (HIR.out.on (below_step HB2.out HX10.out.bel)) hlt).2
         have hbR := (tab_cell (HIR.out.on (below_step HB2.out HX10.out.bel)) hlt).1
         have cd := (tab_cell (HID.out.on (below_step HB2.out HX10.out.bel)) hlt).2
         have hbD := (tab_cell (HID.out.on (below_step HB2.out HX10.out.bel)) hlt).1
         rw [HQE.out] at cr
         rw [HVE.out] at cd
         clear hcc
         obtain ⟨w11, hw11⟩ : ∃ W, w10.drew.setCell ⟨gE, v, none⟩ (.int .i64 (ev + x)) = W := ⟨_, rfl⟩
         have HX11 := Lib.hid (show Hx w2 w11 w2.heap.size (pstR M N N ⟨some ⟨gX, 0, none⟩, cX2, some ⟨gE, 0, none⟩, N, some ⟨gH, 0, none⟩, N⟩ ((X.set k 0).set q (y + x)) ((E.set u (eu - x)).set v (ev + x)) (begH N u)) by rw [← hw11]; exact (HX10.out.drew 1).putE v (ev + x))
         have HP11 := Lib.hid (show Blk w11 gP 29 #[.slice (some ⟨gX, 0, none⟩) M cX2, .slice (some ⟨gE, 0, none⟩) N N, .slice (some ⟨gH, 0, none⟩) N N] by rw [← hw11]; exact HP10.out.drew.far (p := ⟨gE, v, none⟩) HNE.out.2 _)
         refine wp_region_lastL (S := fun W' => W'.cell? ⟨gP, 1, none⟩ = some (.slice (some ⟨gE, 0, none⟩) N N) ∧ W'.cell? ⟨w.heap.size, 4, none⟩ = some (.slice (some ⟨bD, oD, none⟩) M cH) ∧ W'.cell? ⟨bD, oD + k, none⟩ = some (.int .i64 (v : Int)) ∧ W'.cell? ⟨gE, v, none⟩ = some (.int .i64 ev)) rfl (by kernel_rfl) (by kernel_rfl) ⟨o1, a4, cd, hcx⟩ (fun hS0 => ?_)
         simp only [List.dropLast]
         refine tk (v := ?_) 0 80 rfl ?_ ?_
         rotate_left
         · (intro W' hSw; obtain ⟨t0, t1, t2, t3⟩ := hSw; go_simp; try with_reducible rfl)
         simp only [Act.put, pa, pz, ps]
         refine tk (v := ?_) 1 81 rfl ?_ ?_
         rotate_left
         · (intro W' hSw; obtain ⟨t0, t1, t2, t3⟩ := hSw; go_simp; try with_reducible rfl)
         simp only [Act.put, pa, pz, ps]
         refine tk (v := ?_) 2 82 rfl ?_ ?_
         rotate_left
         · (intro W' hSw; obtain ⟨t0, t1, t2, t3⟩ := hSw; go_simp; try with_reducible rfl)
         simp only [Act.put, pa, pz, ps]
         refine tk (v := ?_) 3 83 rfl ?_ ?_
         rotate_left
         · (intro W' hSw; obtain ⟨t0, t1, t2, t3⟩ := hSw; go_simp; try with_reducible rfl)
         simp only [Act.put, pa, pz, ps]
         refine tk (v := ?_) 4 84 rfl ?_ ?_
         rotate_left
         · (intro W' hSw; obtain ⟨t0, t1, t2, t3⟩ := hSw; go_simp; try with_reducible rfl)
         simp only [Act.put, pa, pz, ps]
         refine tk (v := ?_) 5 85 rfl ?_ ?_
         rotate_left
         · (intro W' hSw; obtain ⟨t0, t1, t2, t3⟩ := hSw; go_simp; try with_reducible rfl)
         simp only [Act.put, pa, pz, ps]
         refine tk (v := ?_) 6 86 rfl ?_ ?_
         rotate_left
         · (intro W' hSw; obtain ⟨t0, t1, t2, t3⟩ := hSw; go_simp; try with_reducible rfl)
         simp only [Act.put, pa, pz, ps]
         refine tk (v := ?_) 7 87 rfl ?_ ?_
         rotate_left
         · (intro W' hSw; obtain ⟨t0, t1, t2, t3⟩ := hSw; go_simp; try with_reducible rfl)
         simp only [Act.put, pa, pz, ps]
         refine tk (v := ?_) 8 88 rfl ?_ ?_
         rotate_left
         · (intro W' hSw; obtain ⟨t0, t1, t2, t3⟩ := hSw; go_simp; try with_reducible rfl)
         simp only [Act.put, pa, pz, ps]
         refine tk (v := ?_) 9 89 rfl ?_ ?_
         rotate_left
         · (intro W' hSw; obtain ⟨t0, t1, t2, t3⟩ := hSw; go_simp; try with_reducible rfl)
         simp only [Act.put, pa, pz, ps]
         refine tk (v := ?_) 10 90 rfl ?_ ?_
         rotate_left
         · (intro W' hSw; obtain ⟨t0, t1, t2, t3⟩ := hSw; go_simp; try with_reducible rfl)
         simp only [Act.put, pa, pz, ps]
         refine tk (v := ?_) 11 91 rfl ?_ ?_
         rotate_left
         · (intro W' hSw; obtain ⟨t0, t1, t2, t3⟩ := hSw; go_simp; try with_reducible rfl)
         simp only [Act.put, pa, pz, ps]
         refine tk (v := ?_) 12 92 rfl ?_ ?_
         rotate_left
         · (intro W' hSw; obtain ⟨t0, t1, t2, t3⟩ := hSw; go_simp; try with_reducible rfl)
         simp only [Act.put, pa, pz, ps]
         refine tk (v := ?_) 13 93 rfl ?_ ?_
         rotate_left
         · (intro W' hSw; obtain ⟨t0, t1, t2, t3⟩ := hSw; go_simp; try with_reducible rfl)
         simp only [Act.put, pa, pz, ps]
         refine tk (v := ?_) 14 94 rfl ?_ ?_
         rotate_left
         · (intro W' hSw; obtain ⟨t0, t1, t2, t3⟩ := hSw; go_simp; try with_reducible rfl)
         simp only [Act.put, pa, pz, ps]
         refine tk (v := ?_) 15 95 rfl ?_ ?_
         rotate_left
         · (intro W' hSw; obtain ⟨t0, t1, t2, t3⟩ := hSw; go_simp; try with_reducible rfl)
         simp only [Act.put, pa, pz, ps]
         refine tk (v := ?_) 16 96 rfl ?_ ?_
         rotate_left
         · (intro W' hSw; obtain ⟨t0, t1, t2, t3⟩ := hSw; go_simp; try with_reducible rfl)
         simp only [Act.put, pa, pz, ps]
         refine tk (v := ?_) 17 97 rfl ?_ ?_
         rotate_left
         · (intro W' hSw; obtain ⟨t0, t1, t2, t3⟩ := hSw; go_simp; try with_reducible rfl)
         simp only [Act.put, pa, pz, ps]
         refine tk (v := ?_) 18 98 rfl ?_ ?_
         rotate_left
         · (intro W' hSw; obtain ⟨t0, t1, t2, t3⟩ := hSw; go_simp; try with_reducible rfl)
         simp only [Act.put, pa, pz, ps]
         refine wpAnyH_done (by kernel_rfl) ?_ _
         clear hS0
         go_wp2_with fail
         refine ⟨⟨k + 1, by omega, by go_num, ?_, HP11.out⟩, ?_⟩
         · rw [HJN.out, HXS.out, HES.out]; exact HX11.out
         · simp [intOf]; omega
       · have hu1 : ¬ (u : Int) = (s : Int) := by omega
         have hub : ((u : Int) != (s : Int)) = true := by simpa using hu1
         refine tk (v := ?_) 5 38 rfl ?_ ?_
         rotate_left
         · (intro W' hSw; obtain ⟨b0, b1, b2, b3, b4, b5, b6, b7, b8⟩ := hSw; go_simp; try with_reducible rfl)
         simp only [Act.put, pa, pz, ps]
         refine wpAnyH_done (by kernel_rfl) ?_ _
         have hjn : jOf fst s (k + 1) = j := by
           rw [← HJ.out]
           have h1 := HROW.out
           have h2 : k < fst s ∨ fst (s + 1) ≤ k := by
             rcases Nat.lt_or_gt_of_ne hus with h | h
             · have := HG.out.g.monoN (i := u + 1) (j := s) (by omega) (by omega)
               exact .inl (by omega)
             · have := HG.out.g.monoN (i := s + 1) (j := u) (by omega) (by omega)
               exact .inr (by omega)
           unfold jOf
           omega
         have HJN := Lib.hid hjn
         clear hjn hS1
         go_wp2_with fail
         refine ⟨⟨k + 1, by omega, by go_num, ?_, HP7.out⟩, ?_⟩
         · rw [HJN.out]; exact HX7.out
         · simp [intOf]; omega
     · have hje : jOf fst s k = fst (s + 1) - fst s := by unfold jOf; omega
       have hxe := HXr.out
       rw [hje] at hxe
       have HXe := Lib.hid hxe
       have HRr := Lib.hid (HR2.out.below HXr.out.bel HR2.out.lt)
       obtain ⟨⟨o0, o1, o2⟩, -, hzo⟩ := HPr.out.full3
       obtain ⟨⟨r0, r1, r2⟩, ⟨s0, s1, s2⟩, hzr⟩ := HRr.out.full3
       have hzb := HB2.out.size
       have hzl := HR2.out.lt
       clear hje hxe
       go_wp2_with fail
       have K9 := HRr.out.put3 (x := .slice AX2 M cX2) (y := .slice (some ⟨gE, 0, none⟩) N N) (z := .slice (some ⟨gH, 0, none⟩) N N)
       have X9 := (HXe.out.low hzb HB2.out).put3 (x := .slice AX2 M cX2) (y := .slice (some ⟨gE, 0, none⟩) N N) (z := .slice (some ⟨gH, 0, none⟩) N N) HRr.out pst_ne (by omega)
       clear o0 o1 o2 r0 r1 r2 s0 s1 s2
       obtain ⟨⟨q0, q1, q2⟩, -, -⟩ := K9.full3
       dsimp only [put3] at q0 q1 q2 X9
       refine bodyPost_ret (v := .agg #[.slice AX2 M cX2, .slice (some ⟨gE, 0, none⟩) N N, .slice (some ⟨gH, 0, none⟩) N N]) (by simp [results, Try.results12, go_sem, q0, q1, q2]) rfl ⟨⟨AX2, cX2, some ⟨gE, 0, none⟩, N, some ⟨gH, 0, none⟩, N⟩, rfl, X9⟩

end Go.Proofs.Ytgjokddcaadjdaa
