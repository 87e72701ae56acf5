/- NetFirst: the walk. -/
import Derived.Test.YtfdidjgecdhaiaaTurns
import Derived.Test.YtfdidjgecdhaiaaFirstp
import Derived.Test.YtfdidjgecdhaiaaLaws2
import Derived.Deep.DeepCutAuto
namespace Go.Proofs.Ytfdidjgecdhaiaa
open Go.RowKit Go.Maps

set_option maxHeartbeats 400000 in
theorem among_any (x n : Int) (w : World) (h1 : 1 ≤ n) (h2 : n ≤ 1000000) :
    Calls Try.prog 11 #[.int .i64 x, .int .i64 n] w fun e w' => e = .returned (.int .i64 (amongF x n)) ∧ w = w' := by
  have b1 : -n < x.tmod n := by
    have := Int.lt_tmod_of_pos x (show 0 < n by omega)
    omega
  have b2 : x.tmod n < n := Int.tmod_lt_of_pos x (by omega)
  have hn0 : (n == 0) = false := by simp; omega
  go_enter Try.func11, Try.ntmps11
  go_wp2
  go_ret
  exact ⟨rfl, rfl⟩

theorem among_is {x n v : Int} {w : World} (h1 : 1 ≤ n) (h2 : n ≤ 1000000) (hv : amongF x n = v) :
    Calls Try.prog 11 #[.int .i64 x, .int .i64 n] w fun e w' => e = .returned (.int .i64 v) ∧ w = w' := by
  subst hv
  exact among_any x n w h1 h2

set_option maxRecDepth 100000 in
set_option maxHeartbeats 4000000 in
theorem first_walk (N S T : Int) (A : Option Addr) (n c : Nat) (l : List ArcN) (w : World) (hA : Arcs w w.heap.size A n l) (hn : n ≤ 300) (hf : FitsAll l) (hN : InR N) :
    Calls Try.prog 3 #[.agg #[.int .i64 N, .int .i64 S, .int .i64 T, .slice A n c]] w fun e w' => e = .returned (.bool true) ∧ Below w.heap.size w w' := by
  have hn' : ¬ (300 : Int) < n := by omega
  go_enter Try.func3, Try.ntmps3
  go_wp2_with fail
  refine (copy_any _ _ _ _ _ _ l _ (hA.onAlloc _) (by omega)).mono ?_
  rintro e w1 ⟨A1, n1, c1, rfl, o1, l1, B1⟩
  obtain rfl : n = n1 := hA.len.symm.trans l1
  have B01 := below_step (below_alloc _) B1
  have z1 : w.heap.size < w1.heap.size := by have := B1.size; simp at this; omega
  have o1' := own_less (base' := w.heap.size + 1) o1 (by simp)
  clear o1 l1 B1
  go_wp2_with fail
  go_loopw [4, 19] (fun la i wr => ∃ (k : Nat) (last M P Q : Int) (L : List ArcN), i = .int .i64 k ∧ la = .int .i64 last ∧ FirstInv n k last M P Q L ∧ Below w.heap.size w wr ∧ Blk wr w1.heap.size 24 #[.int .i64 M, .int .i64 P, .int .i64 Q, .slice A1 n c1] ∧ wr.ownsRow (w.heap.size + 1) 31 3 (.slice A1 n c1) n (L.flatMap arcCells)) (fun _ i _ => 7 - (intOf i).toNat)
  case atStart =>
    exact ⟨0, 0, N, S, T, l, rfl, rfl, ⟨hA.len, hf, hN, fun j _ h => absurd h (by omega), .inl ⟨rfl, rfl⟩⟩, B01.alloc B01.size _, Blk.new rfl, o1'.alloc _⟩
  case round =>
    obtain ⟨k, last, M, P, Q, L, rfl, rfl, I, hb, K, ho⟩ := hrel
    have HO := Lib.hid ho; clear ho
    obtain ⟨m0, m1, m2, m3⟩ := K.at4
    have zg : w1.heap.size < wr.heap.size := K.lt
    have hk7 : k < 7 := by rcases I.count with ⟨_, h⟩ | ⟨_, h1, h2⟩ <;> omega
    have hl0 : 0 ≤ last ∧ last ≤ 15 := by rcases I.count with ⟨h, _⟩ | ⟨h1, h2, _⟩ <;> omega
    obtain ⟨hl0, hl1⟩ := hl0
    have aL := arcs_own HO.out I.len
    by_cases hc : checkF M P Q L = 0
    · go_wp2_with fail
      refine (check_is _ aL (by omega) hc).mono ?_
      rintro e w2 ⟨rfl, B2⟩
      go_wp2_with fail
      refine (awake_any _).mono ?_
      rintro e w3 ⟨rfl, B3⟩
      go_wp2_with fail
      go_ret
      exact ⟨rfl, below_step (below_step hb B2) B3⟩
    · obtain ⟨j, hj, he, hj1, hlt, hp⟩ := I.rises hn hc
      have hj' : j = 0 ∨ j = 2 ∨ j = 3 ∨ j = 4 ∨ j = 5 := by omega
      have HP := Lib.hid hp; have HE := Lib.hid he; clear hp he hc
      go_wp2_with fail
      refine (check_is _ aL (by omega) HE.out).mono ?_
      rintro e w2 ⟨rfl, B2⟩
      have K2 := K.below B2 K.lt
      have B02 := below_step hb B2
      have O2 : w2.ownsRow (w.heap.size + 1) 31 3 (.slice A1 n c1) n (L.flatMap arcCells) := HO.out.kept (⟨B2.os, B2.tape, B2.output, B2.size, fun i hi _ => B2.block i hi⟩ : wr.grownBy w2 none) (by cases A1 <;> simp [Value.ownBlock])
      have HO2 := Lib.hid O2
      clear O2 HO aL B2 K m0 m1 m2 m3 zg hb
      obtain ⟨m0, m1, m2, m3⟩ := K2.at4
      obtain ⟨f0, f1, f2, f3⟩ := K2.free4
      have zg : w1.heap.size < w2.heap.size := K2.lt
      rcases hj' with rfl | rfl | rfl | rfl | rfl
      · have ab := amongF_bd (x := M) (n := 4000) (by omega)
        obtain ⟨ab0, ab1⟩ := ab
        go_wp2_with fail
        refine (among_is (by omega) (by omega) rfl).mono ?_
        rintro e w3 ⟨rfl, rfl⟩
        go_wp2_with fail
        go_roundw
        case rel =>
          refine ⟨k + 1, _, 2 + amongF M 4000, P, Q, L, by go_num, rfl, ?_, B02.setCell (by simp; omega) _, ?_, own_far HO2.out (own_ne HO2.out K2 (by decide)) _⟩
          · exact I.next (j := 0) (by omega) hlt I.len I.fits ⟨by omega, by omega⟩ (fun i hi => by have e : i = 0 := (by omega); subst e; exact fix10_ok M P Q L)
          · have := K2.set 0 (.int .i64 (2 + amongF M 4000))
            simpa using this
        case measure => simp [intOf]; omega
      · go_wp2_with fail
        go_roundw
        case rel =>
          have hne := own_ne HO2.out K2 (by decide)
          refine ⟨k + 1, _, M, 0, 1, L, by go_num, rfl, ?_, (B02.setCell (by simp; omega) _).setCell (by simp; omega) _, ?_, own_far (own_far HO2.out hne _) hne _⟩
          · exact I.next (j := 2) (by omega) hlt I.len I.fits I.inN (fix12_ok HP.out)
          · have := (K2.set 1 (.int .i64 0)).set 2 (.int .i64 1)
            simpa using this
        case measure => simp [intOf]; omega
      · have hv0 : 2 ≤ M ∧ M ≤ 4096 := by have := HP.out 0 (by omega); simpa [condB, vertsB] using this
        obtain ⟨hv1, hv2⟩ := hv0
        have HQ := Lib.hid (I.next (j := 3) (by omega) hlt (l' := L.map (fixEnds M)) (by simpa using I.len) (fits13 (by omega) (by omega) I.fits) I.inN (fix13_ok HP.out))
        go_wp2_with fail
        go_loopw [6, 7, 55] (fun _ _ i wi => ∃ q : Nat, q ≤ n ∧ i = .int .i64 q ∧ Below w.heap.size w wi ∧ Blk wi w1.heap.size 24 #[.int .i64 M, .int .i64 P, .int .i64 Q, .slice A1 n c1] ∧ wi.ownsRow (w.heap.size + 1) 31 3 (.slice A1 n c1) n ((mapTo (fixEnds M) L q).flatMap arcCells)) (fun _ _ i _ => n - (intOf i).toNat)
        case atStart => exact ⟨0, Nat.zero_le _, rfl, B02, K2, by rw [mapTo_zero]; exact HO2.out⟩
        case round =>
          obtain ⟨q, hq, rfl, hbi, Ki, hoi⟩ := hrel
          have HOI := Lib.hid hoi; clear hoi
          clear m0 m1 m2 m3 f0 f1 f2 f3 zg
          obtain ⟨m0, m1, m2, m3⟩ := Ki.at4
          have zg : w1.heap.size < wr.heap.size := Ki.lt
          by_cases hqn : q < n
          · obtain ⟨g, rfl, hg1, hg2⟩ := own_form HOI.out (by omega)
            obtain ⟨a, ha, x0, x1, x2, e0, e1, e2⟩ := own_cells3 HOI.out ((mapTo_len _ _ _).trans I.len) hqn
            have hne := own_ne HOI.out Ki (by decide) g rfl
            have HAQ := Lib.hid ha
            have hla : L[q]? = some a := by rw [← mapTo_get (fixEnds M) (by rw [I.len]; exact hqn)]; exact ha
            have HLA := Lib.hid hla
            clear ha hla
            have hne' := Ne.symm hne
            have hgw : ¬ g = wr.heap.size := by omega
            have hgw' : ¬ wr.heap.size = g := by omega
            have hmw : ¬ w1.heap.size = wr.heap.size := by omega
            have hq0 : (0 : Int) ≤ (q : Int) := by omega
            have hq1 : (q : Int) < (n : Int) := by omega
            go_upto_region 22 with fail
            generalize hwa : wr.alloc (.cells #[.int .i64 a.frm, .int .i64 a.to, .int .i64 a.cap] 31) = wa
            have Ka : Blk wa w1.heap.size 24 #[.int .i64 M, .int .i64 P, .int .i64 Q, .slice (some ⟨g, 0, none⟩) n c1] := by rw [← hwa]; exact Ki.alloc _
            have Va : Blk wa wr.heap.size 31 #[.int .i64 a.frm, .int .i64 a.to, .int .i64 a.cap] := by rw [← hwa]; exact Blk.new rfl
            have Oa : wa.ownsRow (w.heap.size + 1) 31 3 (.slice (some ⟨g, 0, none⟩) n c1) n ((mapTo (fixEnds M) L q).flatMap arcCells) := by rw [← hwa]; exact HOI.out.alloc _
            have Ba : Below w.heap.size w wa := by rw [← hwa]; exact hbi.alloc hbi.size _
            have HOA := Lib.hid Oa
            clear hwa x0 x1 x2 e0 e1 e2 m0 m1 m2 m3
            obtain ⟨m0, m1, m2, m3⟩ := Ka.at4
            have v0 := Va.cell 0; have v1 := Va.cell 1
            simp only [List.getElem?_toArray, List.getElem?_cons_zero, List.getElem?_cons_succ] at v0 v1
            obtain ⟨a', ha', x0, x1, x2, e0, e1, e2⟩ := own_cells3 Oa ((mapTo_len _ _ _).trans I.len) hqn
            clear Oa ha'
            go_region_held3 (fun W => W.cell? ⟨w1.heap.size, 0, none⟩ = some (.int .i64 M) ∧ W.cell? ⟨w1.heap.size, 3, none⟩ = some (.slice (some ⟨g, 0, none⟩) n c1) ∧ W.cell? ⟨wr.heap.size, 0, none⟩ = some (.int .i64 a.frm) ∧ W.cell? ⟨wr.heap.size, 1, none⟩ = some (.int .i64 a.to)) (go_keep)
              (first
                | (go_at_call 11; ((with_reducible refine (among_is (by omega) (by omega) rfl).mono ?_); rintro e W4 ⟨rfl, rfl⟩)))
            all_goals
              go_wp2_with fail
              go_roundw
              case rel =>
                refine ⟨q + 1, by omega, by go_num, ((Ba.setCell (by simp; omega) _).setCell (by simp; omega) _).drew, ((Ka.far hne' _).far hne' _).drew, ?_⟩
                rw [← mapTo_set (fixEnds M) HLA.out]
                first | exact own_setEnds HOA.out HAQ.out _ _ | exact own_setEnds' HOA.out HAQ.out _ _
              case measure => simp [intOf]; omega
          · go_wp2_with fail
            go_roundw
            case rel =>
              have hfin := HOI.out
              rw [mapTo_end (fixEnds M) L I.len hqn] at hfin
              exact ⟨k + 1, _, M, P, Q, L.map (fixEnds M), by go_num, rfl, HQ.out, hbi, Ki, hfin⟩
            case measure => simp [intOf]; omega
      · have HQ := Lib.hid (I.next (j := 4) (by omega) hlt (l' := L.map fixCap) (by simpa using I.len) (fits14 I.fits) I.inN (fix14_ok HP.out))
        go_wp2_with fail
        go_loopw [8, 9, 86] (fun _ _ i wi => ∃ q : Nat, q ≤ n ∧ i = .int .i64 q ∧ Below w.heap.size w wi ∧ Blk wi w1.heap.size 24 #[.int .i64 M, .int .i64 P, .int .i64 Q, .slice A1 n c1] ∧ wi.ownsRow (w.heap.size + 1) 31 3 (.slice A1 n c1) n ((mapTo fixCap L q).flatMap arcCells)) (fun _ _ i _ => n - (intOf i).toNat)
        case atStart => exact ⟨0, Nat.zero_le _, rfl, B02, K2, by rw [mapTo_zero]; exact HO2.out⟩
        case round =>
          obtain ⟨q, hq, rfl, hbi, Ki, hoi⟩ := hrel
          have HOI := Lib.hid hoi; clear hoi
          clear m0 m1 m2 m3 f0 f1 f2 f3 zg
          obtain ⟨m0, m1, m2, m3⟩ := Ki.at4
          have zg : w1.heap.size < wr.heap.size := Ki.lt
          by_cases hqn : q < n
          · obtain ⟨g, rfl, hg1, hg2⟩ := own_form HOI.out (by omega)
            obtain ⟨a, ha, x0, x1, x2, e0, e1, e2⟩ := own_cells3 HOI.out ((mapTo_len _ _ _).trans I.len) hqn
            have hne := own_ne HOI.out Ki (by decide) g rfl
            have HAQ := Lib.hid ha
            have hla : L[q]? = some a := by rw [← mapTo_get fixCap (by rw [I.len]; exact hqn)]; exact ha
            have HLA := Lib.hid hla
            clear ha hla
            go_wp2_with fail
            go_roundw
            case rel =>
              refine ⟨q + 1, by omega, by go_num, (hbi.setCell (by simp; omega) _).alloc (by simp; exact hbi.size) _, (Ki.far (Ne.symm hne) _).alloc _, ?_⟩
              rw [← mapTo_set fixCap HLA.out]
              exact (own_setCap HOI.out HAQ.out _).alloc _
            case measure => simp [intOf]; omega
          · go_wp2_with fail
            go_roundw
            case rel =>
              have hfin := HOI.out
              rw [mapTo_end fixCap L I.len hqn] at hfin
              exact ⟨k + 1, _, M, P, Q, L.map fixCap, by go_num, rfl, HQ.out, hbi, Ki, hfin⟩
            case measure => simp [intOf]; omega
      · have HQ := Lib.hid (I.next (j := 5) (by omega) hlt (l' := L.map fixSum) (by simpa using I.len) (fits15 I.fits) I.inN (fix15_ok I.fits (by rw [I.len]; exact hn) HP.out))
        go_wp2_with fail
        go_loopw [10, 11, 105] (fun _ _ i wi => ∃ q : Nat, q ≤ n ∧ i = .int .i64 q ∧ Below w.heap.size w wi ∧ Blk wi w1.heap.size 24 #[.int .i64 M, .int .i64 P, .int .i64 Q, .slice A1 n c1] ∧ wi.ownsRow (w.heap.size + 1) 31 3 (.slice A1 n c1) n ((mapTo fixSum L q).flatMap arcCells)) (fun _ _ i _ => n - (intOf i).toNat)
        case atStart => exact ⟨0, Nat.zero_le _, rfl, B02, K2, by rw [mapTo_zero]; exact HO2.out⟩
        case round =>
          obtain ⟨q, hq, rfl, hbi, Ki, hoi⟩ := hrel
          have HOI := Lib.hid hoi; clear hoi
          clear m0 m1 m2 m3 f0 f1 f2 f3 zg
          obtain ⟨m0, m1, m2, m3⟩ := Ki.at4
          have zg : w1.heap.size < wr.heap.size := Ki.lt
          by_cases hqn : q < n
          · obtain ⟨g, rfl, hg1, hg2⟩ := own_form HOI.out (by omega)
            obtain ⟨a, ha, x0, x1, x2, e0, e1, e2⟩ := own_cells3 HOI.out ((mapTo_len _ _ _).trans I.len) hqn
            have hne := own_ne HOI.out Ki (by decide) g rfl
            have HAQ := Lib.hid ha
            have hla : L[q]? = some a := by rw [← mapTo_get fixSum (by rw [I.len]; exact hqn)]; exact ha
            have HLA := Lib.hid hla
            clear ha hla
            go_wp2_with fail
            go_roundw
            case rel =>
              refine ⟨q + 1, by omega, by go_num, (hbi.setCell (by simp; omega) _).alloc (by simp; exact hbi.size) _, (Ki.far (Ne.symm hne) _).alloc _, ?_⟩
              rw [← mapTo_set fixSum HLA.out]
              exact (own_setCap HOI.out HAQ.out _).alloc _
            case measure => simp [intOf]; omega
          · go_wp2_with fail
            go_roundw
            case rel =>
              have hfin := HOI.out
              rw [mapTo_end fixSum L I.len hqn] at hfin
              exact ⟨k + 1, _, M, P, Q, L.map fixSum, by go_num, rfl, HQ.out, hbi, Ki, hfin⟩
            case measure => simp [intOf]; omega

end Go.Proofs.Ytfdidjgecdhaiaa
