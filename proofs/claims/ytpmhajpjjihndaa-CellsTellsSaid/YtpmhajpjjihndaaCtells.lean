/- CellsTells, its walk: what is read of cells, and what they have, is exactly as the document defines. -/
import Derived.Test.YtpmhajpjjihndaaAwa10
import Derived.Test.YtpmhajpjjihndaaOpenp
import Derived.Test.YtpmhajpjjihndaaRbank
import Derived.BigQuiet
import Derived.Deep.RegionHeld3
import Derived.Deep.CutBlock
import Derived.Deep.DeepCutAuto
namespace Go.Proofs.Ytpmhajpjjihndaa
open Go.RowKit
set_option maxRecDepth 100000

section
variable {w w' : World} {b g n base c : Nat} {A : Option Addr} {L : List Int}
theorem Wrote.own (h : Wrote g w w') (hr : Row w base A n c L) (hg : g < base) : Row w' base A n c L := by
  rcases h with rfl | ⟨i, u, rfl⟩
  · exact hr
  · refine own_far hr (fun g' hA => ?_) _
    subst hA
    have := World.ownsRow.lt hr g' rfl
    intro e
    dsimp only at e
    omega
theorem cas_yes (h : BankAt w b g n L) {i old : Int} (hin : 0 ≤ i ∧ i < (n : Int)) (he : cellV L i = old) (x : Int) :
    Calls Try.prog 18 #[.pointer (some ⟨b, 0, none⟩), .int .i64 i, .int .i64 old, .int .i64 x] w fun e w' => e = .returned (.bool true) ∧ BankAt w' b g n (putV L i x) ∧ Wrote g w w' := by
  have := cas_put h i old x
  rw [if_pos ⟨hin, he⟩, decide_eq_true (p := _ ∧ _) ⟨hin, he⟩] at this
  exact this
theorem cas_no (h : BankAt w b g n L) {i old : Int} (hc : ¬ ((0 ≤ i ∧ i < (n : Int)) ∧ cellV L i = old)) (x : Int) :
    Calls Try.prog 18 #[.pointer (some ⟨b, 0, none⟩), .int .i64 i, .int .i64 old, .int .i64 x] w fun e w' => e = .returned (.bool false) ∧ w' = w := by
  have := cas_bank h i old x
  rw [if_neg hc, decide_eq_false hc] at this
  exact this
theorem is_yes {i : Int} (hin : 0 ≤ i ∧ i < (n : Int)) : Calls Try.prog 17 #[.slice A n c, .int .i64 i] w fun e w' => e = .returned (.bool true) ∧ w' = w := by
  have := is_is A n c i w
  rw [decide_eq_true hin] at this
  exact this
theorem is_no {i : Int} (hin : ¬ (0 ≤ i ∧ i < (n : Int))) : Calls Try.prog 17 #[.slice A n c, .int .i64 i] w fun e w' => e = .returned (.bool false) ∧ w' = w := by
  have := is_is A n c i w
  rw [decide_eq_false hin] at this
  exact this
end

/-- The bank, and the document's own, have the same numbers. -/
structure Tel (w0 W : World) (b g n base : Nat) (A : Option Addr) (c : Nat) (L : List Int) : Prop where
  bank : BankAt W b g n L
  row : Row W base A n c L
  bel : Below w0.heap.size w0 W
  bas : base ≤ W.heap.size
theorem Tel.on {w0 W W' : World} {b g n base c : Nat} {A : Option Addr} {L : List Int} (h : Tel w0 W b g n base A c L) (hB : Below W.heap.size W W') : Tel w0 W' b g n base A c L :=
  ⟨h.bank.below hB h.bank.obj.lt h.bank.row.lt, Row.on h.row hB, h.bel.trans (hB.mono h.bel.size), Nat.le_trans h.bas hB.size⟩

set_option maxHeartbeats 16000000 in
theorem ctells_walk (n : Int) (A1 : Option Addr) (n1 c1 : Nat) (U : List OpS) (w : World) (hU : Ops w w.heap.size A1 n1 U) (hf : ∀ a ∈ U, a.fits) (hc : n1 ≤ c1) :
    Calls Try.prog 3 #[.int .i64 n, .slice A1 n1 c1] w fun e w' => e = .returned (.bool true) ∧ Below w.heap.size w w' := by
  have HU := Lib.hid hU; have HF := Lib.hid hf
  clear hU hf
  by_cases hn : 0 ≤ n ∧ n ≤ 524288
  · obtain ⟨n, rfl⟩ := Int.eq_ofNat_of_zero_le hn.1
    have hnm : n ≤ 524288 := by omega
    by_cases hn40 : n ≤ 40
    · obtain ⟨i1, hi, hz0, hz1, hz2⟩ := info_parts long_info
      have hml := fun W => run_make_lit (P := Try.prog) 30 2 i1 _ Try.underlying30 hi hz0 n (by rw [hz2]; omega) (by omega) W
      simp only [hz1, ivs_made] at hml
      obtain ⟨q, hq⟩ : ∃ q, min n1 100 = q := ⟨_, rfl⟩
      have hsl := ops_slice A1 n1 c1 q (by omega)
      have hm1' : (if (n1 : Int) < 100 then (n1 : Int) else (100 : Int)) = (q : Int) := by rw [← hq]; split <;> omega
      have hm2' : (if n1 < 100 then (n1 : Int) else (100 : Int)) = (q : Int) := by rw [← hq]; split <;> omega
      have hm3' : min (n1 : Int) 100 = (q : Int) := by omega
      have hm4' : (if (100 : Int) < (n1 : Int) then (100 : Int) else (n1 : Int)) = (q : Int) := by rw [← hq]; split <;> omega
      have hm5' : (if 100 < n1 then (100 : Int) else (n1 : Int)) = (q : Int) := by rw [← hq]; split <;> omega
      have h0q : (0 : Int) ≤ (q : Int) := by omega
      have hqc : (q : Int) ≤ (c1 : Int) := by omega
      have hq80 : q ≤ 100 := by omega
      have HUQ := Lib.hid (ops_short (m := q) HU.out (by omega))
      have HFQ : Hid (∀ a ∈ U.take q, a.fits) := Lib.hid fun a ha => HF.out a (List.mem_of_mem_take ha)
      clear HU HF hq
      obtain ⟨LU, hL⟩ : ∃ L, U.take q = L := ⟨_, rfl⟩
      rw [hL] at HUQ HFQ
      clear hL
      go_enter Try.func3, Try.ntmps3
      go_wp2_with fail
      refine (new_bank w hnm).mono ?_
      rintro e w1 ⟨b, g, rfl, D1, hb, hg, B1⟩
      go_wp2_with (go_at_call 11; refine (len_bank D1).mono ?_; rintro e w9 ⟨rfl, hw9⟩; rw [hw9]; clear hw9 w9)
      obtain ⟨w2, hw2⟩ : ∃ w2, w1.alloc (.cells (ivs (List.replicate n 0)) 2) = w2 := ⟨_, rfl⟩
      have T2 : Tel w w2 b g n w1.heap.size (some ⟨w1.heap.size, 0, none⟩) n (List.replicate n 0) := by
        rw [← hw2]
        refine ⟨D1.alloc _, ?_, B1.alloc B1.size _, by simp⟩
        have hbk : Blk (w1.alloc (.cells (ivs (List.replicate n 0)) 2)) w1.heap.size 2 (ivs (List.replicate n 0)) := Blk.new rfl
        exact own_of_block (xs := nums (List.replicate n 0)) hbk (Nat.le_refl _) (by unfold maxLen; omega) (by simp)
      have hgb : g < w1.heap.size := D1.row.lt
      simp only [hw2]
      clear hw2 D1 B1
      generalize w1.heap.size = base at T2 hgb
      clear hml hsl hm1' hm2' hm3' hm4' hm5'
      have HT2 := Lib.hid T2
      clear T2
      go_loopw [7, 9, 10, 11, 12, 13, 14, 54] (fun s7 _ _ _ _ _ _ cn wr => ∃ (k c : Nat) (A : Option Addr) (L : List Int), k ≤ q ∧ cn = .int .i64 (k : Int) ∧ s7 = .slice A n c ∧ Tel w wr b g n base A c L) (fun _ _ _ _ _ _ _ cn _ => q - (intOf cn).toNat)
      case atStart => exact ⟨0, _, _, _, Nat.zero_le _, rfl, rfl, HT2.out⟩
      case round =>
        clear HT2
        obtain ⟨k, c, A, L, hk, rfl, rfl, hT⟩ := hrel
        by_cases hlt : k < q
        · obtain ⟨bo, off, ⟨what, at_, v, old, right⟩, rfl, hbo, ha, o0, o1, o2, o3, o4⟩ := ops_at (HUQ.out.below hT.bel) hlt
          dsimp only at o0 o1 o2 o3 o4
          obtain ⟨⟨hwh0, hwh1⟩, -, -, -⟩ := HFQ.out _ (List.mem_of_getElem? ha)
          dsimp only at hwh0 hwh1
          obtain ⟨wn, rfl⟩ := Int.eq_ofNat_of_zero_le hwh0
          have hw4 : wn % 4 = 0 ∨ wn % 4 = 1 ∨ wn % 4 = 2 ∨ wn % 4 = 3 := by omega
          have hkb : (0 : Int) ≤ (k : Int) ∧ (k : Int) < (q : Int) := by omega
          have HT := Lib.hid hT
          have hpg : wr.heap.size ≠ g := by have := hT.bas; omega
          clear hT ha
          go_upto_block 2 with (go_at_call 12; refine (rload_is (HT.out.on ((Below.refl wr.heap.size wr).alloc (Nat.le_refl _) _)).row at_).mono ?_; rintro e w9 ⟨rfl, hw9⟩; rw [hw9]; clear hw9 w9)
          obtain ⟨w4, hw4'⟩ : ∃ w4, wr.alloc (.cells #[.int .u8 (wn : Int), .int .i64 at_, .int .i64 v, .int .i64 old, .bool right] 32) = w4 := ⟨_, rfl⟩
          have X4 : Blk w4 wr.heap.size 32 #[.int .u8 (wn : Int), .int .i64 at_, .int .i64 v, .int .i64 old, .bool right] := by rw [← hw4']; exact Blk.new rfl
          have T4 : Tel w w4 b g n base A c L := HT.out.on (by rw [← hw4']; exact (Below.refl wr.heap.size wr).alloc (Nat.le_refl _) _)
          simp only [hw4']
          clear hw4' HT o0 o1 o2 o3 o4
          generalize wr.heap.size = p at X4 hpg
          have HT4 := Lib.hid T4
          clear T4
          have x1 : w4.cell? ⟨p, 1, none⟩ = some (.int .i64 at_) := X4.cell 1
          have x2 : w4.cell? ⟨p, 2, none⟩ = some (.int .i64 v) := X4.cell 2
          have x3 : w4.cell? ⟨p, 3, none⟩ = some (.int .i64 old) := X4.cell 3
          have x4 : w4.cell? ⟨p, 4, none⟩ = some (.bool right) := X4.cell 4
          go_cut [7] (fun s7 wx => ∃ (c' : Nat) (A' : Option Addr) (L' : List Int), s7 = .slice A' n c' ∧ Tel w wx b g n base A' c' L')
          case first =>
            rcases hw4 with h | h | h | h
            · skip
              have hz0 : (((wn : Int) % 4) == 0) = true := by simp; omega
              have hz1 : (((wn : Int) % 4) == 1) = false := by simp; omega
              have hz2 : (((wn : Int) % 4) == 2) = false := by simp; omega
              go_wp2_with (go_at_call 13; refine (load_bank HT4.out.bank at_).mono ?_; rintro e w9 ⟨rfl, hw9⟩; rw [hw9]; clear hw9 w9)
              go_meet
              exact ⟨_, _, _, rfl, HT4.out⟩
            · skip
              have hz0 : (((wn : Int) % 4) == 0) = false := by simp; omega
              have hz1 : (((wn : Int) % 4) == 1) = true := by simp; omega
              have hz2 : (((wn : Int) % 4) == 2) = false := by simp; omega
              go_wp2_with (first
                | (go_at_call 14; refine (store_put HT4.out.bank at_ v).mono ?_; rintro e w5 ⟨rfl, D5, W5⟩; have X5 := W5.blk X4 hpg; have y1 : w5.cell? ⟨p, 1, none⟩ = some (.int .i64 at_) := X5.cell 1; have y2 : w5.cell? ⟨p, 2, none⟩ = some (.int .i64 v) := X5.cell 2; have R5 := W5.own HT4.out.row hgb)
                | (go_at_call 15; refine (rput_is R5 hn40 (by rw [W5.size]; exact HT4.out.bas) at_ v).mono ?_; rintro e w6 ⟨A6, c6, rfl, R6, N6⟩))
              go_meet
              have B5 := W5.below HT4.out.bel hg
              exact ⟨_, _, _, rfl, ⟨D5.below N6 D5.obj.lt D5.row.lt, R6, B5.trans (N6.mono B5.size), Nat.le_trans (by rw [W5.size]; exact HT4.out.bas) N6.size⟩⟩
            · skip
              have hz0 : (((wn : Int) % 4) == 0) = false := by simp; omega
              have hz1 : (((wn : Int) % 4) == 1) = false := by simp; omega
              have hz2 : (((wn : Int) % 4) == 2) = true := by simp; omega
              have hsum : IntKind.i64.wrap (cellV L at_ + v) = wrap64 (cellV L at_ + v) := IntWalk.i64_left _
              go_wp2_with (go_at_call 15; refine (rput_is HT4.out.row hn40 HT4.out.bas at_ (wrap64 (cellV L at_ + v))).mono ?_; rintro e w5 ⟨A5, c5, rfl, R5, N5⟩)
              have D5 := HT4.out.bank.below N5 HT4.out.bank.obj.lt HT4.out.bank.row.lt
              have X5 := X4.below N5 X4.lt
              have y1 : w5.cell? ⟨p, 1, none⟩ = some (.int .i64 at_) := X5.cell 1
              have y2 : w5.cell? ⟨p, 2, none⟩ = some (.int .i64 v) := X5.cell 2
              have B5 := HT4.out.bel.trans (N5.mono HT4.out.bel.size)
              have bas5 := Nat.le_trans HT4.out.bas N5.size
              clear x1 x2 x3 x4 HT4 N5 X4
              go_region_held3 (fun W => W.cell? ⟨p, 1, none⟩ = some (.int .i64 at_) ∧ W.cell? ⟨p, 2, none⟩ = some (.int .i64 v))
                (first | exact ⟨y1, y2⟩ | exact K6)
                (first
                  | (go_at_call 16; refine (add_put D5.drew at_ v).mono ?_; rintro e w6 ⟨rfl, D6, W6⟩; have X6 := W6.blk X5.drew hpg; have K6 : w6.cell? ⟨p, 1, none⟩ = some (.int .i64 at_) ∧ w6.cell? ⟨p, 2, none⟩ = some (.int .i64 v) := ⟨X6.cell 1, X6.cell 2⟩; have R6 := W6.own (World.ownsRow.drew R5) hgb)
                  | (go_at_call 12; refine (rload_is R6 at_).mono ?_; rintro e w9 ⟨rfl, hw9⟩; rw [hw9]; clear hw9 w9))
              go_wp2_with fail
              go_meet
              exact ⟨_, _, _, rfl, ⟨D6, R6, W6.below B5.drew hg, by rw [W6.size]; exact bas5⟩⟩
            · skip
              have hz0 : (((wn : Int) % 4) == 0) = false := by simp; omega
              have hz1 : (((wn : Int) % 4) == 1) = false := by simp; omega
              have hz2 : (((wn : Int) % 4) == 2) = false := by simp; omega
              cases right
              · by_cases hin : 0 ≤ at_ ∧ at_ < (n : Int)
                · by_cases he : cellV L at_ = old
                  · have heb : (cellV L at_ == old) = true := by simpa using he
                    have HE := Lib.hid he
                    clear he
                    go_wp2_with (first
                      | (go_at_call 17; (with_reducible refine (is_yes hin).mono ?_); rintro e w9 ⟨rfl, hw9⟩; rw [hw9]; clear hw9 w9)
                      | (go_at_call 15; refine (rput_is HT4.out.row hn40 HT4.out.bas at_ v).mono ?_; rintro e w5 ⟨A5, c5, rfl, R5, N5⟩; have D5 := HT4.out.bank.below N5 HT4.out.bank.obj.lt HT4.out.bank.row.lt; have X5 := X4.below N5 X4.lt; have y1 : w5.cell? ⟨p, 1, none⟩ = some (.int .i64 at_) := X5.cell 1; have y2 : w5.cell? ⟨p, 2, none⟩ = some (.int .i64 v) := X5.cell 2; clear x1 x2 x3 x4)
                      | (go_at_call 18; refine (cas_yes D5 hin HE.out v).mono ?_; rintro e w6 ⟨rfl, D6, W6⟩))
                    go_meet
                    have B5 := HT4.out.bel.trans (N5.mono HT4.out.bel.size)
                    exact ⟨_, _, _, rfl, ⟨D6, W6.own R5 hgb, W6.below B5 hg, by rw [W6.size]; exact Nat.le_trans HT4.out.bas N5.size⟩⟩
                  · have heb : (cellV L at_ == old) = false := by simpa using he
                    go_wp2_with (first
                      | (go_at_call 17; (with_reducible refine (is_yes hin).mono ?_); rintro e w9 ⟨rfl, hw9⟩; rw [hw9]; clear hw9 w9)
                      | (go_at_call 18; refine (cas_no HT4.out.bank (fun c => he c.2) v).mono ?_; rintro e w9 ⟨rfl, hw9⟩; rw [hw9]; clear hw9 w9))
                    go_meet
                    exact ⟨_, _, _, rfl, HT4.out⟩
                · skip
                  go_wp2_with (first
                    | (go_at_call 17; (with_reducible refine (is_no hin).mono ?_); rintro e w9 ⟨rfl, hw9⟩; rw [hw9]; clear hw9 w9)
                    | (go_at_call 18; refine (cas_no HT4.out.bank (fun c => hin c.1) v).mono ?_; rintro e w9 ⟨rfl, hw9⟩; rw [hw9]; clear hw9 w9))
                  go_meet
                  exact ⟨_, _, _, rfl, HT4.out⟩
              · by_cases hin : 0 ≤ at_ ∧ at_ < (n : Int)
                · skip
                  go_wp2_with (first
                    | (go_at_call 17; (with_reducible refine (is_yes hin).mono ?_); rintro e w9 ⟨rfl, hw9⟩; rw [hw9]; clear hw9 w9)
                    | (go_at_call 15; refine (rput_is HT4.out.row hn40 HT4.out.bas at_ v).mono ?_; rintro e w5 ⟨A5, c5, rfl, R5, N5⟩; have D5 := HT4.out.bank.below N5 HT4.out.bank.obj.lt HT4.out.bank.row.lt; have X5 := X4.below N5 X4.lt; have y1 : w5.cell? ⟨p, 1, none⟩ = some (.int .i64 at_) := X5.cell 1; have y2 : w5.cell? ⟨p, 2, none⟩ = some (.int .i64 v) := X5.cell 2; clear x1 x2 x3 x4)
                    | (go_at_call 18; refine (cas_yes D5 hin rfl v).mono ?_; rintro e w6 ⟨rfl, D6, W6⟩))
                  go_meet
                  have B5 := HT4.out.bel.trans (N5.mono HT4.out.bel.size)
                  exact ⟨_, _, _, rfl, ⟨D6, W6.own R5 hgb, W6.below B5 hg, by rw [W6.size]; exact Nat.le_trans HT4.out.bas N5.size⟩⟩
                · skip
                  go_wp2_with (first
                    | (go_at_call 17; (with_reducible refine (is_no hin).mono ?_); rintro e w9 ⟨rfl, hw9⟩; rw [hw9]; clear hw9 w9)
                    | (go_at_call 18; refine (cas_no HT4.out.bank (fun c => hin c.1) v).mono ?_; rintro e w9 ⟨rfl, hw9⟩; rw [hw9]; clear hw9 w9))
                  go_meet
                  exact ⟨_, _, _, rfl, HT4.out⟩
          case rest =>
            obtain ⟨c5, A5, L5, rfl, T5⟩ := hcut
            go_wp2_with fail
            refine (all_bank T5.bank).mono ?_
            rintro e w6 ⟨a, rfl, A6, -, hB6⟩
            have T6 := T5.on hB6
            clear T5 hB6
            have HT6 := Lib.hid T6; have HA6 := Lib.hid A6
            clear T6 A6 X4 x1 x2 x3 x4 HT4
            go_wp2_with fail
            go_loopw [14, 146] (fun _ cn wq => ∃ j d : Nat, j ≤ n ∧ cn = .int .i64 (j : Int) ∧ wq = w6.drewN d) (fun _ cn _ => n - (intOf cn).toNat)
            case atStart => exact ⟨0, 0, Nat.zero_le _, rfl, rfl⟩
            case round =>
              obtain ⟨j, d, hj, rfl, rfl⟩ := hrel
              by_cases hjn : j < n
              · obtain ⟨gr, rfl, -, -, cb⟩ := Row.cel HT6.out.row hjn
                have ca : w6.cell? ⟨a, j, none⟩ = some (.int .i64 (cellV L5 (j : Int))) := HA6.out.iat (by rw [cellV_at]; simp [show j < L5.length by rw [HT6.out.bank.len]; exact hjn])
                have hjb : (0 : Int) ≤ (j : Int) ∧ (j : Int) < (n : Int) := by omega
                go_wp2
                go_quiet (fail)
                go_wp2
                go_roundw
                case rel => exact ⟨j + 1, d + nq, hjn, by go_num, by first | rfl | exact World.drewN_drewN _ _ _⟩
                case measure => simp [intOf]; omega
              · go_wp2_with fail
                go_roundw
                case rel => exact ⟨k + 1, c5, A5, L5, hlt, by go_num, rfl, HT6.out.on (below_drewN' (Below.refl _ _) _)⟩
                case measure => simp [intOf]; omega
        · go_wp2_with (go_at_call 10; refine (awake10_is _).mono ?_; rintro e w10 ⟨rfl, hB10⟩)
          go_ret
          exact ⟨rfl, hT.bel.trans (hB10.mono hT.bel.size)⟩
    · go_enter Try.func3, Try.ntmps3
      go_wp2_with fail
      refine (new_bank w hnm).mono ?_
      rintro e w1 ⟨b, g, rfl, D1, hb, hg, B1⟩
      go_wp2_with (first
        | (go_at_call 11; refine (len_bank D1).mono ?_; rintro e w9 ⟨rfl, hw9⟩; rw [hw9]; clear hw9 w9)
        | (go_at_call 10; refine (awake10_is _).mono ?_; rintro e w10 ⟨rfl, hB10⟩))
      go_ret
      exact ⟨rfl, B1.trans (hB10.mono B1.size)⟩
  · by_cases h0 : n < 0
    · go_enter Try.func3, Try.ntmps3
      go_wp2_with (first
        | (go_at_call 9; refine (new_bad w hn).mono ?_; rintro e w9 ⟨rfl, hw9⟩; rw [hw9]; clear hw9 w9)
        | (go_at_call 10; refine (awake10_is _).mono ?_; rintro e w10 ⟨rfl, hB10⟩))
      go_ret
      exact ⟨rfl, hB10⟩
    · have h1 : (524288 : Int) < n := by omega
      go_enter Try.func3, Try.ntmps3
      go_wp2_with (first
        | (go_at_call 9; refine (new_bad w hn).mono ?_; rintro e w9 ⟨rfl, hw9⟩; rw [hw9]; clear hw9 w9)
        | (go_at_call 10; refine (awake10_is _).mono ?_; rintro e w10 ⟨rfl, hB10⟩))
      go_ret
      exact ⟨rfl, hB10⟩
end Go.Proofs.Ytpmhajpjjihndaa
