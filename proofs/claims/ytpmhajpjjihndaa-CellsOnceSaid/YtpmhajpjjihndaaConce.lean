/- CellsOnce, its walk: of any claims of a cell just the first one gets it, till it is 0 again. -/
import Derived.Test.YtpmhajpjjihndaaAwa10
import Derived.Test.YtpmhajpjjihndaaOpenp
import Derived.Deep.RegionHeld3
import Derived.Deep.CutBlock
import Derived.Deep.DeepCutAuto
namespace Go.Proofs.Ytpmhajpjjihndaa
open Go.RowKit
set_option maxRecDepth 100000

/-- The bank's numbers are those that the law keeps beside it. -/
structure Onc (w0 W : World) (b g s m : Nat) (H : List Int) : Prop where
  bank : BankAt W b g m H
  row : Blk W s 2 (ivs H)
  bel : Below w0.heap.size w0 W
section
variable {w0 W W' : World} {b g s m : Nat} {H : List Int}
theorem Onc.gs (h : Onc w0 W b g s m H) : g ≠ s := h.bank.row.ne h.row (by decide)
theorem Onc.bs (h : Onc w0 W b g s m H) : b ≠ s := h.bank.obj.ne h.row (by decide)
theorem Onc.on (h : Onc w0 W b g s m H) (hB : Below W.heap.size W W') : Onc w0 W' b g s m H :=
  ⟨h.bank.below hB h.bank.obj.lt h.bank.row.lt, h.row.below hB h.row.lt, h.bel.trans (hB.mono h.bel.size)⟩
theorem Onc.drew (h : Onc w0 W b g s m H) : Onc w0 W.drew b g s m H := ⟨h.bank.drew, h.row.drew, h.bel.drew⟩
theorem Onc.alloc (h : Onc w0 W b g s m H) (o : Obj) : Onc w0 (W.alloc o) b g s m H := ⟨h.bank.alloc o, h.row.alloc o, h.bel.alloc h.bel.size o⟩
/-- The cell i is set in the bank, and beside it. -/
theorem Onc.put (h : Onc w0 W b g s m H) {H2 : List Int} {i : Nat} {x : Int} (hs : w0.heap.size ≤ s) (hg : w0.heap.size ≤ g) (hb : BankAt W' b g m H2) (hw : Wrote g W W') (hH : H2 = H.set i x) : Onc w0 (W'.setCell ⟨s, i, none⟩ (.int .i64 x)) b g s m H2 :=
  ⟨hb.far h.bs h.gs _, by rw [hH]; exact (hw.blk h.row h.gs.symm).iset i x, (hw.below h.bel hg).setCell hs _⟩
end
theorem putV_nat (L : List Int) (i : Nat) (x : Int) : putV L (i : Int) x = L.set i x := by
  unfold putV
  rw [if_pos (by omega), Int.toNat_natCast]

section
variable {w : World} {b g n : Nat} {H : List Int}
theorem cellV_get {i : Nat} {x : Int} (hx : H[i]? = some x) : cellV H (i : Int) = x := by
  rw [cellV_at, hx]
  rfl
theorem cas_hit (h : BankAt w b g n H) {i : Nat} (hi : i < n) (hx : H[i]? = some 0) (v : Int) :
    Calls Try.prog 18 #[.pointer (some ⟨b, 0, none⟩), .int .i64 (i : Int), .int .i64 0, .int .i64 v] w fun e w' => e = .returned (.bool true) ∧ BankAt w' b g n (H.set i v) ∧ Wrote g w w' := by
  have hc : (0 ≤ (i : Int) ∧ (i : Int) < (n : Int)) ∧ cellV H (i : Int) = 0 := ⟨by omega, cellV_get hx⟩
  have := cas_put h (i : Int) 0 v
  rw [if_pos hc, decide_eq_true (p := _ ∧ _) hc, putV_nat] at this
  exact this
theorem cas_miss (h : BankAt w b g n H) {i : Nat} {x : Int} (hx : H[i]? = some x) (hne : x ≠ 0) (v : Int) :
    Calls Try.prog 18 #[.pointer (some ⟨b, 0, none⟩), .int .i64 (i : Int), .int .i64 0, .int .i64 v] w fun e w' => e = .returned (.bool false) ∧ w' = w := by
  have hc : ¬ ((0 ≤ (i : Int) ∧ (i : Int) < (n : Int)) ∧ cellV H (i : Int) = 0) := fun c => hne ((cellV_get hx).symm.trans c.2)
  have := cas_bank h (i : Int) 0 v
  rw [if_neg hc, decide_eq_false hc] at this
  exact this
theorem store_at (h : BankAt w b g n H) (i : Nat) (v : Int) :
    Calls Try.prog 14 #[.pointer (some ⟨b, 0, none⟩), .int .i64 (i : Int), .int .i64 v] w fun e w' => e = .returned (.tuple #[]) ∧ BankAt w' b g n (H.set i v) ∧ Wrote g w w' := by
  have := store_put h (i : Int) v
  rw [putV_nat] at this
  exact this
end

set_option maxHeartbeats 8000000 in
theorem conce_walk (t : Nat) (A1 : Option Addr) (n1 c1 : Nat) (U : List OpS) (w : World) (ht : t ≤ 255) (hU : Ops w w.heap.size A1 n1 U) (hf : ∀ a ∈ U, a.fits) (hc : n1 ≤ c1) :
    Calls Try.prog 7 #[.int .u8 (t : Int), .slice A1 n1 c1] w fun e w' => e = .returned (.bool true) ∧ Below w.heap.size w w' := by
  obtain ⟨m, hm⟩ : ∃ m : Nat, 1 + (t : Int) % 20 = (m : Int) := ⟨1 + t % 20, by omega⟩
  have hm1 : 1 ≤ m := by omega
  have hm2 : m ≤ 20 := by omega
  obtain ⟨i1, hi, hz0, hz1, hz2⟩ := info_parts long_info
  have hml := fun W => run_make_lit (P := Try.prog) 29 2 i1 _ Try.underlying29 hi hz0 m (by rw [hz2]; omega) (by omega) W
  simp only [hz1, ivs_made] at hml
  go_enter Try.func7, Try.ntmps7
  have HU := Lib.hid hU; have HF := Lib.hid hf
  clear hU hf
  go_wp2_with fail
  refine (new_bank w (n := m) (by omega)).mono ?_
  rintro e w1 ⟨b, g, rfl, D1, hb, hg, B1⟩
  obtain ⟨q, hq⟩ : ∃ q, min n1 80 = q := ⟨_, rfl⟩
  have hsl := ops_slice A1 n1 c1 q (by omega)
  have hm1' : (if (n1 : Int) < 80 then (n1 : Int) else (80 : Int)) = (q : Int) := by rw [← hq]; split <;> omega
  have hm2' : (if n1 < 80 then (n1 : Int) else (80 : Int)) = (q : Int) := by rw [← hq]; split <;> omega
  have hm3' : min (n1 : Int) 80 = (q : Int) := by omega
  have hm4' : (if (80 : Int) < (n1 : Int) then (80 : Int) else (n1 : Int)) = (q : Int) := by rw [← hq]; split <;> omega
  have hm5' : (if 80 < n1 then (80 : Int) else (n1 : Int)) = (q : Int) := by rw [← hq]; split <;> omega
  have h0q : (0 : Int) ≤ (q : Int) := by omega
  have hqc : (q : Int) ≤ (c1 : Int) := by omega
  have hq80 : q ≤ 80 := by omega
  have HUQ := Lib.hid (ops_short (m := q) HU.out (by omega))
  have HFQ : Hid (∀ a ∈ U.take q, a.fits) := Lib.hid fun a ha => HF.out a (List.mem_of_mem_take ha)
  clear HU HF hq
  obtain ⟨L, hL⟩ : ∃ L, U.take q = L := ⟨_, rfl⟩
  rw [hL] at HUQ HFQ
  clear hL
  go_wp2_with fail
  obtain ⟨w2, hw2⟩ : ∃ w2, w1.alloc (.cells (ivs (List.replicate m 0)) 2) = w2 := ⟨_, rfl⟩
  have O2 : Onc w w2 b g w1.heap.size m (List.replicate m 0) := by
    rw [← hw2]
    exact ⟨D1.alloc _, Blk.new rfl, B1.alloc B1.size _⟩
  have hs : w.heap.size ≤ w1.heap.size := B1.size
  simp only [hw2]
  clear hw2 D1 B1
  generalize w1.heap.size = s at O2 hs
  clear hml hsl hm1' hm2' hm3' hm4' hm5'
  go_loopw [9, 10, 11, 12, 13, 14, 34] (fun _ _ _ _ _ _ c wr => ∃ (k : Nat) (H : List Int), k ≤ q ∧ c = .int .i64 (k : Int) ∧ Onc w wr b g s m H) (fun _ _ _ _ _ _ c _ => q - (intOf c).toNat)
  case atStart => exact ⟨0, _, Nat.zero_le _, rfl, O2⟩
  case round =>
    obtain ⟨k, H, hk, rfl, hO⟩ := hrel
    by_cases hlt : k < q
    · obtain ⟨bo, off, ⟨what, at_, v, old, right⟩, rfl, hbo, ha, o0, o1, o2, o3, o4⟩ := ops_at (HUQ.out.below hO.bel) hlt
      dsimp only at o0 o1 o2 o3 o4
      obtain ⟨⟨hwh0, hwh1⟩, -, -, -⟩ := HFQ.out _ (List.mem_of_getElem? ha)
      dsimp only at hwh0 hwh1
      obtain ⟨wn, rfl⟩ := Int.eq_ofNat_of_zero_le hwh0
      obtain ⟨hi, hie⟩ := cellOf_is hm1 ⟨(wn : Int), at_, v, old, right⟩
      generalize cellOf m ⟨(wn : Int), at_, v, old, right⟩ = i at hi hie
      dsimp only at hie
      have hand := i64_and255 at_
      have he0 : 0 ≤ at_ % 256 := by omega
      have hmz : ¬ m = 0 := by omega
      have hmz' : ¬ (m : Int) = 0 := by omega
      have HO := Lib.hid hO
      clear hO
      have hzb := HO.out.row.lt
      go_upto_if 49 with fail
      rw [hie]
      clear hie hand he0
      go_cut [4] (fun _ wx => ∃ H2 : List Int, Onc w wx b g s m H2)
      case first =>
        have hib : (0 : Int) ≤ (i : Int) ∧ (i : Int) < (m : Int) := by omega
        obtain ⟨x, hx⟩ : ∃ x, H[i]? = some x := ⟨_, List.getElem?_eq_getElem (by have := HO.out.bank.len; omega)⟩
        have HX := Lib.hid hx
        clear hx
        have O4 := HO.out.alloc (.cells #[.int .u8 (wn : Int), .int .i64 at_, .int .i64 v, .int .i64 old, .bool right] 32)
        by_cases hw : wn % 3 = 0
        · have hw1 : (((wn : Int) % 3) == 0) = true := by simp; omega
          clear O2
          have O4 := Lib.hid O4
          go_wp2_with (go_at_call 14; refine (store_at O4.out.bank i 0).mono ?_; rintro e w5 ⟨rfl, D5, W5⟩; have R5 := W5.blk O4.out.row O4.out.gs.symm; have c5 := R5.iat HX.out; have f5 := R5.frozen i)
          go_meet
          exact ⟨_, O4.out.put hs hg D5 W5 rfl⟩
        · have hw1 : (((wn : Int) % 3) == 0) = false := by simp; omega
          obtain ⟨w4, hw4⟩ : ∃ w4, wr.alloc (.cells #[.int .u8 (wn : Int), .int .i64 at_, .int .i64 v, .int .i64 old, .bool right] 32) = w4 := ⟨_, rfl⟩
          rw [hw4] at O4
          clear O2
          go_wp2_with fail
          simp only [hw4]
          clear hw4
          have O4 := Lib.hid O4
          by_cases hx0 : x = 0
          · subst hx0
            go_region_held3 (fun W => W.cell? ⟨s, i, none⟩ = some (.int .i64 0))
              (first | exact O4.out.row.iat HX.out | exact R5.iat HX.out)
              (first
                | (go_at_call 18; refine (cas_hit O4.out.drew.bank hi HX.out _).mono ?_; rintro e w5 ⟨rfl, D5, W5⟩; have R5 := W5.blk O4.out.drew.row O4.out.gs.symm)
                | (go_at_call 18; refine (cas_hit O4.out.bank hi HX.out _).mono ?_; rintro e w5 ⟨rfl, D5, W5⟩; have R5 := W5.blk O4.out.row O4.out.gs.symm))
            have c5 := R5.iat HX.out
            have f5 := R5.frozen i
            go_wp2_with fail
            go_meet
            exact ⟨_, O4.out.drew.put hs hg D5 W5 rfl⟩
          · have hxb : (x == 0) = false := by simpa using hx0
            go_region_held3 (fun W => W.cell? ⟨s, i, none⟩ = some (.int .i64 x))
              (first | exact O4.out.row.iat HX.out)
              (first
                | (go_at_call 18; refine (cas_miss O4.out.drew.bank HX.out hx0 _).mono ?_; rintro e w5 ⟨rfl, hw5⟩; rw [hw5]; clear hw5 w5))
            go_wp2_with fail
            go_meet
            exact ⟨_, O4.out.drew⟩
      case rest =>
        obtain ⟨H2, O5⟩ := hcut
        clear HO
        go_wp2_with fail
        refine (all_bank O5.bank).mono ?_
        rintro e w6 ⟨a, rfl, A6, -, hB6⟩
        have O6 := O5.on hB6
        clear O5 hB6
        have hl2 : H2.length = m := O6.bank.len
        have HO6 := Lib.hid O6; have HA6 := Lib.hid A6
        clear O6 A6 O2
        go_wp2_with fail
        go_loopw [13, 14, 78] (fun _ _ c wq => ∃ j : Nat, j ≤ m ∧ c = .int .i64 (j : Int) ∧ wq = w6) (fun _ _ c _ => m - (intOf c).toNat)
        case atStart => exact ⟨0, Nat.zero_le _, rfl, rfl⟩
        case round =>
          obtain ⟨j, hj, rfl, rfl⟩ := hrel
          by_cases hjm : j < m
          · obtain ⟨y, hy⟩ : ∃ y, H2[j]? = some y := ⟨_, List.getElem?_eq_getElem (by omega)⟩
            have ca := HA6.out.iat hy
            have cb := HO6.out.row.iat hy
            clear hy
            have hjb : (0 : Int) ≤ (j : Int) ∧ (j : Int) < (m : Int) := by omega
            go_wp2
            go_roundw
            case rel => exact ⟨j + 1, hjm, by go_num, by first | rfl | trivial⟩
            case measure => simp [intOf]; omega
          · go_wp2_with fail
            go_roundw
            case rel => exact ⟨k + 1, H2, hlt, by go_num, HO6.out⟩
            case measure => simp [intOf]; omega
    · go_wp2_with (go_at_call 10; refine (awake10_is _).mono ?_; rintro e w10 ⟨rfl, hB10⟩)
      go_ret
      exact ⟨rfl, hO.bel.trans (hB10.mono hO.bel.size)⟩
end Go.Proofs.Ytpmhajpjjihndaa
