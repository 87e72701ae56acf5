/- Layer 3: least. -/
import Derived.Test.YtmmafibeciaghaaWayc
namespace Go.Proofs.Ytmmafibeciaghaa
open Go.RowKit Go.Maps

set_option maxHeartbeats 4000000 in
theorem least_any (N : Nat) (S T : Int) (A : Option Addr) (n c : Nat) (l : List ArcN) (AF : Option Addr) (m cF : Nat) (F : List Int) (b p : Nat) (H : List HopN) (w : World) (hA : Arcs w w.heap.size A n l) (hF : Ints w w.heap.size AF m F) (hfl : FlowIn l F) (hcap : ∀ a ∈ l, a.cap ≤ 4611686018427387904)
    (hM : MapsTo intV Try.prog 3 2 w b p (mapWay H)) (hH : ∀ h ∈ H, 0 ≤ h.arc ∧ h.arc < n) (hHl : H.length ≤ 1000000000) (hn : n ≤ 1000000) :
    Calls Try.prog 29 #[.agg #[.int .i64 N, .int .i64 S, .int .i64 T, .slice A n c], .slice AF m cF, .map (some b)] w fun e w' => ∃ r, e = .returned (.int .i64 r) ∧ IsRoom l F H r ∧ Below w.heap.size w w' := by
  have hln := hA.len
  have hlm := hF.len
  have hlf := hfl.len
  have HFL := Lib.hid hfl; have HCAP := Lib.hid hcap; have HH := Lib.hid hH; clear hfl hcap hH
  have hbw := hM.lt
  go_enter Try.func29, Try.ntmps29
  go_wp2_with (first
    | (at_range; refine wpList_range_to rfl _ rfl rfl (hM.alloc _) ?_; intro w0 left0 cnt0 hrg0 hl0 hg0 hs0)
    | fail)
  have HL0 := hl0; clear hl0
  have B0 : Below (w.heap.size + 1) (w.alloc (.cells #[.int .i64 N, .int .i64 S, .int .i64 T, .slice A n c] 24)) w0 := ⟨hg0.os, hg0.tape, hg0.output, by have := hg0.size; simp at this ⊢; omega, fun k hk => hg0.block k (by simp; omega) (by simp)⟩
  clear hg0
  generalize hrb : (w.alloc (.cells #[.int .i64 N, .int .i64 S, .int .i64 T, .slice A n c] 24)).heap.size = rb at hrg0 hs0 ⊢
  simp at hrb
  have HRB := Lib.hid hrb
  go_frame
  go_loopw [7, 8, 9] (fun r7 _ _ wr => ∃ (left : Int → Bool) (cnt : Nat) (r : Int), RangesTo wr b rb p (mapWay H) left cnt ∧ (∀ x, InR x → left x = true → (mapWay H x).isSome = true) ∧ r7 = .int .i64 r ∧
      RoomTo l F H (fun i => (mapWay H (i : Int)).isSome = true ∧ left (i : Int) = false) r ∧ Below (w.heap.size + 1) (w.alloc (.cells #[.int .i64 N, .int .i64 S, .int .i64 T, .slice A n c] 24)) wr) (fun _ _ _ wr => wr.rangeLeft b rb)
  case atStart =>
    refine ⟨left0, cnt0, _, hrg0, fun x hx h => by rw [← HL0.out x hx]; exact h, rfl, RoomTo.zero fun i hi => ?_, B0⟩
    obtain ⟨h1, h2⟩ := hi
    obtain ⟨k, hk, e⟩ := mapWay_some h1
    have := HH.out k hk
    rw [HL0.out (i : Int) (by unfold InR; omega), h1] at h2
    cases h2
  case round =>
    obtain ⟨left, cnt, r, hrg, hls, rfl, hro, hb⟩ := hrel
    clear hrb
    have HLS := Lib.hid hls; have HRO := Lib.hid hro; clear hls hro
    have hb0 : Below w.heap.size w wr := (below_alloc _).trans (hb.mono (Nat.le_succ _))
    have Kr : Blk wr w.heap.size 24 #[.int .i64 N, .int .i64 S, .int .i64 T, .slice A n c] := (Blk.new rfl).below hb (by omega)
    go_wp2_with (first
      | (at_next; refine wpList_next_to rfl _ rfl rfl hrg ?_ ?_)
      | fail)
    · intro hl
      have HD := Lib.hid hl; clear hl
      go_wp2_with fail
      go_ret
      refine ⟨r, rfl, HRO.out.all (fun j hj => ?_) HFL.out, hb0⟩
      cases hm : (mapWay H (j : Int)).isSome
      · exact mapWay_none hm
      · obtain ⟨k, hk, e⟩ := mapWay_some hm
        have := HH.out k hk
        exact absurd ⟨hm, HD.out _ (by unfold InR; omega)⟩ hj
    · intro x t w1 cnt1 hx hlx ht hrg1 hlt hg1 hs1 hen
      obtain ⟨h, hh, hhx⟩ := mapWay_some (HLS.out x hx hlx)
      have hxr := HH.out h hh
      rw [hhx] at hxr
      clear hh hhx h
      obtain ⟨i, rfl⟩ := Int.eq_ofNat_of_zero_le hxr.1
      have ht' : t = surp H i := by rw [ht.out, mapWay_getD]
      have htb := surp_bound H i
      rw [← ht'] at htb
      have HT := Lib.hid ht'; clear ht' ht
      have B1 : Below (w.heap.size + 1) wr w1 := ⟨hg1.os, hg1.tape, hg1.output, hg1.size, fun k hk => hg1.block k (by have := Kr.lt; omega) (fun e => by injection e with e; have := HRB.out; omega)⟩
      have hbr : Below (w.heap.size + 1) (w.alloc (.cells #[.int .i64 N, .int .i64 S, .int .i64 T, .slice A n c] 24)) w1 := hb.trans B1
      have Kr1 := Kr.below B1 (by omega)
      have hb1 : Below w.heap.size w w1 := hb0.trans (B1.mono (by omega))
      clear hg1 B1 Kr
      obtain ⟨x0, x1, x2, x3⟩ := Kr1.at4
      obtain ⟨ba, off, a, rfl, hba, hla, c0, c1, c2⟩ := arcs_at (hA.below hb1) (k := i) (by omega)
      obtain ⟨bf, of, v, rfl, hbf, hv, cv⟩ := intl_at (hF.below hb1) (k := i) (by omega)
      have hfv := HFL.out.ent i a v hla hv
      have hca := HCAP.out a (mem_at hla)
      have hro := HRO.out
      have hin : (i : Int) < (n : Int) := hxr.2
      have him : (i : Int) < (m : Int) := by omega
      have hrr : 0 ≤ r ∧ r ≤ 4611686018427387904 := ⟨hro.1, hro.2.1⟩
      have HL := Lib.hid hla; have HV := Lib.hid hv
      clear hro hla hv
      have hdone : ∀ j : Nat, ((mapWay H (j : Int)).isSome = true ∧ (left (j : Int) && !decide ((j : Int) = (i : Int))) = false) ↔ ((mapWay H (j : Int)).isSome = true ∧ left (j : Int) = false) ∨ j = i := by
        intro j
        by_cases e : j = i
        · subst e
          simp [HLS.out _ hx hlx]
        · have : ¬ (j : Int) = (i : Int) := by omega
          simp [this, e]
      have HDN := Lib.hid hdone; clear hdone
      have hleft : ∀ x, InR x → (left x && !decide (x = (i : Int))) = true → (mapWay H x).isSome = true := fun x hx h => HLS.out x hx (by simp at h; exact h.1)
      have HLF := Lib.hid hleft; clear hleft hlx
      by_cases h0 : 0 < t
      · obtain ⟨q, hq, q0, q1, q2⟩ : ∃ q, (a.cap - v).tdiv t = q ∧ 0 ≤ q ∧ q ≤ a.cap ∧ ∀ d, 0 ≤ d → (d ≤ q ↔ 0 ≤ v + d * t ∧ v + d * t ≤ a.cap) := ⟨_, rfl, fits_up hfv.1 hfv.2 h0⟩
        rw [HT.out] at q2
        have HQ := Lib.hid q2; clear q2
        by_cases hmin : r ≤ q
        · go_wp2_with fail
          go_quiet (fail)
          go_wp2_with fail
          go_roundw
          case rel =>
            have hr := HRO.out.step HL.out HV.out HDN.out q0 HQ.out
            rw [if_pos (show r ≤ q by omega)] at hr
            exact ⟨_, cnt1, _, hrg1.drewN _, HLF.out, rfl, by first | exact hr | (rw [if_neg (by omega)]; exact hr) | (rw [if_pos (by omega)]; exact hr), below_drewN' hbr _⟩
          case measure => rw [(hrg1.drewN _).left_eq, hrg.left_eq]; exact hlt
        · go_wp2_with fail
          go_quiet (fail)
          go_wp2_with fail
          go_roundw
          case rel =>
            have hr := HRO.out.step HL.out HV.out HDN.out q0 HQ.out
            rw [if_neg (show ¬ r ≤ q by omega)] at hr
            exact ⟨_, cnt1, _, hrg1.drewN _, HLF.out, rfl, by first | exact hr | (rw [if_neg (by omega)]; exact hr) | (rw [if_pos (by omega)]; exact hr), below_drewN' hbr _⟩
          case measure => rw [(hrg1.drewN _).left_eq, hrg.left_eq]; exact hlt
      · by_cases h1 : t < 0
        · obtain ⟨q, hq, q0, q1, q2⟩ : ∃ q, v.tdiv (-t) = q ∧ 0 ≤ q ∧ q ≤ a.cap ∧ ∀ d, 0 ≤ d → (d ≤ q ↔ 0 ≤ v + d * t ∧ v + d * t ≤ a.cap) := ⟨_, rfl, fits_down hfv.1 hfv.2 h1⟩
          rw [HT.out] at q2
          have HQ := Lib.hid q2; clear q2
          have hnz : ¬ -t = 0 := by omega
          by_cases hmin : r ≤ q
          · go_wp2_with fail
            go_roundw
            case rel =>
              have hr := HRO.out.step HL.out HV.out HDN.out q0 HQ.out
              rw [if_pos (show r ≤ q by omega)] at hr
              exact ⟨_, cnt1, _, hrg1, HLF.out, rfl, by first | exact hr | (rw [if_neg (by omega)]; exact hr) | (rw [if_pos (by omega)]; exact hr), hbr⟩
            case measure => rw [hrg1.left_eq, hrg.left_eq]; exact hlt
          · go_wp2_with fail
            go_roundw
            case rel =>
              have hr := HRO.out.step HL.out HV.out HDN.out q0 HQ.out
              rw [if_neg (show ¬ r ≤ q by omega)] at hr
              exact ⟨_, cnt1, _, hrg1, HLF.out, rfl, by first | exact hr | (rw [if_neg (by omega)]; exact hr) | (rw [if_pos (by omega)]; exact hr), hbr⟩
            case measure => rw [hrg1.left_eq, hrg.left_eq]; exact hlt
        · obtain rfl : t = 0 := by omega
          go_wp2_with fail
          go_roundw
          case rel =>
            exact ⟨_, cnt1, _, hrg1, HLF.out, rfl, HRO.out.same HDN.out HT.out.symm HFL.out, hbr⟩
          case measure => rw [hrg1.left_eq, hrg.left_eq]; exact hlt

end Go.Proofs.Ytmmafibeciaghaa
