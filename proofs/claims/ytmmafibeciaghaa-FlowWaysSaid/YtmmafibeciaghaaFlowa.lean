/- Layer 3: Within, Excess. -/
import Derived.Test.YtmmafibeciaghaaCells
import Derived.Test.YtmmafibeciaghaaFlowp
import Derived.RegionTactic
import Derived.BigQuiet
import Derived.Deep.RegionHeld3
namespace Go.Proofs.Ytmmafibeciaghaa
open Go.RowKit

theorem retb {b r : Bool} (h : b = r) : Ending.returned (.bool b) = .returned (.bool r) := by rw [h]

set_option maxHeartbeats 1000000 in
theorem flowIn_any (N : Nat) (S T : Int) (A : Option Addr) (n c : Nat) (l : List ArcN) (AF : Option Addr) (m cF : Nat) (F : List Int) (r : Bool) (w : World) (hA : Arcs w w.heap.size A n l) (hn : n ≤ 1000000) (hck : checkF N S T l = 0)
    (hF : Ints w w.heap.size AF m F) (hm : m ≤ 1000000000000) (hr : r = true ↔ FlowIn l F) :
    Calls Try.prog 11 #[.agg #[.int .i64 N, .int .i64 S, .int .i64 T, .slice A n c], .slice AF m cF] w fun e w' => e = .returned (.bool r) ∧ Below w.heap.size w w' := by
  have hfalse : ¬ FlowIn l F → false = r := fun h => by
    cases r with
    | false => rfl
    | true => exact absurd (hr.1 rfl) h
  have HF := Lib.hid hfalse; clear hfalse
  have HT := Lib.hid hr.2; clear hr
  go_enter Try.func11, Try.ntmps11
  go_wp2_with fail
  refine (check_is _ (hA.onAlloc _) (by omega) hck).mono ?_
  rintro e w1 ⟨rfl, B1⟩
  have K1 : Blk w1 w.heap.size 24 #[.int .i64 N, .int .i64 S, .int .i64 T, .slice A n c] := (Blk.new rfl).below B1 (by simp)
  have a1 := (hA.onAlloc (.cells #[.int .i64 N, .int .i64 S, .int .i64 T, .slice A n c] 24)).on B1
  have F1 := (hF.onAlloc (.cells #[.int .i64 N, .int .i64 S, .int .i64 T, .slice A n c] 24)).on B1
  have Bw := below_step (below_alloc _) B1
  clear B1
  obtain ⟨x0, x1, x2, x3⟩ := K1.at4
  by_cases hmn : m = n
  · subst hmn
    go_wp2_with fail
    go_loopw [5, 6, 21] (fun _ _ i wr => ∃ k : Nat, k ≤ m ∧ i = .int .i64 k ∧ (∀ (j : Nat) (a : ArcN) (x : Int), j < k → l[j]? = some a → F[j]? = some x → 0 ≤ x ∧ x ≤ a.cap) ∧ Below w1.heap.size w1 wr) (fun _ _ i _ => m - (intOf i).toNat)
    case atStart => exact ⟨0, Nat.zero_le _, rfl, fun j a x h => absurd h (by omega), Below.refl _ _⟩
    case round =>
      obtain ⟨k, hk, rfl, hp, hb⟩ := hrel
      have HP := Lib.hid hp; clear hp
      by_cases hlt : k < m
      · obtain ⟨b, off, a, rfl, hbl, hla, c0, c1, c2⟩ := arcs_at (a1.below hb) hlt
        obtain ⟨bf, of, x, rfl, hbf, hx, cx⟩ := intl_at (F1.below hb) hlt
        have HL := Lib.hid hla; have HX := Lib.hid hx; clear hla hx
        have hz := hb.size
        have hbf2 : bf < wr.heap.size := by omega
        by_cases h0 : x < 0
        · go_wp2_with fail
          go_quiet (fail)
          go_wp2_with fail
          go_ret
          exact ⟨retb (HF.out fun h => by have := h.ent k a x HL.out HX.out; omega), below_drewN' ((Bw.trans (hb.mono Bw.size)).alloc (by have := Bw.size; omega) _) _⟩
        · by_cases h1 : a.cap < x
          · go_wp2_with fail
            go_quiet (fail)
            go_wp2_with fail
            go_ret
            exact ⟨retb (HF.out fun h => by have := h.ent k a x HL.out HX.out; omega), below_drewN' ((Bw.trans (hb.mono Bw.size)).alloc (by have := Bw.size; omega) _) _⟩
          · go_wp2_with fail
            go_quiet (fail)
            go_wp2_with fail
            go_roundw
            case rel =>
              refine ⟨k + 1, by omega, by go_num, fun j a' x' hj ha' hx' => ?_, below_drewN' (hb.alloc hb.size _) _⟩
              by_cases e : j = k
              · subst e
                rw [HL.out] at ha'; rw [HX.out] at hx'
                injection ha' with ha'; injection hx' with hx'
                subst ha'; subst hx'
                omega
              · exact HP.out j a' x' (by omega) ha' hx'
            case measure => simp [intOf]; omega
      · go_wp2_with fail
        go_ret
        refine ⟨retb (HT.out ⟨by rw [hF.len, hA.len], fun i a x ha hx => HP.out i a x ?_ ha hx⟩).symm, Bw.trans (hb.mono Bw.size)⟩
        have := (List.getElem?_eq_some_iff.1 ha).1
        have := hA.len
        omega
  · have hne : ((m : Int) != (n : Int)) = true := by simp; omega
    go_wp2_with fail
    go_ret
    exact ⟨retb (HF.out fun h => hmn (by rw [← hF.len, ← hA.len]; exact h.len)), Bw⟩

end Go.Proofs.Ytmmafibeciaghaa
