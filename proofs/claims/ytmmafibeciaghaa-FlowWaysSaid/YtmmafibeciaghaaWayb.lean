/- Layer 3: surplus. -/
import Derived.Test.YtmmafibeciaghaaWaya
import Derived.Test.YtmmafibeciaghaaMaps
import Derived.Maps.RangeWalk
import Derived.OwnWalk
namespace Go.Proofs.Ytmmafibeciaghaa
open Go.RowKit Go.Maps

def intV (x : Int) : Value := .int .i64 x
theorem intV_inj : ∀ x y : Int, intV x = intV y → x = y := by
  intro x y h
  simpa [intV] using h
theorem zero_long (w : World) : (zeroValue 2).run Try.prog w = .ok (.int .i64 0) w := by kernel_rfl
theorem keyInt {x : Int} (h : InR x) : keyOf Try.prog 3 (intV x) = some (.int .i64 x) := keyOf_int_mk Try.underlying3 (wf_i64 h)

/-- What the map of a way holds: a key for each arc that is on it. -/
def mapWay (H : List HopN) : Int → Option Int := fun i => if H.any (fun h => h.arc == i) then some (surp H i) else none
theorem mapWay_snoc (H : List HopN) (h : HopN) (i : Int) : mapWay (H ++ [h]) i = if i = h.arc then some ((mapWay H i).getD 0 + (if h.back = true then -1 else 1)) else mapWay H i := by
  unfold mapWay
  rw [List.any_append, surp_snoc]
  by_cases e : i = h.arc
  · subst e
    rw [if_pos rfl, if_pos (by simp)]
    congr 1
    cases hh : H.any (fun k => k.arc == h.arc)
    · have : surp H h.arc = 0 := surp_none fun k hk e => by
        have := List.any_eq_false.1 hh k hk
        simp [e] at this
      rw [this]
      simp [sgn]
    · simp [sgn]
  · rw [if_neg e]
    have : (h.arc == i) = false := by simpa using fun e' => e e'.symm
    simp [this, sgn, show ¬ h.arc = i from fun e' => e e'.symm]
theorem mapWay_bound (H : List HopN) (i : Int) : -(H.length : Int) ≤ (mapWay H i).getD 0 ∧ (mapWay H i).getD 0 ≤ H.length := by
  unfold mapWay
  split
  · exact surp_bound H i
  · simp

set_option maxHeartbeats 2000000 in
theorem surplus_any (AH : Option Addr) (m cH : Nat) (H : List HopN) (w : World) (hH : Hops w w.heap.size AH m H) (hm : m ≤ 1000000000) (hR : ∀ h ∈ H, InR h.arc) :
    Calls Try.prog 30 #[.slice AH m cH] w fun e w' => e = .returned (.map (some w.heap.size)) ∧ MapsTo intV Try.prog 3 2 w' w.heap.size m (mapWay H) ∧ Below w.heap.size w w' := by
  have hlm := hH.len
  have hmm := @run_makeMap Try.prog
  have K := int_keyed (P := Try.prog) Try.underlying3
  go_enter Try.func30, Try.ntmps30
  go_wp2_with fail
  go_loopw [5, 9] (fun _ i wr => ∃ (k : Nat), k ≤ m ∧ i = .int .i64 k ∧ MapsTo intV Try.prog 3 2 wr w.heap.size k (mapWay (H.take k)) ∧ Below w.heap.size w wr) (fun _ i _ => m - (intOf i).toNat)
  case atStart => exact ⟨0, Nat.zero_le _, rfl, MapsTo.made_at rfl, below_alloc _⟩
  case round =>
    obtain ⟨k, hk, rfl, hM, hb⟩ := hrel
    clear hmm
    have hzM := hM.lt
    by_cases hlt : k < m
    · obtain ⟨bh, oh, ⟨ar, bk⟩, rfl, hbh, hh, d0, d1⟩ := hops_at (hH.below hb) hlt
      have har := hR _ (mem_at hh)
      simp only at d0 d1 har
      have hlk := (hM.alloc (.cells #[.int .i64 ar, .bool bk] 43)).look K Try.underlying60 Try.underlying2 (zero_long _) (keyInt har)
      have hbd := mapWay_bound (H.take k) ar
      rw [List.length_take] at hbd
      obtain ⟨y, hy⟩ : ∃ y, (mapWay (H.take k) ar).getD 0 = y := ⟨_, rfl⟩
      rw [hy] at hlk hbd
      have HY := Lib.hid hy; have HH := Lib.hid hh; clear hy hh
      have hlk' : (Instr.lookup 60 (.map (some w.heap.size)) (.int .i64 ar) false).run Try.prog (wr.alloc (.cells #[.int .i64 ar, .bool bk] 43)) = .ok (.int .i64 y) (wr.alloc (.cells #[.int .i64 ar, .bool bk] 43)) := hlk
      clear hlk
      cases bk
      · go_wp2_with (first
          | (at_mapUpdate
             refine wpList_mapUpdate_to _ rfl _ _ _ 60 rfl (hM.alloc _) K intV_inj Try.underlying60 Try.underlying2 (by unfold maxLen; omega) ar _ (keyInt har) (y + 1) (wf_i64 (by unfold InR; omega)) rfl rfl rfl ?_)
          | fail)
        intro w2 hM2 hg2
        go_wp2_with fail
        go_roundw
        case rel =>
          refine ⟨k + 1, by omega, by go_num, hM2.out.as fun i => ?_, ?_⟩
          · rw [take_at HH.out, mapWay_snoc]
            simp only
            split
            · rename_i e; subst e; rw [HY.out]; rfl
            · rfl
          · exact (hb.alloc hb.size _).grown hg2 (by have := hb.size; simp; omega) (fun j hj => by injection hj with hj; omega)
        case measure => simp [intOf]; omega
      · go_wp2_with (first
          | (at_mapUpdate
             refine wpList_mapUpdate_to _ rfl _ _ _ 60 rfl (hM.alloc _) K intV_inj Try.underlying60 Try.underlying2 (by unfold maxLen; omega) ar _ (keyInt har) (y - 1) (wf_i64 (by unfold InR; omega)) rfl rfl rfl ?_)
          | fail)
        intro w2 hM2 hg2
        go_wp2_with fail
        go_roundw
        case rel =>
          refine ⟨k + 1, by omega, by go_num, hM2.out.as fun i => ?_, ?_⟩
          · rw [take_at HH.out, mapWay_snoc]
            simp only
            split
            · rename_i e; subst e; rw [HY.out]; rfl
            · rfl
          · exact (hb.alloc hb.size _).grown hg2 (by have := hb.size; simp; omega) (fun j hj => by injection hj with hj; omega)
        case measure => simp [intOf]; omega
    · go_wp2_with fail
      go_ret
      rw [List.take_of_length_le (by omega)] at hM
      exact ⟨rfl, hM.mono hk, hb⟩

end Go.Proofs.Ytmmafibeciaghaa
