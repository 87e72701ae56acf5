/- Layer 2: slices.Clone. -/
import Derived.Test.YtbmndghgmndgmaaCsrb
namespace Go.Proofs.Ytbmndghgmndgmaa
open Go.RowKit

set_option maxHeartbeats 1000000 in
theorem clone_any (g n c : Nat) (L : List Int) (w : World) (hA : Ints w w.heap.size (some ⟨g, 0, none⟩) n L) (hn : n ≤ 1000000000) :
    Calls Try.prog 31 #[.slice (some ⟨g, 0, none⟩) n c] w fun e w' => ∃ A c', e = .returned (.slice A n c') ∧ w'.ownsRow w.heap.size 3 1 (.slice A n c') n (L.flatMap intCells) ∧ Below w.heap.size w w' := by
  obtain ⟨i0, hi, hz0, hz1, hz2⟩ := info_parts int_info
  have HI := Lib.hid hi; have HZ0 := Lib.hid hz0; have HZ1 := Lib.hid hz1; have HZ2 := Lib.hid hz2
  clear hi hz0 hz1 hz2
  have q22 : ∀ (w : World) (a : Option Addr) (n c n' c' : Nat), (binOp .eql 26 (.slice a n c) (.slice none n' c')).run Try.prog w = .ok (.bool a.isNone) w := fun w a n c n' c' => Lib.run_eql_slice_nil w _ _ a n c n' c' Try.underlying26
  go_enter Try.func31, Try.ntmps31
  go_wp2_with (at_builtin; refine wpList_append_row _ rfl (.tmp 5) (.tmp 6) _ rfl w.heap.size 3 i0 _ 1 8 Try.underlying26 HI.out HZ0.out HZ1.out HZ2.out rfl (by omega) (some ⟨w.heap.size, 0, none⟩) 0 0 [] rfl (World.ownsRow_made w #[] 0 (Nat.le_refl _) (Nat.zero_le _) rfl) (some ⟨g, 0, none⟩) n c (L.flatMap intCells) rfl ?_ ?_ int_one ?_ ?_ ?_ ?_)
  · rw [flat_len (int_len L), hA.len]
  · exact RdBy.src (int_len L) (hA.below (below_alloc _))
  · unfold maxLen; omega
  · omega
  · simp
  · intro A2 c2 w2 HO2 hg HX
    go_wp2
    go_ret
    refine ⟨A2, c2, by simp, by simpa using HO2.out, (below_alloc _).grown hg (by simp) (by intro k hk; simp [Value.ownBlock] at hk; omega)⟩

end Go.Proofs.Ytbmndghgmndgmaa
