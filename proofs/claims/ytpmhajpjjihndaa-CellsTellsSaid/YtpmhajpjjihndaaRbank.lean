/- Layer 10: the document's own bank of cells: Is, Load, Put. -/
import Derived.Test.YtpmhajpjjihndaaBankp
namespace Go.Proofs.Ytpmhajpjjihndaa
open Go.RowKit
set_option maxRecDepth 100000

abbrev nums (L : List Int) : List Value := L.map (Value.int .i64)
theorem putV_nat (L : List Int) (i : Nat) (x : Int) : putV L (i : Int) x = L.set i x := by
  unfold putV
  rw [if_pos (by omega), Int.toNat_natCast]
/-- A row of numbers of the call's own. -/
abbrev Row (W : World) (base : Nat) (A : Option Addr) (n c : Nat) (L : List Int) : Prop := W.ownsRow base 2 1 (.slice A n c) n (nums L)
section
variable {W W' : World} {base n c g : Nat} {A : Option Addr} {L : List Int}
theorem Row.len (h : Row W base A n c L) : L.length = n := by
  have := h.1
  simpa using this
theorem Row.cel (h : Row W base A n c L) {k : Nat} (hk : k < n) : ∃ g, A = some ⟨g, 0, none⟩ ∧ base ≤ g ∧ g < W.heap.size ∧ W.cell? ⟨g, k, none⟩ = some (.int .i64 (cellV L (k : Int))) := by
  obtain ⟨g, rfl, h1, h2⟩ := own_form h (by omega)
  refine ⟨g, rfl, h1, h2, ?_⟩
  have hl : k < L.length := by rw [Row.len h]; exact hk
  have := World.ownsRow.cells h (g := g) rfl k (.int .i64 (cellV L (k : Int))) (by rw [cellV_at]; simp [hl])
  rw [addr_add] at this
  simpa using this
theorem Row.on (h : Row W base A n c L) (hB : Below W.heap.size W W') : Row W' base A n c L :=
  World.ownsRow.kept (row := none) h ⟨hB.os, hB.tape, hB.output, hB.size, fun k hk _ => hB.block k hk⟩ (by
    cases hv : (Value.slice A n c).ownBlock with
    | none => exact .inl rfl
    | some k => exact .inr (by simp))
theorem Row.set (h : Row W base (some ⟨g, 0, none⟩) n c L) (k : Nat) (x : Int) : Row (W.setCell ⟨g, k, none⟩ (.int .i64 x)) base (some ⟨g, 0, none⟩) n c (L.set k x) := by
  have := (World.ownsRow.stored h k (.int .i64 x)).1
  rw [← List.map_set] at this
  exact this
theorem Row.src (h : Row W base A n c L) : 0 < n → ∃ ad, A = some ad ∧ ∀ j u, (nums L)[j]? = some u → W.cell? (ad.add j) = some u := fun hn => by
  obtain ⟨g, rfl, _, _⟩ := own_form h hn
  exact ⟨_, rfl, World.ownsRow.cells h rfl⟩
end

theorem behind_app {w w' : World} {n c' : Nat} {A' : Option Addr} {L : List Int} (ho : Hid (w'.ownsRow w.heap.size 2 1 (.slice A' (0 + n) c') (0 + n) ([] ++ nums L))) (hg : (w.alloc (.cells #[] 2)).grownBy w' (Value.slice (some ⟨w.heap.size, 0, none⟩) 0 0).ownBlock)
    (hmade : (w.alloc (.cells #[] 2)).ownsRow w.heap.size 2 1 (.slice (some ⟨w.heap.size, 0, none⟩) 0 0) 0 []) : Row w' w.heap.size A' n c' L ∧ Below w.heap.size w w' := by
  refine ⟨?_, below_grown ((Below.refl w.heap.size w).alloc (Nat.le_refl _) (.cells #[] 2)) hg hmade (Nat.le_refl _) (by simp)⟩
  have := ho.out
  rwa [Nat.zero_add, List.nil_append] at this
theorem is_is (A : Option Addr) (n c : Nat) (i : Int) (w : World) :
    Calls Try.prog 17 #[.slice A n c, .int .i64 i] w fun e w' => e = .returned (.bool (decide (0 ≤ i ∧ i < (n : Int)))) ∧ w' = w := by
  by_cases h0 : 0 ≤ i
  · by_cases h1 : i < (n : Int)
    · rw [decide_eq_true (p := _ ∧ _) ⟨h0, h1⟩]
      go_enter Try.func17, Try.ntmps17
      go_wp2
      go_ret
      simp
    · rw [decide_eq_false (p := _ ∧ _) (fun c => h1 c.2)]
      go_enter Try.func17, Try.ntmps17
      go_wp2
      go_ret
      simp
  · rw [decide_eq_false (p := _ ∧ _) (fun c => h0 c.1)]
    go_enter Try.func17, Try.ntmps17
    go_wp2
    go_ret
    simp

theorem rload_is {base n c : Nat} {A : Option Addr} {L : List Int} {w : World} (h : Row w base A n c L) (i : Int) :
    Calls Try.prog 12 #[.slice A n c, .int .i64 i] w fun e w' => e = .returned (.int .i64 (cellV L i)) ∧ w' = w := by
  by_cases hi : 0 ≤ i ∧ i < (n : Int)
  · obtain ⟨k, rfl⟩ := Int.eq_ofNat_of_zero_le hi.1
    obtain ⟨g, rfl, _, _, hc⟩ := Row.cel h (k := k) (by omega)
    go_enter Try.func12, Try.ntmps12
    go_wp2_with (go_at_call 17; refine (is_is _ _ _ _ _).mono ?_; rintro e w9 ⟨rfl, hw9⟩; rw [hw9, decide_eq_true hi]; clear hw9 w9)
    go_ret
    exact ⟨rfl, rfl⟩
  · rw [cellV_out (Row.len h) hi]
    go_enter Try.func12, Try.ntmps12
    go_wp2_with (go_at_call 17; refine (is_is _ _ _ _ _).mono ?_; rintro e w9 ⟨rfl, hw9⟩; rw [hw9, decide_eq_false hi]; clear hw9 w9)
    go_ret
    exact ⟨rfl, rfl⟩

theorem rput_is {base n c : Nat} {A : Option Addr} {L : List Int} {w : World} (h : Row w base A n c L) (hn : n ≤ 40) (hb : base ≤ w.heap.size) (i x : Int) :
    Calls Try.prog 15 #[.slice A n c, .int .i64 i, .int .i64 x] w fun e w' => ∃ A' c', e = .returned (.slice A' n c') ∧ Row w' base A' n c' (putV L i x) ∧ Below w.heap.size w w' := by
  obtain ⟨i1, hi, hz0, hz1, hz2⟩ := info_parts long_info
  go_enter Try.func15, Try.ntmps15
  have H := Lib.hid h
  have hmade : (w.alloc (.cells #[] 2)).ownsRow w.heap.size 2 1 (.slice (some ⟨w.heap.size, 0, none⟩) 0 0) 0 [] := World.ownsRow_made w #[] 0 (Nat.le_refl _) (Nat.zero_le _) rfl
  have hsrc := Row.src (Row.on h ((Below.refl w.heap.size w).alloc (Nat.le_refl _) (.cells #[] 2)))
  have hlen := Row.len h
  clear h
  by_cases hin : 0 ≤ i ∧ i < (n : Int)
  · obtain ⟨k, rfl⟩ := Int.eq_ofNat_of_zero_le hin.1
    go_wp2_with (at_builtin; refine wpList_append_row _ rfl _ _ _ rfl w.heap.size 2 i1 _ 1 8 Try.underlying30 hi hz0 hz1 hz2 rfl (by omega) (some ⟨w.heap.size, 0, none⟩) 0 0 [] rfl hmade A n c (nums L) rfl (by simpa using hlen) hsrc (fun u hu => by obtain ⟨x, _, rfl⟩ := List.mem_map.1 hu; rfl) (by unfold maxLen; omega) (by omega) (by simp) ?_; intro A' c' w' ho' hg _; have hO := behind_app ho' hg hmade; obtain ⟨g, rfl, hgb, -, hc⟩ := Row.cel hO.1 (k := k) (by omega); have hf := World.ownsRow.frozenAt hO.1 k; rw [Nat.zero_add]; have HO := Lib.hid hO; clear ho' hg hO)
    go_ret
    exact ⟨_, _, rfl, own_less (by rw [putV_nat]; exact Row.set HO.out.1 k x) hb, HO.out.2.setCell hgb _⟩
  · by_cases h0 : 0 ≤ i
    · have h1 : ¬ i < (n : Int) := fun c => hin ⟨h0, c⟩
      go_wp2_with (at_builtin; refine wpList_append_row _ rfl _ _ _ rfl w.heap.size 2 i1 _ 1 8 Try.underlying30 hi hz0 hz1 hz2 rfl (by omega) (some ⟨w.heap.size, 0, none⟩) 0 0 [] rfl hmade A n c (nums L) rfl (by simpa using hlen) hsrc (fun u hu => by obtain ⟨x, _, rfl⟩ := List.mem_map.1 hu; rfl) (by unfold maxLen; omega) (by omega) (by simp) ?_; intro A' c' w' ho' hg _; have hO := behind_app ho' hg hmade; rw [Nat.zero_add]; have HO := Lib.hid hO; clear ho' hg hO)
      go_ret
      exact ⟨_, _, rfl, own_less (by rw [putV_out hlen hin]; exact HO.out.1) hb, HO.out.2⟩
    · go_wp2_with (at_builtin; refine wpList_append_row _ rfl _ _ _ rfl w.heap.size 2 i1 _ 1 8 Try.underlying30 hi hz0 hz1 hz2 rfl (by omega) (some ⟨w.heap.size, 0, none⟩) 0 0 [] rfl hmade A n c (nums L) rfl (by simpa using hlen) hsrc (fun u hu => by obtain ⟨x, _, rfl⟩ := List.mem_map.1 hu; rfl) (by unfold maxLen; omega) (by omega) (by simp) ?_; intro A' c' w' ho' hg _; have hO := behind_app ho' hg hmade; rw [Nat.zero_add]; have HO := Lib.hid hO; clear ho' hg hO)
      go_ret
      exact ⟨_, _, rfl, own_less (by rw [putV_out hlen hin]; exact HO.out.1) hb, HO.out.2⟩
end Go.Proofs.Ytpmhajpjjihndaa
