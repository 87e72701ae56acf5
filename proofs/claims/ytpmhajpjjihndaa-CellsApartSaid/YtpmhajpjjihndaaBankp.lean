/- Layer 10: a bank's functions by the numbers behind them; what a write into a bank leaves alone. -/
import Derived.Test.YtpmhajpjjihndaaBank
namespace Go.Proofs.Ytpmhajpjjihndaa
open Go.RowKit
set_option maxRecDepth 100000

/-- Nothing is written but a cell of block g. -/
def Wrote (g : Nat) (w w' : World) : Prop := w' = w ∨ ∃ i u, w' = w.setCell ⟨g, i, none⟩ u
section
variable {g b g' n B : Nat} {w w' u : World} {L : List Int} {t : TypeId} {cs : Array Value}
theorem Wrote.blk (h : Wrote g w w') (hb : Blk w b t cs) (hne : b ≠ g) : Blk w' b t cs := by
  rcases h with rfl | ⟨i, v, rfl⟩
  · exact hb
  · exact hb.far hne _
theorem Wrote.below (h : Wrote g w w') (hb : Below B u w) (hg : B ≤ g) : Below B u w' := by
  rcases h with rfl | ⟨i, v, rfl⟩
  · exact hb
  · exact hb.setCell hg _
theorem Wrote.bank (h : Wrote g w w') (hb : BankAt w b g' n L) (h1 : b ≠ g) (h2 : g' ≠ g) : BankAt w' b g' n L := by
  rcases h with rfl | ⟨i, v, rfl⟩
  · exact hb
  · exact hb.far h1 h2 _
theorem Wrote.size (h : Wrote g w w') : w'.heap.size = w.heap.size := by
  rcases h with rfl | ⟨i, v, rfl⟩
  · rfl
  · simp
end

theorem cellV_at {L : List Int} {k : Nat} : cellV L (k : Int) = L[k]?.getD 0 := by
  unfold cellV
  rw [if_pos (by omega), Int.toNat_natCast]
theorem cellV_put {L : List Int} {i : Int} {n : Nat} (hl : L.length = n) (x : Int) : cellV (putV L i x) i = if 0 ≤ i ∧ i < (n : Int) then x else 0 := by
  by_cases h : 0 ≤ i ∧ i < (n : Int)
  · rw [if_pos h]
    obtain ⟨k, rfl⟩ := Int.eq_ofNat_of_zero_le h.1
    have hk : k < L.length := by omega
    rw [cellV_at, putV, if_pos (by omega), Int.toNat_natCast]
    simp [hk]
  · rw [if_neg h, putV_out hl h, cellV_out hl h]
theorem cellV_far {L : List Int} {i j : Int} (hne : j ≠ i) (x : Int) : cellV (putV L i x) j = cellV L j := by
  unfold cellV putV
  split
  · split
    · rw [List.getElem?_set_ne (by omega)]
    · rfl
  · rfl

section
variable {w : World} {b g n : Nat} {L : List Int}
theorem store_put (h : BankAt w b g n L) (i x : Int) :
    Calls Try.prog 14 #[.pointer (some ⟨b, 0, none⟩), .int .i64 i, .int .i64 x] w fun e w' => e = .returned (.tuple #[]) ∧ BankAt w' b g n (putV L i x) ∧ Wrote g w w' := by
  refine (store_bank h i x).mono ?_
  rintro e w' ⟨rfl, hw⟩
  refine ⟨rfl, ?_⟩
  by_cases hi : 0 ≤ i ∧ i < (n : Int)
  · rw [if_pos hi] at hw
    rw [hw, putV, if_pos hi.1]
    exact ⟨h.put _ _, .inr ⟨_, _, rfl⟩⟩
  · rw [if_neg hi] at hw
    rw [hw, putV_out h.len hi]
    exact ⟨h, .inl rfl⟩
theorem add_put (h : BankAt w b g n L) (i x : Int) :
    Calls Try.prog 16 #[.pointer (some ⟨b, 0, none⟩), .int .i64 i, .int .i64 x] w fun e w' =>
      e = .returned (.int .i64 (cellV (putV L i (wrap64 (cellV L i + x))) i)) ∧ BankAt w' b g n (putV L i (wrap64 (cellV L i + x))) ∧ Wrote g w w' := by
  refine (add_bank h i x).mono ?_
  intro e w' hew
  rw [cellV_put h.len]
  by_cases hi : 0 ≤ i ∧ i < (n : Int)
  · rw [if_pos hi] at hew ⊢
    injection hew with he hw
    subst he
    refine ⟨rfl, ?_⟩
    rw [hw, putV, if_pos hi.1]
    exact ⟨h.put _ _, .inr ⟨_, _, rfl⟩⟩
  · rw [if_neg hi] at hew ⊢
    injection hew with he hw
    subst he
    refine ⟨rfl, ?_⟩
    rw [hw, putV_out h.len hi]
    exact ⟨h, .inl rfl⟩
theorem cas_put (h : BankAt w b g n L) (i old x : Int) :
    Calls Try.prog 18 #[.pointer (some ⟨b, 0, none⟩), .int .i64 i, .int .i64 old, .int .i64 x] w fun e w' =>
      e = .returned (.bool (decide ((0 ≤ i ∧ i < (n : Int)) ∧ cellV L i = old))) ∧ BankAt w' b g n (if (0 ≤ i ∧ i < (n : Int)) ∧ cellV L i = old then putV L i x else L) ∧ Wrote g w w' := by
  refine (cas_bank h i old x).mono ?_
  rintro e w' ⟨rfl, hw⟩
  refine ⟨rfl, ?_⟩
  by_cases hi : (0 ≤ i ∧ i < (n : Int)) ∧ cellV L i = old
  · rw [if_pos hi] at hw ⊢
    rw [hw, putV, if_pos hi.1.1]
    exact ⟨h.put _ _, .inr ⟨_, _, rfl⟩⟩
  · rw [if_neg hi] at hw ⊢
    rw [hw]
    exact ⟨h, .inl rfl⟩
end
end Go.Proofs.Ytpmhajpjjihndaa
