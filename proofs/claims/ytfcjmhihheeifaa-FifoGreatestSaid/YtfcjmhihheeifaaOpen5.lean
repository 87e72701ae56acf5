/- A list of Booleans that came in, opened. -/
import Derived.Test.YtfcjmhihheeifaaOpens
import Derived.Test.YtfcjmhihheeifaaCells
import Derived.ChangeSlices
namespace Go.Proofs.Ytfcjmhihheeifaa
open Go.ChangeShapes Go.WideShapes Go.ChangeAt Go.RowKit Go.Deep Go.Joins
set_option maxRecDepth 100000

section
variable {H : Type} {enc : TypeId × Value → H} {w : World} {base : Nat} {spare : Nat → Bool} {held : Bool}
theorem open_bools {r : Reach} {b0 : Nat} {v : Value} {d : DataW H} {p : List MemPlace} (hv : Value.okWide Try.prog w r b0 26 v) (h : DataW.Trod enc Try.prog w base spare held 26 v d p) :
    ∃ (A : Option Addr) (n c : Nat) (K : List Bool), v = .slice A n c ∧ Bools w w.heap.size A n K ∧ n ≤ c := by
  obtain ⟨A0, n0, c0, rfl⟩ := okWide_slice Try.underlying26 hv
  obtain ⟨fuel, hf⟩ := h
  rcases open_slice Try.underlying26 hf with ⟨hcs, _⟩ | ⟨a, len, cap, m, k, D, Pl, hcs, hb, hl, hm, hmm, hx, hi⟩
  · simp [Value.cells] at hcs
    obtain ⟨rfl, rfl, rfl⟩ := hcs
    exact ⟨none, 0, 0, [], rfl, RdBy.empty, Nat.le_refl _⟩
  · simp [Value.cells] at hcs
    obtain ⟨rfl, rfl, rfl⟩ := hcs
    have hc1 : Try.prog.cellsOf 4 = 1 := by kernel_rfl
    have hlm : n0 ≤ m := by rw [hmm]; split <;> omega
    have each : ∀ i, i < n0 → ∃ q : Bool, w.cell? (a.add (i * 1)) = some (.bool q) := by
      intro i hil
      obtain ⟨cs', hc, ht⟩ := hi i (by omega)
      rw [hc1] at hc
      obtain ⟨_, hcl, hat⟩ := World.cells?_some hc
      obtain ⟨q, rfl, _⟩ := DataW.trod_bool Try.underlying4 ht
      have s0 := hat 0 (by omega)
      exact ⟨q, by simpa [Go.Deep.add_add] using s0⟩
    obtain ⟨K, hll, hlp⟩ := list_of_each each
    refine ⟨some a, n0, c0, K, rfl, ⟨hll, fun hn => ?_⟩, hl⟩
    obtain ⟨q, hc0⟩ := each 0 hn
    have hsp : a.spot = none := by simpa [Addr.add] using World.cell?_spot hc0
    obtain ⟨b, off, spot⟩ := a
    simp only at hsp
    subst hsp
    refine ⟨b, off, rfl, by simpa [Addr.add] using World.block_lt_of_cell? w _ hc0, fun k q hk j u hu => ?_⟩
    have s0 := hlp k q hk
    have ea : ∀ j, (⟨b, off, none⟩ : Addr).add j = ⟨b, off + j, none⟩ := fun j => by unfold Addr.add; split <;> simp_all
    rw [ea] at s0
    match j, hu with
    | 0, hu => simp [boolCells] at hu; subst hu; simpa using s0
    | j + 1, hu => simp [boolCells] at hu
end

end Go.Proofs.Ytfcjmhihheeifaa
