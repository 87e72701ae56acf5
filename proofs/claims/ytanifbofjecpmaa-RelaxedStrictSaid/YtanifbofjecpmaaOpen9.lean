/- A slice of []uint16 that came in, opened. -/
import Derived.Test.YtanifbofjecpmaaOpen3
namespace Go.Proofs.Ytanifbofjecpmaa
open Go.RowKit

def halfCells (x : Int) : List Value := [.int .u16 x]
abbrev Halves := RdBy halfCells 1
theorem halves_at {w : World} {B n : Nat} {A : Option Addr} {l : List Int} (h : Halves w B A n l) {k : Nat} (hk : k < n) :
    ∃ (b off : Nat) (x : Int), A = some ⟨b, off, none⟩ ∧ b < B ∧ l[k]? = some x ∧ w.cell? ⟨b, off + k, none⟩ = some (.int .u16 x) := by
  obtain ⟨a, ha⟩ := h.get hk
  obtain ⟨b, off, e, hb, hc⟩ := h.2 (by omega)
  exact ⟨b, off, a, e, hb, ha, by simpa using hc k a ha 0 _ rfl⟩
/-- The first q of a slice. -/
theorem halves_slice (A : Option Addr) (n c q : Nat) (hq : q ≤ c) (W : World) : (Instr.sliceAt 55 (.slice A n c) none (some (.int .i64 (q : Int))) none).run Try.prog W = .ok (.slice A q c) W := by
  have ht : Try.prog.underlying 55 = some (.slice (Try.prog.elem 55)) := by kernel_rfl
  have hs : ∃ s, ∀ W, (sizeOf (Try.prog.elem 55)).run Try.prog W = .ok s W := ⟨1, fun W => by kernel_rfl⟩
  obtain ⟨s, hs⟩ := hs
  rw [run_sliceAt_slice _ _ _ _ _ _ ht, run_slice_h _ _ _ _ _ ht _ _ (by omega) (by omega), hs]
  simp [Result.andThen, sliced, addr_zero]

open Go.ChangeShapes Go.WideShapes Go.ChangeAt Go.Deep Go.Joins
set_option maxRecDepth 100000

section
variable {H : Type} {enc : TypeId × Value → H} {w : World} {base : Nat} {spare : Nat → Bool} {held : Bool}
theorem half_of_wf {x : Int} (h : (Lit.int .u16 x).wf = true) : 0 ≤ x ∧ x ≤ 65535 := by
  simp [Lit.wf, IntKind.min, IntKind.max, IntKind.signed, IntKind.bits] at h
  exact ⟨by omega, by omega⟩
theorem open_u16s {r : Reach} {b0 : Nat} {v : Value} {d : DataW H} {p : List MemPlace} (hv : Value.okWide Try.prog w r b0 55 v) (h : DataW.Trod enc Try.prog w base spare held 55 v d p) :
    ∃ (A : Option Addr) (n c : Nat) (L : List Int), v = .slice A n c ∧ Halves w w.heap.size A n L ∧ (∀ x ∈ L, 0 ≤ x ∧ x ≤ 65535) ∧ n ≤ c := by
  obtain ⟨a, len, cap, rfl⟩ := okWide_slice Try.underlying55 hv
  obtain ⟨fuel, hf⟩ := h
  rcases open_ints Try.underlying55 Try.underlying57 (by kernel_rfl) hf with ⟨hcs, _⟩ | ⟨ad, n, c, zs, hcs, _, hl, _, hz, _, hc, hw⟩
  · simp [Value.cells] at hcs
    obtain ⟨rfl, rfl, rfl⟩ := hcs
    exact ⟨none, 0, 0, [], rfl, RdBy.empty, by simp, Nat.le_refl _⟩
  · simp [Value.cells] at hcs
    obtain ⟨rfl, rfl, rfl⟩ := hcs
    have hlz : len ≤ zs.length := by rw [hz]; split <;> omega
    have hlen : (zs.take len).length = len := by simp; omega
    refine ⟨some ad, len, cap, zs.take len, rfl, ⟨hlen, fun hn => ?_⟩, fun x hx => half_of_wf (hw x (List.mem_of_mem_take hx)), hl⟩
    have hc0 := hc 0 (by omega)
    have hsp : ad.spot = none := by simpa [Addr.add] using World.cell?_spot hc0
    obtain ⟨b, off, spot⟩ := ad
    simp only at hsp
    subst hsp
    refine ⟨b, off, rfl, by simpa [Addr.add] using World.block_lt_of_cell? w _ hc0, fun k x hk j u hu => ?_⟩
    have hkl : k < len := by have := (List.getElem?_eq_some_iff.1 hk).1; omega
    have hck := hc k (by omega)
    have ea : ∀ j, (⟨b, off, none⟩ : Addr).add j = ⟨b, off + j, none⟩ := fun j => by unfold Addr.add; split <;> simp_all
    rw [ea] at hck
    cases j with
    | zero =>
      simp only [halfCells, List.getElem?_cons_zero, Option.some.injEq] at hu
      subst hu
      have hx : zs.getD k 0 = x := by
        rw [List.getElem?_take_of_lt hkl] at hk
        simp [List.getD, hk]
      rw [hx] at hck
      simpa using hck
    | succ j => simp [halfCells] at hu
end

end Go.Proofs.Ytanifbofjecpmaa
