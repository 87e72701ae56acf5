/- Lists of bytes that came in, opened. -/
import Derived.Test.YtmmafibeciaghaaOpen
import Derived.Test.YtmmafibeciaghaaOpen3
import Derived.ChangeSlices
namespace Go.Proofs.Ytmmafibeciaghaa
open Go.ChangeShapes Go.WideShapes Go.ChangeAt Go.RowKit Go.Deep Go.Joins

section
variable {H : Type} {enc : TypeId × Value → H} {w : World} {base : Nat} {spare : Nat → Bool} {held : Bool}
theorem open_bytes_at {fuel : Nat} {v : Value} {x : DataW H × List MemPlace} (hf : DataW.trod enc Try.prog w base spare held fuel 35 [v] = some x) :
    ∃ (A : Option Addr) (n c : Nat) (L : List Int), v = .slice A n c ∧ Bytes w w.heap.size A n L ∧ (∀ x ∈ L, 0 ≤ x ∧ x ≤ 255) ∧ n ≤ c := by
  rcases open_ints Try.underlying35 Try.underlying5 (by kernel_rfl) hf with ⟨hcs, _⟩ | ⟨ad, len, cap, zs, hcs, _, hl, _, hz, _, hc, hw⟩
  · simp at hcs
    subst hcs
    exact ⟨none, 0, 0, [], rfl, RdBy.empty, by simp, Nat.le_refl _⟩
  · simp at hcs
    subst hcs
    have hlz : len ≤ zs.length := by rw [hz]; split <;> omega
    have hlen : (zs.take len).length = len := by simp; omega
    refine ⟨some ad, len, cap, zs.take len, rfl, ⟨hlen, fun hn => ?_⟩, fun x hx => byte_of_wf (hw x (List.mem_of_mem_take hx)), hl⟩
    have hc0 := hc 0 (by omega)
    have hsp : ad.spot = none := by simpa [Addr.add] using World.cell?_spot hc0
    obtain ⟨b, off, spot⟩ := ad
    simp only at hsp
    subst hsp
    refine ⟨b, off, rfl, by simpa [Addr.add] using World.block_lt_of_cell? w _ hc0, fun k x hk j u hu => ?_⟩
    have hkl : k < len := by have := (List.getElem?_eq_some_iff.1 hk).1; omega
    have hck := hc k (by omega)
    have ea : ∀ j, (⟨b, off, none⟩ : Addr).add j = ⟨b, off + j, none⟩ := fun j => by unfold Addr.add; split <;> simp_all
    rw [ea] at hck
    cases j with
    | zero =>
      simp only [byteCells, List.getElem?_cons_zero, Option.some.injEq] at hu
      subst hu
      have hx : zs.getD k 0 = x := by
        rw [List.getElem?_take_of_lt hkl] at hk
        simp [List.getD, hk]
      rw [hx] at hck
      simpa using hck
    | succ j => simp [byteCells] at hu
/-- Lists of bytes in memory, each with a header of its own. -/
def Lists (w : World) (B : Nat) (A : Option Addr) (n : Nat) : Prop :=
  ∀ k, k < n → ∃ (b off : Nat) (AU : Option Addr) (nu cu : Nat) (U : List Int), A = some ⟨b, off, none⟩ ∧ b < B ∧ w.cell? ⟨b, off + k, none⟩ = some (.slice AU nu cu) ∧ Bytes w B AU nu U ∧ (∀ x ∈ U, 0 ≤ x ∧ x ≤ 255) ∧ nu ≤ cu
theorem Lists.on {w w' : World} {A : Option Addr} {n : Nat} (h : Lists w w.heap.size A n) (hb : Below w.heap.size w w') : Lists w' w'.heap.size A n := fun k hk => by
  obtain ⟨b, off, AU, nu, cu, U, e, hlt, hc, hu, hr, hn⟩ := h k hk
  exact ⟨b, off, AU, nu, cu, U, e, Nat.lt_of_lt_of_le hlt hb.size, (hb.cell (p := ⟨b, off + k, none⟩) hlt).trans hc, hu.on hb, hr, hn⟩
theorem Lists.up {w w' : World} {B : Nat} {A : Option Addr} {n : Nat} (h : Lists w B A n) (hb : Below B w w') (hB : B ≤ w'.heap.size) : Lists w' w'.heap.size A n := fun k hk => by
  obtain ⟨b, off, AU, nu, cu, U, e, hlt, hc, hu, hr, hn⟩ := h k hk
  exact ⟨b, off, AU, nu, cu, U, e, Nat.lt_of_lt_of_le hlt hB, (hb.cell (p := ⟨b, off + k, none⟩) hlt).trans hc, (hu.below hb).more hB, hr, hn⟩
theorem open_lists {r : Reach} {b0 : Nat} {v : Value} {d : DataW H} {p : List MemPlace} (hv : Value.okWide Try.prog w r b0 46 v) (h : DataW.Trod enc Try.prog w base spare held 46 v d p) :
    ∃ (A : Option Addr) (n c : Nat), v = .slice A n c ∧ Lists w w.heap.size A n ∧ n ≤ c := by
  obtain ⟨a, len, cap, rfl⟩ := okWide_slice Try.underlying46 hv
  obtain ⟨fuel, hf⟩ := h
  rcases open_slice Try.underlying46 hf with ⟨hcs, _⟩ | ⟨ad, n, c, m, k, D, Pl, hcs, hb, hl, hm, hmm, hx, hi⟩
  · simp [Value.cells] at hcs
    obtain ⟨rfl, rfl, rfl⟩ := hcs
    exact ⟨none, 0, 0, rfl, fun k hk => absurd hk (by omega), Nat.le_refl _⟩
  · simp [Value.cells] at hcs
    obtain ⟨rfl, rfl, rfl⟩ := hcs
    have hc1 : Try.prog.cellsOf 35 = 1 := by kernel_rfl
    have hlm : len ≤ m := by rw [hmm]; split <;> omega
    refine ⟨some ad, len, cap, rfl, fun i hil => ?_, hl⟩
    obtain ⟨cs', hc, ht⟩ := hi i (by omega)
    rw [hc1] at hc
    obtain ⟨_, hcl, hat⟩ := World.cells?_some hc
    match cs', hcl with
    | [v0], _ =>
      have s0 := hat 0 (by omega)
      obtain ⟨AU, nu, cu, U, rfl, hU, hUr, hUc⟩ := open_bytes_at ht
      have hc0 : w.cell? (ad.add i) = some (.slice AU nu cu) := by simpa [Go.Deep.add_add] using s0
      obtain ⟨cs0, hc00, _⟩ := hi 0 (by omega)
      rw [hc1] at hc00
      obtain ⟨_, hcl0, hat0⟩ := World.cells?_some hc00
      match cs0, hcl0 with
      | [v00], _ =>
        have s00 := hat0 0 (by omega)
        have hsp : ad.spot = none := by
          have : w.cell? ad = some v00 := by simpa [Addr.add] using s00
          exact World.cell?_spot this
        obtain ⟨b, off, spot⟩ := ad
        simp only at hsp
        subst hsp
        have ea : ∀ j, (⟨b, off, none⟩ : Addr).add j = ⟨b, off + j, none⟩ := fun j => by unfold Addr.add; split <;> simp_all
        rw [ea] at hc0
        exact ⟨b, off, AU, nu, cu, U, rfl, World.block_lt_of_cell? w ⟨b, off + i, none⟩ hc0, hc0, hU, hUr, hUc⟩

end

end Go.Proofs.Ytmmafibeciaghaa
