/- Lists of bytes. A list of bytes that came in, opened. -/
import Derived.Test.YtfcjmhihheeifaaCells
import Derived.Deep.DeepCutAuto
import Derived.Deep.CutBlock
import Derived.OwnWalk
import Derived.Test.YtfcjmhihheeifaaOpens
import Derived.ChangeSlices
/-! Byt -/
namespace Go.Proofs.Ytfcjmhihheeifaa
open Go.RowKit

def byteCells (x : Int) : List Value := [.int .u8 x]
abbrev Bytes := RdBy byteCells 1
theorem bytes_at {w : World} {B n : Nat} {A : Option Addr} {l : List Int} (h : Bytes w B A n l) {k : Nat} (hk : k < n) :
    ∃ (b off : Nat) (x : Int), A = some ⟨b, off, none⟩ ∧ b < B ∧ l[k]? = some x ∧ w.cell? ⟨b, off + k, none⟩ = some (.int .u8 x) := by
  obtain ⟨a, ha⟩ := h.get hk
  obtain ⟨b, off, e, hb, hc⟩ := h.2 (by omega)
  exact ⟨b, off, a, e, hb, ha, by simpa using hc k a ha 0 _ rfl⟩
/-- A shorter slice of the same. -/
theorem RdBy.short {α : Type} {f : α → List Value} {size : Nat} {w : World} {B n m : Nat} {A : Option Addr} {l : List α} (h : RdBy f size w B A n l) (hm : m ≤ n) : RdBy f size w B A m (l.take m) :=
  ⟨by rw [List.length_take, h.1]; omega, fun h0 => by
    obtain ⟨b, off, e, hb, hc⟩ := h.2 (by omega)
    refine ⟨b, off, e, hb, fun k a ha j u hu => hc k a ?_ j u hu⟩
    have hk : k < m := by have := (List.getElem?_eq_some_iff.1 ha).1; rw [List.length_take] at this; omega
    rwa [List.getElem?_take_of_lt hk] at ha⟩
theorem own_below {w w' : World} {base n c B : Nat} {e : TypeId} {size : Nat} {A : Option Addr} {xs : List Value} (h : w.ownsRow base e size (.slice A n c) n xs) (hb : Below B w w') (hB : w.heap.size ≤ B) : w'.ownsRow base e size (.slice A n c) n xs := by
  refine ⟨h.1, h.2.imp id ?_⟩
  rintro ⟨g, cap, cur, hv, h1, hh, r⟩
  have hlt := (Array.getElem?_eq_some_iff.1 hh).1
  exact ⟨g, cap, cur, hv, h1, (hb.block g (by omega)).trans hh, r⟩

theorem addr_zero (a : Addr) : a.add 0 = a := by
  obtain ⟨b, o, s⟩ := a
  cases s <;> simp [Addr.add]
/-- The first q of a slice. -/
theorem bytes_slice (A : Option Addr) (n c q : Nat) (hq : q ≤ c) (W : World) : (Instr.sliceAt 66 (.slice A n c) none (some (.int .i64 (q : Int))) none).run Try.prog W = .ok (.slice A q c) W := by
  have ht : Try.prog.underlying 66 = some (.slice (Try.prog.elem 66)) := by kernel_rfl
  have hs : ∃ s, ∀ W, (sizeOf (Try.prog.elem 66)).run Try.prog W = .ok s W := ⟨1, fun W => by kernel_rfl⟩
  obtain ⟨s, hs⟩ := hs
  rw [run_sliceAt_slice _ _ _ _ _ _ ht, run_slice_h _ _ _ _ _ ht _ _ (by omega) (by omega), hs]
  simp [Result.andThen, sliced, addr_zero]


end Go.Proofs.Ytfcjmhihheeifaa

/-! Open3 -/
namespace Go.Proofs.Ytfcjmhihheeifaa
open Go.ChangeShapes Go.WideShapes Go.ChangeAt Go.RowKit Go.Deep Go.Joins
set_option maxRecDepth 100000

section
variable {H : Type} {enc : TypeId × Value → H} {w : World} {base : Nat} {spare : Nat → Bool} {held : Bool}
theorem byte_of_wf {x : Int} (h : (Lit.int .u8 x).wf = true) : 0 ≤ x ∧ x ≤ 255 := by
  simp [Lit.wf, IntKind.min, IntKind.max, IntKind.signed, IntKind.bits] at h
  exact ⟨by omega, by omega⟩
theorem open_bytes {r : Reach} {b0 : Nat} {v : Value} {d : DataW H} {p : List MemPlace} (hv : Value.okWide Try.prog w r b0 66 v) (h : DataW.Trod enc Try.prog w base spare held 66 v d p) :
    ∃ (A : Option Addr) (n c : Nat) (L : List Int), v = .slice A n c ∧ Bytes w w.heap.size A n L ∧ (∀ x ∈ L, 0 ≤ x ∧ x ≤ 255) ∧ n ≤ c := by
  obtain ⟨a, len, cap, rfl⟩ := okWide_slice Try.underlying66 hv
  obtain ⟨fuel, hf⟩ := h
  rcases open_ints Try.underlying66 Try.underlying5 (by kernel_rfl) hf with ⟨hcs, _⟩ | ⟨ad, n, c, zs, hcs, _, hl, _, hz, _, hc, hw⟩
  · simp [Value.cells] at hcs
    obtain ⟨rfl, rfl, rfl⟩ := hcs
    exact ⟨none, 0, 0, [], rfl, RdBy.empty, by simp, Nat.le_refl _⟩
  · simp [Value.cells] at hcs
    obtain ⟨rfl, rfl, rfl⟩ := hcs
    have hlz : len ≤ zs.length := by rw [hz]; split <;> omega
    have hlen : (zs.take len).length = len := by simp; omega
    refine ⟨some ad, len, cap, zs.take len, rfl, ⟨hlen, fun hn => ?_⟩, fun x hx => byte_of_wf (hw x (List.mem_of_mem_take hx)), hl⟩
    have hc0 := hc 0 (by omega)
    have hsp : ad.spot = none := by simpa [Addr.add] using World.cell?_spot hc0
    obtain ⟨b, off, spot⟩ := ad
    simp only at hsp
    subst hsp
    refine ⟨b, off, rfl, by simpa [Addr.add] using World.block_lt_of_cell? w _ hc0, fun k x hk j u hu => ?_⟩
    have hkl : k < len := by have := (List.getElem?_eq_some_iff.1 hk).1; omega
    have hck := hc k (by omega)
    have ea : ∀ j, (⟨b, off, none⟩ : Addr).add j = ⟨b, off + j, none⟩ := fun j => by unfold Addr.add; split <;> simp_all
    rw [ea] at hck
    cases j with
    | zero =>
      simp only [byteCells, List.getElem?_cons_zero, Option.some.injEq] at hu
      subst hu
      have hx : zs.getD k 0 = x := by
        rw [List.getElem?_take_of_lt hkl] at hk
        simp [List.getD, hk]
      rw [hx] at hck
      simpa using hck
    | succ j => simp [byteCells] at hu
end

end Go.Proofs.Ytfcjmhihheeifaa
