/- Parts of a row. -/
import Derived.Test.YtnhfdmfciddmaaaGridp
import Derived.Test.YtnhfdmfciddmaaaRepeat
namespace Go.Proofs.Ytnhfdmfciddmaaa
open Go.RowKit

theorem own_cap {w : World} {base n c : Nat} {e : TypeId} {size : Nat} {A : Option Addr} {xs : List Value} (h : w.ownsRow base e size (.slice A n c) n xs) : n ≤ c := by
  rcases h.2 with ⟨h0, h1⟩ | ⟨g, cap, cur, hv, _, _, hnc, _⟩
  · injection h0 with _ h2 h3
    omega
  · injection hv with _ _ h3
    omega
theorem addr_same (a : Addr) : a.add 0 = a := by
  obtain ⟨b, o, i⟩ := a
  simp [Addr.add]
theorem long_part (A : Option Addr) (n c q : Nat) (hq : q ≤ c) (W : World) : (Instr.sliceAt 25 (.slice A n c) none (some (.int .i64 (q : Int))) none).run Try.prog W = .ok (.slice A q c) W := by
  have ht : Try.prog.underlying 25 = some (.slice (Try.prog.elem 25)) := by kernel_rfl
  have hs : ∃ s, ∀ W, (sizeOf (Try.prog.elem 25)).run Try.prog W = .ok s W := ⟨1, fun W => by kernel_rfl⟩
  obtain ⟨s, hs⟩ := hs
  rw [run_sliceAt_slice _ _ _ _ _ _ ht, run_slice_h _ _ _ _ _ ht _ _ (by omega) (by omega), hs]
  simp [Result.andThen, sliced, addr_same]
theorem rd_take {α : Type} {f : α → List Value} {size : Nat} {w : World} {B n : Nat} {A : Option Addr} {K : List α} (h : RdBy f size w B A n K) {k : Nat} (hk : k ≤ n) : RdBy f size w B A k (K.take k) := by
  have hl := h.len
  refine ⟨by simp; omega, fun h0 => ?_⟩
  obtain ⟨b, off, e, hb, hc⟩ := h.2 (by omega)
  refine ⟨b, off, e, hb, fun i a hi j u hu => hc i a ?_ j u hu⟩
  have hil := (List.getElem?_eq_some_iff.1 hi).1
  rw [List.length_take] at hil
  rwa [List.getElem?_take_of_lt (by omega)] at hi
/-- A name for a world. -/
theorem world_of {B : Nat} {a w : World} (_ : Below B a w) : ∃ W, W = w := ⟨w, rfl⟩

end Go.Proofs.Ytnhfdmfciddmaaa
