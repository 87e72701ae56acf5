/- Lists of bytes. A list of bytes that came in, opened. -/
import Derived.Test.YtanifbofjecpmaaCells
import Derived.Deep.DeepCutAuto
import Derived.Deep.CutBlock
import Derived.OwnWalk
import Derived.Test.YtanifbofjecpmaaOpens
import Derived.ChangeSlices
/-! Byt -/
namespace Go.Proofs.Ytanifbofjecpmaa
open Go.RowKit

def byteCells (x : Int) : List Value := [.int .u8 x]
abbrev Bytes := RdBy byteCells 1
theorem bytes_at {w : World} {B n : Nat} {A : Option Addr} {l : List Int} (h : Bytes w B A n l) {k : Nat} (hk : k < n) :
    ∃ (b off : Nat) (x : Int), A = some ⟨b, off, none⟩ ∧ b < B ∧ l[k]? = some x ∧ w.cell? ⟨b, off + k, none⟩ = some (.int .u8 x) := by
  obtain ⟨a, ha⟩ := h.get hk
  obtain ⟨b, off, e, hb, hc⟩ := h.2 (by omega)
  exact ⟨b, off, a, e, hb, ha, by simpa using hc k a ha 0 _ rfl⟩
/-- A shorter slice of the same. -/
theorem RdBy.short {α : Type} {f : α → List Value} {size : Nat} {w : World} {B n m : Nat} {A : Option Addr} {l : List α} (h : RdBy f size w B A n l) (hm : m ≤ n) : RdBy f size w B A m (l.take m) :=
  ⟨by rw [List.length_take, h.1]; omega, fun h0 => by
    obtain ⟨b, off, e, hb, hc⟩ := h.2 (by omega)
    refine ⟨b, off, e, hb, fun k a ha j u hu => hc k a ?_ j u hu⟩
    have hk : k < m := by have := (List.getElem?_eq_some_iff.1 ha).1; rw [List.length_take] at this; omega
    rwa [List.getElem?_take_of_lt hk] at ha⟩
theorem own_below {w w' : World} {base n c B : Nat} {e : TypeId} {size : Nat} {A : Option Addr} {xs : List Value} (h : w.ownsRow base e size (.slice A n c) n xs) (hb : Below B w w') (hB : w.heap.size ≤ B) : w'.ownsRow base e size (.slice A n c) n xs := by
  refine ⟨h.1, h.2.imp id ?_⟩
  rintro ⟨g, cap, cur, hv, h1, hh, r⟩
  have hlt := (Array.getElem?_eq_some_iff.1 hh).1
  exact ⟨g, cap, cur, hv, h1, (hb.block g (by omega)).trans hh, r⟩

theorem addr_zero (a : Addr) : a.add 0 = a := by
  obtain ⟨b, o, s⟩ := a
  cases s <;> simp [Addr.add]


end Go.Proofs.Ytanifbofjecpmaa

/-! Open3 -/
namespace Go.Proofs.Ytanifbofjecpmaa
open Go.ChangeShapes Go.WideShapes Go.ChangeAt Go.RowKit Go.Deep Go.Joins
set_option maxRecDepth 100000

section
variable {H : Type} {enc : TypeId × Value → H} {w : World} {base : Nat} {spare : Nat → Bool} {held : Bool}
theorem byte_of_wf {x : Int} (h : (Lit.int .u8 x).wf = true) : 0 ≤ x ∧ x ≤ 255 := by
  simp [Lit.wf, IntKind.min, IntKind.max, IntKind.signed, IntKind.bits] at h
  exact ⟨by omega, by omega⟩
end

end Go.Proofs.Ytanifbofjecpmaa
