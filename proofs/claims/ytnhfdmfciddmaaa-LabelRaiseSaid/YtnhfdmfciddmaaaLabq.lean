/- Layer 6: words for memory for the statements. -/
import Derived.Test.YtnhfdmfciddmaaaLabp
import Derived.Test.YtnhfdmfciddmaaaLaba
import Derived.Test.YtnhfdmfciddmaaaLabh
import Derived.Test.YtnhfdmfciddmaaaTofo
import Derived.Test.YtnhfdmfciddmaaaLefto
import Derived.Test.YtnhfdmfciddmaaaTake
import Derived.Test.YtnhfdmfciddmaaaDmore
namespace Go.Proofs.Ytnhfdmfciddmaaa
open Go.RowKit
set_option maxRecDepth 100000

theorem orow_on {w w' : World} {base n : Nat} {e : TypeId} {size : Nat} {v : Value} {xs : List Value} (h : w.ownsRow base e size v n xs) (hb : Below w.heap.size w w') : w'.ownsRow base e size v n xs :=
  h.kept (row := none) ⟨hb.os, hb.tape, hb.output, hb.size, fun k hk _ => hb.block k hk⟩ (by
    cases hv : v.ownBlock with
    | none => exact .inl rfl
    | some g => exact .inr (by simp))
theorem Hx.one {w0 w : World} {base n c : Nat} {t : TypeId} {A : Option Addr} {xs : List Value} (h : w.ownsRow base t 1 (.slice A n c) n xs) (hb : base ≤ w.heap.size) (hl : Below base w0 w) : Hx w0 w base [⟨t, A, n, c, xs⟩] := by
  refine ⟨⟨fun i r hi => ?_, fun i j r s hij hi hj => ?_⟩, hb, hl⟩
  · match i, hi with
    | 0, hi => simp at hi; subst hi; exact h
    | i + 1, hi => simp at hi
  · match i, j, hi, hj with
    | 0, 0, _, _ => exact absurd rfl hij
    | i + 1, _, hi, _ => simp at hi
    | 0, j + 1, _, hj => simp at hj
theorem Hx.puti {w0 w : World} {base n c g : Nat} {t : TypeId} {L : List Int} (h : Hx w0 w base [⟨t, some ⟨g, 0, none⟩, n, c, L.map (Value.int .i64)⟩]) (k : Nat) (x : Int) : Hx w0 (w.setCell ⟨g, k, none⟩ (.int .i64 x)) base [⟨t, some ⟨g, 0, none⟩, n, c, (L.set k x).map (Value.int .i64)⟩] := by
  have := h.put (i := 0) rfl k (.int .i64 x)
  rw [List.map_set]
  exact this
theorem fvs_ints {N : Nat} {d : Nat → Nat} : fvs N d = (farH N d).map (Value.int .i64) := nvs_ints

end Go.Proofs.Ytnhfdmfciddmaaa
