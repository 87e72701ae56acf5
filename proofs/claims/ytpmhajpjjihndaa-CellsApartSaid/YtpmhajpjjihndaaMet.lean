/- A map of integers that the call itself makes, in which each key that is met counts 1: its keys as a set, their exact number, and ranging over it. -/
import Derived.Test.YtpmhajpjjihndaaOpens
import Derived.Maps.OwnSet
import Derived.Maps.Views
import Derived.Maps.RangeWalk
import Derived.Maps.Keyed
namespace Go.Proofs.Ytpmhajpjjihndaa
open Go.RowKit Go.Maps
set_option maxRecDepth 100000

theorem wf_i64 {x : Int} (h : InR x) : (Lit.int .i64 x).wf = true := by
  obtain ⟨h1, h2⟩ := h
  simp [Lit.wf, IntKind.min, IntKind.max, IntKind.signed, IntKind.bits]
  omega
theorem zero_int (w : World) : (zeroValue 3).run Try.prog w = .ok (.int .i64 0) w := by kernel_rfl
theorem key_int {x : Int} (h : InR x) : keyOf Try.prog 3 (.int .i64 x) = some (.int .i64 x) := keyOf_int_mk Try.underlying3 (wf_i64 h)

/-- Block b is a map of n entries: the integers that p says, each of which counts 1. -/
def Met (w : World) (b n : Nat) (p : Int → Bool) : Prop :=
  ∃ D : DataW Unit, w.ownsMap Try.prog 3 (plainElem Try.prog 3) b n D ∧ size D = n ∧
    ∀ x, InR x → has D (.int .i64 x) = p x ∧ D.atKey (.int .i64 x) (.lit (.int .i64 0)) = .lit (.int .i64 (if p x then 1 else 0))
section
variable {w w' : World} {b n : Nat} {p : Int → Bool}
theorem Met.made (w : World) : Met (w.alloc (.map #[] 0)) w.heap.size 0 fun _ => false := ⟨_, World.ownsMap_made w _ _ _, rfl, fun _ _ => ⟨rfl, rfl⟩⟩
theorem Met.lt (h : Met w b n p) : b < w.heap.size := h.choose_spec.1.lt
theorem Met.kept {row : Option Nat} (h : Met w b n p) (hg : w.grownBy w' row) (hne : some b ≠ row) : Met w' b n p := ⟨_, h.choose_spec.1.kept hg hne, h.choose_spec.2⟩
theorem Met.on (h : Met w b n p) (hB : Below w.heap.size w w') : Met w' b n p := h.kept (row := none) ⟨hB.os, hB.tape, hB.output, hB.size, fun k hk _ => hB.block k hk⟩ (by simp)
theorem Met.as (h : Met w b n p) {p' : Int → Bool} (e : ∀ x, InR x → p' x = p x) : Met w b n p' := by
  obtain ⟨D, h1, h2, h3⟩ := h
  exact ⟨D, h1, h2, fun x hx => by rw [e x hx]; exact h3 x hx⟩
theorem Met.ne {g : Nat} {t : TypeId} {cs : Array Value} (h : Met w b n p) (hk : Blk w g t cs) : b ≠ g := by
  rintro rfl
  obtain ⟨D, ⟨es, clock, hb, _⟩, _⟩ := h
  unfold Blk at hk
  rw [hb] at hk
  cases hk
/-- A key that is not met reads 0. -/
theorem Met.look (h : Met w b n p) {x : Int} (hx : InR x) (hp : p x = false) : (Instr.lookup 51 (.map (some b)) (.int .i64 x) false).run Try.prog w = .ok (.int .i64 0) w := by
  obtain ⟨D, h1, _, h2⟩ := h
  have h3 := (h2 x hx).2
  obtain ⟨c, hrun, hc, _⟩ := h1.lookup_int (int_keyed Try.underlying3) Try.underlying51 Try.underlying3 (zero_int _) (key_int hx)
  rw [h3, hp] at hc
  injection hc with hc
  injection hc with _ hc
  rw [hrun, ← hc]
  rfl
theorem Met.put (h : Met w b n p) {x : Int} (hx : InR x) (hp : p x = false) (hn : n < maxLen) :
    ∃ w', (Instr.mapUpdate 51 (.map (some b)) (.int .i64 x) (.int .i64 1)).run Try.prog w = .ok () w' ∧ Met w' b (n + 1) (fun y => p y || decide (y = x)) ∧ w.grownBy w' (some b) := by
  obtain ⟨D, h1, h2, h3⟩ := h
  have K := int_keyed (P := Try.prog) Try.underlying3
  obtain ⟨w', hrun, h4, hg⟩ := h1.update K Try.underlying51 hn (key_int hx) (plainElem_int Try.underlying3 (wf_i64 (x := 1) (by unfold InR; omega)))
  refine ⟨w', hrun, ⟨_, h4, ?_, fun y hy => ?_⟩, hg⟩
  · rw [size_put (h1.tidy K), (h3 x hx).1, hp, h2]
    rfl
  · by_cases e : y = x
    · subst e
      rw [has_put_same h1.isMap (K.key (key_int hy)) _, atKey_put_same h1.isMap (K.key (key_int hy)) _ _]
      simp
    · have hne : (Lit.int .i64 y) ≠ .int .i64 x := fun c => e (by injection c)
      rw [has_put_other hne, atKey_put_other hne, (h3 y hy).1, (h3 y hy).2]
      simp [e]
end
/-- 'm[x]++' at a key that is not met: the store. -/
theorem wpList_met {w : World} {b n : Nat} {p : Int → Bool} {ops : Array Oper} {rest : List Oper} {o : Oper} {a : Act} {Q : Exit → Act → World → Prop} (hg : o.guard = none) (mo xo vo : Operand) (hop : o.op = Op.mapUpdate 51 mo xo vo)
    (h : Met w b n p) (x : Int) (hx : InR x) (hp : p x = false) (hn : n < maxLen) (hm : a.eval mo = .map (some b)) (hxo : a.eval xo = .int .i64 x) (hvo : a.eval vo = .int .i64 1)
    (hK : ∀ w', Hid (Met w' b (n + 1) (fun y => p y || decide (y = x))) → w.grownBy w' (some b) → wpList Try.prog ops Q rest (a.put o.dst undef) w') : wpList Try.prog ops Q (o :: rest) a w := by
  refine wpList_plain hg fun K' hK' => ?_
  obtain ⟨w', hrun, r1, r2⟩ := h.put hx hp hn
  unfold Oper.wp
  simp [execOp, hop, hm, hxo, hvo, hrun, Result.andThen]
  exact hK' _ _ (hK w' (Lib.hid r1) r2)

/-- The integers below T. -/
def upTo (T : Nat) (x : Int) : Bool := decide (0 ≤ x ∧ x < (T : Int))
theorem upTo_new (T : Nat) : upTo T (T : Int) = false := decide_eq_false (by omega)
theorem upTo_next (T : Nat) (x : Int) : upTo (T + 1) x = (upTo T x || decide (x = (T : Int))) := by
  unfold upTo
  by_cases h : x = (T : Int)
  · rw [decide_eq_true h, Bool.or_true]
    exact decide_eq_true (by omega)
  · rw [decide_eq_false h, Bool.or_false]
    exact decide_eq_decide.2 (by omega)
end Go.Proofs.Ytpmhajpjjihndaa
