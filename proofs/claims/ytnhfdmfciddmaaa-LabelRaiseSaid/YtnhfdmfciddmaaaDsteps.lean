/- DistSteps: the walk. -/
import Derived.Test.YtnhfdmfciddmaaaDturnsl
import Derived.Test.YtnhfdmfciddmaaaDwayl
import Derived.StillTailTactics
namespace Go.Proofs.Ytnhfdmfciddmaaa
open Go.RowKit
set_option maxRecDepth 100000

/-- A world's name, out of a fact that speaks of it. -/
theorem world_name {B : Nat} {a w : World} (_ : Below B a w) : ∃ W, W = w := ⟨w, rfl⟩
/-- A guarded step that is not wanted. -/
theorem still_skip {P : Program} {ops : Array Oper} {w : World} {Q : Act → Prop} {a : Act} {o : Oper} {rest : List Oper} (h : Region.wanted o (yielded ops a.tmps) = false) (h2 : wpStill P ops w Q rest (a.put o.dst undef)) : wpStill P ops w Q (o :: rest) a :=
  wpStill_step fun K hK => by
    rw [if_neg (by rw [h]; exact Bool.false_ne_true)]
    exact hK _ h2
/-- Along which arcs is measured: to a vertex, or from it. -/
def linkOf (b : Bool) (M : Nat) (hd rv : Nat → Nat) (X : List Int) : Nat → Nat → Prop := match b with
  | true => Lk M hd rv fun a => opn X (rv a)
  | false => Lk M hd rv (opn X)
def tlB (b : Bool) (hd rv : Nat → Nat) (a : Nat) : Nat := match b with
  | true => hd (rv a)
  | false => hd a
def hlB (b : Bool) (hd rv : Nat → Nat) (a : Nat) : Nat := match b with
  | true => hd a
  | false => hd (rv a)
/-- An open arc ahead of k leads from u to a vertex that is nearer by one. -/
def nearTo (b : Bool) (hd rv : Nat → Nat) (X : List Int) (d : Nat → Nat) (k u : Nat) : Bool := (List.range k).any fun a => opn X a && (decide (tlB b hd rv a = u) && decide (d u = d (hlB b hd rv a) + 1))

section
variable {N M t : Nat} {fst hd rv : Nat → Nat} {X : List Int} {b : Bool} {d : Nat → Nat}
theorem ends_lt (hG : Grid N M fst hd rv) {a : Nat} (ha : a < M) : tlB b hd rv a < N ∧ hlB b hd rv a < N := by
  have h1 := hG.hdl a ha
  have h2 := hG.hdl _ (hG.rvl a ha)
  cases b
  · exact ⟨h1, h2⟩
  · exact ⟨h2, h1⟩
theorem link_step (hG : Grid N M fst hd rv) (hD : IsDist (linkOf b M hd rv X) N t d) {a : Nat} (ha : a < M) (ho : opn X a = true) : d (tlB b hd rv a) ≤ d (hlB b hd rv a) + 1 := by
  have h1 := hG.hdl a ha
  have h2 := hG.hdl _ (hG.rvl a ha)
  cases b
  · exact hD.step (hd (rv a)) (hd a) h2 h1 ⟨a, ha, rfl, rfl, ho⟩
  · exact hD.step (hd a) (hd (rv a)) h1 h2 ⟨rv a, hG.rvl a ha, by rw [hG.rvv a ha], rfl, by show opn X (rv (rv a)) = true; rw [hG.rvv a ha]; exact ho⟩
theorem near_zero (u : Nat) : nearTo b hd rv X d 0 u = false := rfl
theorem near_start : List.replicate N false = tab N (nearTo b hd rv X d 0) := by
  refine tab_ext (by simp) fun i hi => ?_
  rw [List.getElem?_replicate, if_pos hi, near_zero]
theorem near_succ (k u : Nat) : nearTo b hd rv X d (k + 1) u = (nearTo b hd rv X d k u || (opn X k && (decide (tlB b hd rv k = u) && decide (d u = d (hlB b hd rv k) + 1)))) := by
  unfold nearTo
  rw [List.range_succ, List.any_append]
  simp
theorem near_skip (k : Nat) (h : opn X k = false) : tab N (nearTo b hd rv X d k) = tab N (nearTo b hd rv X d (k + 1)) := tab_congr fun u _ => by rw [near_succ, h]; simp
theorem near_put {k : Nat} (h : opn X k = true) : (tab N (nearTo b hd rv X d k)).set (tlB b hd rv k) (nearTo b hd rv X d k (tlB b hd rv k) || decide (d (tlB b hd rv k) = d (hlB b hd rv k) + 1)) = tab N (nearTo b hd rv X d (k + 1)) := by
  rw [tab_set]
  refine tab_congr fun u hu => ?_
  rw [near_succ, h]
  by_cases e : u = tlB b hd rv k
  · subst e; simp
  · have : ¬ tlB b hd rv k = u := fun x => e x.symm
    simp [e, this]
theorem near_all (hG : Grid N M fst hd rv) (hD : IsDist (linkOf b M hd rv X) N t d) {u : Nat} (hu : u < N) (h0 : d u < N) (hne : u ≠ t) : nearTo b hd rv X d M u = true := by
  obtain ⟨u', h1, h2, h3⟩ := hD.near u hu h0 hne
  unfold nearTo
  rw [List.any_eq_true]
  cases b
  · obtain ⟨a, ha, e1, e2, e3⟩ := h2
    refine ⟨a, by simpa using ha, ?_⟩
    have e4 : opn X a = true := e3
    simp [tlB, hlB, e1, e2, h3, e4]
  · obtain ⟨a, ha, e1, e2, e3⟩ := h2
    refine ⟨rv a, by simpa using hG.rvl a ha, ?_⟩
    have e4 : opn X (rv a) = true := e3
    simp [tlB, hlB, hG.rvv a ha, e1, e2, h3, e4]
end


end Go.Proofs.Ytnhfdmfciddmaaa
