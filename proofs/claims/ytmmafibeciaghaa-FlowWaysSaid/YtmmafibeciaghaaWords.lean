/- Words for memory: a slice that reads as a list. -/
import Derived.Test.YtmmafibeciaghaaPlain
import Derived.Below
import Derived.Deep.Draws
import Derived.Lib.Hide
namespace Go.Proofs.Ytmmafibeciaghaa
open Go.RowKit

/-- The slice '.slice A n c' reads, in world w, as the list l, each element laid in 'size' cells by f; it lies below block B. -/
def RdBy {α : Type} (f : α → List Value) (size : Nat) (w : World) (B : Nat) (A : Option Addr) (n : Nat) (l : List α) : Prop :=
  l.length = n ∧ (0 < n → ∃ b off, A = some ⟨b, off, none⟩ ∧ b < B ∧ ∀ (k : Nat) (a : α), l[k]? = some a → ∀ (j : Nat) (u : Value), (f a)[j]? = some u → w.cell? ⟨b, off + (k * size + j), none⟩ = some u)

def arcCells (a : ArcN) : List Value := [.int .i64 a.frm, .int .i64 a.to, .int .i64 a.cap]
def intCells (x : Int) : List Value := [.int .i64 x]

abbrev Arcs := RdBy arcCells 3
abbrev Ints := RdBy intCells 1

theorem flat_at {α : Type} {f : α → List Value} {size : Nat} : ∀ {l : List α} (_ : ∀ a ∈ l, (f a).length = size) {k : Nat} {a : α} (_ : l[k]? = some a) {j : Nat} {u : Value} (_ : (f a)[j]? = some u), (l.flatMap f)[k * size + j]? = some u
  | [], _, _, _, ha, _, _, _ => by simp at ha
  | x :: r, hf, k, a, ha, j, u, hu => by
    rw [List.flatMap_cons]
    have hx := hf x (by simp)
    have hj := (List.getElem?_eq_some_iff.1 hu).1
    have h2 := hf a (mem_at ha)
    cases k with
    | zero =>
      simp only [List.getElem?_cons_zero, Option.some.injEq] at ha
      subst ha
      rw [Nat.zero_mul, Nat.zero_add, List.getElem?_append_left (by omega)]
      exact hu
    | succ k =>
      rw [List.getElem?_append_right (by rw [hx, Nat.succ_mul]; omega), hx]
      rw [show (k + 1) * size + j - size = k * size + j from by rw [Nat.succ_mul]; omega]
      exact flat_at (fun a ha => hf a (by simp [ha])) (by simpa using ha) hu

section
variable {α : Type} {f : α → List Value} {size : Nat} {w w' : World} {B B' n : Nat} {A : Option Addr} {l : List α}
theorem RdBy.len (h : RdBy f size w B A n l) : l.length = n := h.1
theorem RdBy.keep (h : RdBy f size w B A n l) (hk : ∀ p : Addr, p.block < B → w'.cell? p = w.cell? p) : RdBy f size w' B A n l :=
  ⟨h.1, fun hn => by
    obtain ⟨b, off, e, hb, hc⟩ := h.2 hn
    exact ⟨b, off, e, hb, fun k a ha j u hu => (hk _ hb).trans (hc k a ha j u hu)⟩⟩
theorem RdBy.below (h : RdBy f size w B A n l) (hb : Below B w w') : RdBy f size w' B A n l := h.keep fun _ hp => hb.cell hp
theorem RdBy.more (h : RdBy f size w B A n l) (hB : B ≤ B') : RdBy f size w B' A n l :=
  ⟨h.1, fun hn => by
    obtain ⟨b, off, e, hb, hc⟩ := h.2 hn
    exact ⟨b, off, e, by omega, hc⟩⟩
theorem RdBy.get (h : RdBy f size w B A n l) {k : Nat} (hk : k < n) : ∃ a, l[k]? = some a := by
  have := h.1
  exact ⟨l[k], List.getElem?_eq_getElem (by omega)⟩
theorem RdBy.empty : RdBy f size w B A 0 [] := ⟨rfl, fun h => absurd h (by omega)⟩
theorem RdBy.of_own {base : Nat} {e : TypeId} {c : Nat} (hl : l.length = n) (hf : ∀ a ∈ l, (f a).length = size) (h : w.ownsRow base e size (.slice A n c) n (l.flatMap f)) : RdBy f size w w.heap.size A n l := by
  refine ⟨hl, fun hn => ?_⟩
  rcases h.2 with ⟨e1, e2⟩ | ⟨g, cap, cur, hv, hb, hh, hnc, hm, hs, ht⟩
  · omega
  · injection hv with hA
    refine ⟨g, 0, hA, ?_, fun k a ha j u hu => ?_⟩
    · rcases Nat.lt_or_ge g w.heap.size with hlt | hge
      · exact hlt
      · rw [Array.getElem?_eq_none hge] at hh; cases hh
    · subst hA
      have hidx : (l.flatMap f)[k * size + j]? = some u := flat_at hf ha hu
      have := h.cells (g := g) rfl (k * size + j) u hidx
      rw [Nat.zero_add]
      have e0 : (⟨g, 0, none⟩ : Addr).add (k * size + j) = ⟨g, k * size + j, none⟩ := by
        unfold Addr.add
        split <;> simp_all
      rwa [e0] at this
end

/-- An arc's three cells at index k. -/
theorem arcs_at {w : World} {B n : Nat} {A : Option Addr} {l : List ArcN} (h : Arcs w B A n l) {k : Nat} (hk : k < n) :
    ∃ (b off : Nat) (a : ArcN), A = some ⟨b, off, none⟩ ∧ b < B ∧ l[k]? = some a ∧ w.cell? ⟨b, off + k * 3, none⟩ = some (.int .i64 a.frm) ∧
      w.cell? ⟨b, off + k * 3 + 1, none⟩ = some (.int .i64 a.to) ∧ w.cell? ⟨b, off + k * 3 + 2, none⟩ = some (.int .i64 a.cap) := by
  obtain ⟨a, ha⟩ := h.get hk
  obtain ⟨b, off, e, hb, hc⟩ := h.2 (by omega)
  exact ⟨b, off, a, e, hb, ha, hc k a ha 0 _ rfl, hc k a ha 1 _ rfl, hc k a ha 2 _ rfl⟩
theorem intl_at {w : World} {B n : Nat} {A : Option Addr} {l : List Int} (h : Ints w B A n l) {k : Nat} (hk : k < n) :
    ∃ (b off : Nat) (x : Int), A = some ⟨b, off, none⟩ ∧ b < B ∧ l[k]? = some x ∧ w.cell? ⟨b, off + k, none⟩ = some (.int .i64 x) := by
  obtain ⟨a, ha⟩ := h.get hk
  obtain ⟨b, off, e, hb, hc⟩ := h.2 (by omega)
  exact ⟨b, off, a, e, hb, ha, by simpa using hc k a ha 0 _ rfl⟩

theorem below_drewN' {B : Nat} {a w : World} (h : Below B a w) (n : Nat) : Below B a (w.drewN n) := ⟨h.os, h.tape, h.output, h.size, h.block⟩
theorem ret_bool {a b : Bool} (h : a = b) : Ending.returned (.bool a) = .returned (.bool b) := by rw [h]

end Go.Proofs.Ytmmafibeciaghaa
