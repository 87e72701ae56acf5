/- Words for memory; laws of the walk for rows of several cells; several makes; a last step kept for the end; a drawn statement split; lists compared. What grows, what is its own: for loops over functions. -/
import Derived.WalkKit
import Derived.Below
import Derived.Deep.Draws
import Derived.Lib.Hide
import Derived.Laws.CopyOwn
import Derived.Laws.Rows
import Derived.Maps.AppendAt
import Derived.OwnWalk
import Derived.OrdersHeld
import Derived.Sort.QuietThIn
import Derived.TacticsIn
import Derived.Deep.QuietTactic
import Derived.BigQuiet
import Derived.Laws.StructEq
import Derived.RangeFuncNested
import Derived.RangeFuncBound
import Derived.RangeFuncCalls
import Derived.RangeFuncLeaves
import Derived.RangeFuncBox
import Derived.Shelf.Abstract
import Derived.Shelf.RegionOpen
import Derived.OwnWalkIn
import Derived.TacticsInMore
import Derived.LoopNIn
import Derived.LoopIn
import Derived.Sort.QuietIn
/-! Ground -/
/-! Plain functions on nets: what the program's functions of layer 1 come to, with no word of the program. -/
namespace Go.Proofs.Ytpmhajpjjihndaa

/-- An arc: from, to, capacity. -/
structure ArcN where
  frm : Int
  to : Int
  cap : Int
deriving DecidableEq

def InR (x : Int) : Prop := -9223372036854775808 ≤ x ∧ x ≤ 9223372036854775807
def ArcN.fits (a : ArcN) : Prop := InR a.frm ∧ InR a.to ∧ InR a.cap
def FitsAll (l : List ArcN) : Prop := ∀ a ∈ l, a.fits

def maxSum : Int := 4611686018427387904

def isVertB (N v : Int) : Bool := decide (0 ≤ v ∧ v < N)
def vertsB (N : Int) : Bool := decide (2 ≤ N ∧ N ≤ 4096)
def endsB (N S T : Int) : Bool := isVertB N S && (isVertB N T && decide (S ≠ T))
def betweenB (N : Int) (l : List ArcN) : Bool := l.all fun a => isVertB N a.frm && isVertB N a.to
def capsB (l : List ArcN) : Bool := l.all fun a => decide (0 ≤ a.cap)

/-- The sum from s on; none where a capacity is negative, or the sum above the greatest one. -/
def sumFrom (s : Int) : List ArcN → Option Int
  | [] => some s
  | a :: r => if a.cap < 0 ∨ maxSum - s < a.cap then none else sumFrom (s + a.cap) r
def sumOf (l : List ArcN) : Option Int := sumFrom 0 l
def sumV (l : List ArcN) : Int := (sumOf l).getD 0
def sumB (l : List ArcN) : Bool := (sumOf l).isSome

def checkF (N S T : Int) (l : List ArcN) : Int :=
  if vertsB N = false then 10 else if 16384 < l.length then 11 else if endsB N S T = false then 12
  else if betweenB N l = false then 13 else if capsB l = false then 14 else if sumB l = false then 15 else 0

def turnArc (a : ArcN) : ArcN := ⟨a.to, a.frm, a.cap⟩

/-! Rounds -/
theorem drop_at {α : Type} {l : List α} {k : Nat} {a : α} (h : l[k]? = some a) : l.drop k = a :: l.drop (k + 1) := by
  obtain ⟨hk, e⟩ := List.getElem?_eq_some_iff.1 h
  rw [List.drop_eq_getElem_cons hk, e]
theorem take_at {α : Type} {l : List α} {k : Nat} {a : α} (h : l[k]? = some a) : l.take (k + 1) = l.take k ++ [a] := by
  obtain ⟨hk, e⟩ := List.getElem?_eq_some_iff.1 h
  rw [List.take_succ_eq_append_getElem hk, e]
theorem mem_at {α : Type} {l : List α} {k : Nat} {a : α} (h : l[k]? = some a) : a ∈ l := List.mem_of_getElem? h

theorem all_false_at {α : Type} {l : List α} {p : α → Bool} {k : Nat} {a : α} (h : l[k]? = some a) (hp : p a = false) : l.all p = false := by
  rw [List.all_eq_false]
  exact ⟨a, mem_at h, by simp [hp]⟩
theorem all_take {α : Type} {l : List α} {p : α → Bool} {k : Nat} {a : α} (h : l[k]? = some a) (ht : (l.take k).all p = true) (hp : p a = true) : (l.take (k + 1)).all p = true := by
  rw [take_at h]; simp only [List.all_append, ht, List.all_cons, hp, List.all_nil, Bool.and_self]
theorem all_take_end {α : Type} {l : List α} {p : α → Bool} {k n : Nat} (hl : l.length = n) (hk : ¬ k < n) (ht : (l.take k).all p = true) : l.all p = true := by
  rwa [List.take_of_length_le (by omega)] at ht

theorem sum_next {l : List ArcN} {k : Nat} {a : ArcN} {s : Int} (h : l[k]? = some a) (hr : sumOf l = sumFrom s (l.drop k)) (h0 : ¬ a.cap < 0) (h1 : ¬ 4611686018427387904 - s < a.cap) : sumOf l = sumFrom (s + a.cap) (l.drop (k + 1)) := by
  rw [hr, drop_at h, sumFrom, if_neg (by unfold maxSum; omega)]
theorem sum_stop {l : List ArcN} {k : Nat} {a : ArcN} {s : Int} (h : l[k]? = some a) (hr : sumOf l = sumFrom s (l.drop k)) (hc : a.cap < 0 ∨ 4611686018427387904 - s < a.cap) : sumV l = 0 ∧ sumB l = false := by
  unfold sumV sumB
  rw [hr, drop_at h, sumFrom, if_pos (by unfold maxSum; omega)]
  exact ⟨rfl, rfl⟩
theorem sum_end {l : List ArcN} {k n : Nat} {s : Int} (hl : l.length = n) (hk : ¬ k < n) (hr : sumOf l = sumFrom s (l.drop k)) : sumV l = s ∧ sumB l = true := by
  unfold sumV sumB
  rw [hr, List.drop_eq_nil_of_le (by omega), sumFrom]
  exact ⟨rfl, rfl⟩

/-- The conditions, by their places. -/
def condB (N S T : Int) (l : List ArcN) : Nat → Bool
  | 0 => vertsB N
  | 1 => decide (l.length ≤ 16384)
  | 2 => endsB N S T
  | 3 => betweenB N l
  | 4 => capsB l
  | _ => sumB l
theorem check_all {N S T : Int} {l : List ArcN} (h : ∀ j, j < 6 → condB N S T l j = true) : checkF N S T l = 0 := by
  have h0 := h 0 (by omega); have h1 := h 1 (by omega); have h2 := h 2 (by omega); have h3 := h 3 (by omega); have h4 := h 4 (by omega); have h5 := h 5 (by omega)
  simp only [condB, decide_eq_true_eq] at h0 h1 h2 h3 h4 h5
  simp [checkF, h0, h1, h2, h3, h4, h5]
theorem check_first {N S T : Int} {l : List ArcN} {k : Nat} (hk : k < 6) (h : ∀ j, j < k → condB N S T l j = true) (hf : condB N S T l k = false) : checkF N S T l = 10 + k := by
  have e : k = 0 ∨ k = 1 ∨ k = 2 ∨ k = 3 ∨ k = 4 ∨ k = 5 := by omega
  rcases e with rfl | rfl | rfl | rfl | rfl | rfl
  · simp only [condB] at hf; simp [checkF, hf]
  · have h0 := h 0 (by omega)
    simp only [condB, decide_eq_false_iff_not] at h0 hf
    simp [checkF, h0]; omega
  · have h0 := h 0 (by omega); have h1 := h 1 (by omega)
    simp only [condB, decide_eq_true_eq] at h0 h1 hf
    simp [checkF, h0, hf]; omega
  · have h0 := h 0 (by omega); have h1 := h 1 (by omega); have h2 := h 2 (by omega)
    simp only [condB, decide_eq_true_eq] at h0 h1 h2 hf
    simp [checkF, h0, h2, hf]; omega
  · have h0 := h 0 (by omega); have h1 := h 1 (by omega); have h2 := h 2 (by omega); have h3 := h 3 (by omega)
    simp only [condB, decide_eq_true_eq] at h0 h1 h2 h3 hf
    simp [checkF, h0, h2, h3, hf]; omega
  · have h0 := h 0 (by omega); have h1 := h 1 (by omega); have h2 := h 2 (by omega); have h3 := h 3 (by omega); have h4 := h 4 (by omega)
    simp only [condB, decide_eq_true_eq] at h0 h1 h2 h3 h4 hf
    simp [checkF, h0, h2, h3, h4, hf]; omega
theorem cond_next {N S T : Int} {l : List ArcN} {k : Nat} (h : ∀ j, j < k → condB N S T l j = true) (hf : condB N S T l k = true) : ∀ j, j < k + 1 → condB N S T l j = true := by
  intro j hj
  by_cases e : j = k
  · rw [e]; exact hf
  · exact h j (by omega)

theorem sumFrom_bound {s r : Int} {l : List ArcN} (h0 : 0 ≤ s) (h1 : s ≤ maxSum) (h : sumFrom s l = some r) : s ≤ r ∧ r ≤ maxSum := by
  induction l generalizing s with
  | nil => simp only [sumFrom, Option.some.injEq] at h; omega
  | cons a t ih =>
    unfold sumFrom at h
    split at h
    · cases h
    · rename_i hc
      have := ih (by omega) (by omega) h
      omega
theorem sumV_bound (l : List ArcN) : 0 ≤ sumV l ∧ sumV l ≤ maxSum := by
  unfold sumV
  cases h : sumOf l with
  | none => simp [maxSum]
  | some r => have := sumFrom_bound (Int.le_refl 0) (by simp [maxSum]) h; simp; omega

end Go.Proofs.Ytpmhajpjjihndaa

/-! Words for memory: a slice that reads as a list. -/
namespace Go.Proofs.Ytpmhajpjjihndaa
open Go.RowKit

/-- The slice '.slice A n c' reads, in world w, as the list l, each element laid in 'size' cells by f; it lies below block B. -/
def RdBy {α : Type} (f : α → List Value) (size : Nat) (w : World) (B : Nat) (A : Option Addr) (n : Nat) (l : List α) : Prop :=
  l.length = n ∧ (0 < n → ∃ b off, A = some ⟨b, off, none⟩ ∧ b < B ∧ ∀ (k : Nat) (a : α), l[k]? = some a → ∀ (j : Nat) (u : Value), (f a)[j]? = some u → w.cell? ⟨b, off + (k * size + j), none⟩ = some u)

def arcCells (a : ArcN) : List Value := [.int .i64 a.frm, .int .i64 a.to, .int .i64 a.cap]
def intCells (x : Int) : List Value := [.int .i64 x]

abbrev Arcs := RdBy arcCells 3
abbrev Ints := RdBy intCells 1

theorem flat_at {α : Type} {f : α → List Value} {size : Nat} : ∀ {l : List α} (_ : ∀ a ∈ l, (f a).length = size) {k : Nat} {a : α} (_ : l[k]? = some a) {j : Nat} {u : Value} (_ : (f a)[j]? = some u), (l.flatMap f)[k * size + j]? = some u
  | [], _, _, _, ha, _, _, _ => by simp at ha
  | x :: r, hf, k, a, ha, j, u, hu => by
    rw [List.flatMap_cons]
    have hx := hf x (by simp)
    have hj := (List.getElem?_eq_some_iff.1 hu).1
    have h2 := hf a (mem_at ha)
    cases k with
    | zero =>
      simp only [List.getElem?_cons_zero, Option.some.injEq] at ha
      subst ha
      rw [Nat.zero_mul, Nat.zero_add, List.getElem?_append_left (by omega)]
      exact hu
    | succ k =>
      rw [List.getElem?_append_right (by rw [hx, Nat.succ_mul]; omega), hx]
      rw [show (k + 1) * size + j - size = k * size + j from by rw [Nat.succ_mul]; omega]
      exact flat_at (fun a ha => hf a (by simp [ha])) (by simpa using ha) hu

section
variable {α : Type} {f : α → List Value} {size : Nat} {w w' : World} {B B' n : Nat} {A : Option Addr} {l : List α}
theorem RdBy.len (h : RdBy f size w B A n l) : l.length = n := h.1
theorem RdBy.keep (h : RdBy f size w B A n l) (hk : ∀ p : Addr, p.block < B → w'.cell? p = w.cell? p) : RdBy f size w' B A n l :=
  ⟨h.1, fun hn => by
    obtain ⟨b, off, e, hb, hc⟩ := h.2 hn
    exact ⟨b, off, e, hb, fun k a ha j u hu => (hk _ hb).trans (hc k a ha j u hu)⟩⟩
theorem RdBy.below (h : RdBy f size w B A n l) (hb : Below B w w') : RdBy f size w' B A n l := h.keep fun _ hp => hb.cell hp
theorem RdBy.more (h : RdBy f size w B A n l) (hB : B ≤ B') : RdBy f size w B' A n l :=
  ⟨h.1, fun hn => by
    obtain ⟨b, off, e, hb, hc⟩ := h.2 hn
    exact ⟨b, off, e, by omega, hc⟩⟩
theorem RdBy.get (h : RdBy f size w B A n l) {k : Nat} (hk : k < n) : ∃ a, l[k]? = some a := by
  have := h.1
  exact ⟨l[k], List.getElem?_eq_getElem (by omega)⟩
theorem RdBy.empty : RdBy f size w B A 0 [] := ⟨rfl, fun h => absurd h (by omega)⟩
theorem RdBy.of_own {base : Nat} {e : TypeId} {c : Nat} (hl : l.length = n) (hf : ∀ a ∈ l, (f a).length = size) (h : w.ownsRow base e size (.slice A n c) n (l.flatMap f)) : RdBy f size w w.heap.size A n l := by
  refine ⟨hl, fun hn => ?_⟩
  rcases h.2 with ⟨e1, e2⟩ | ⟨g, cap, cur, hv, hb, hh, hnc, hm, hs, ht⟩
  · omega
  · injection hv with hA
    refine ⟨g, 0, hA, ?_, fun k a ha j u hu => ?_⟩
    · rcases Nat.lt_or_ge g w.heap.size with hlt | hge
      · exact hlt
      · rw [Array.getElem?_eq_none hge] at hh; cases hh
    · subst hA
      have hidx : (l.flatMap f)[k * size + j]? = some u := flat_at hf ha hu
      have := h.cells (g := g) rfl (k * size + j) u hidx
      rw [Nat.zero_add]
      have e0 : (⟨g, 0, none⟩ : Addr).add (k * size + j) = ⟨g, k * size + j, none⟩ := by
        unfold Addr.add
        split <;> simp_all
      rwa [e0] at this
end

/-- An arc's three cells at index k. -/
theorem arcs_at {w : World} {B n : Nat} {A : Option Addr} {l : List ArcN} (h : Arcs w B A n l) {k : Nat} (hk : k < n) :
    ∃ (b off : Nat) (a : ArcN), A = some ⟨b, off, none⟩ ∧ b < B ∧ l[k]? = some a ∧ w.cell? ⟨b, off + k * 3, none⟩ = some (.int .i64 a.frm) ∧
      w.cell? ⟨b, off + k * 3 + 1, none⟩ = some (.int .i64 a.to) ∧ w.cell? ⟨b, off + k * 3 + 2, none⟩ = some (.int .i64 a.cap) := by
  obtain ⟨a, ha⟩ := h.get hk
  obtain ⟨b, off, e, hb, hc⟩ := h.2 (by omega)
  exact ⟨b, off, a, e, hb, ha, hc k a ha 0 _ rfl, hc k a ha 1 _ rfl, hc k a ha 2 _ rfl⟩
theorem intl_at {w : World} {B n : Nat} {A : Option Addr} {l : List Int} (h : Ints w B A n l) {k : Nat} (hk : k < n) :
    ∃ (b off : Nat) (x : Int), A = some ⟨b, off, none⟩ ∧ b < B ∧ l[k]? = some x ∧ w.cell? ⟨b, off + k, none⟩ = some (.int .i64 x) := by
  obtain ⟨a, ha⟩ := h.get hk
  obtain ⟨b, off, e, hb, hc⟩ := h.2 (by omega)
  exact ⟨b, off, a, e, hb, ha, by simpa using hc k a ha 0 _ rfl⟩

theorem below_drewN' {B : Nat} {a w : World} (h : Below B a w) (n : Nat) : Below B a (w.drewN n) := ⟨h.os, h.tape, h.output, h.size, h.block⟩
theorem ret_bool {a b : Bool} (h : a = b) : Ending.returned (.bool a) = .returned (.bool b) := by rw [h]

end Go.Proofs.Ytpmhajpjjihndaa

/-! Laws of the walk for rows whose elements have several cells: make, copy; a struct's cells. -/
namespace Go.Proofs.Ytpmhajpjjihndaa
open Go.RowKit

theorem flat_inv {α : Type} {f : α → List Value} {size : Nat} : ∀ {l : List α} (_ : ∀ a ∈ l, (f a).length = size) {j : Nat} {u : Value} (_ : (l.flatMap f)[j]? = some u),
    ∃ (k r : Nat) (a : α), l[k]? = some a ∧ (f a)[r]? = some u ∧ j = k * size + r
  | [], _, j, u, h => by simp at h
  | x :: t, hf, j, u, h => by
    rw [List.flatMap_cons] at h
    have hx := hf x (by simp)
    by_cases hj : j < (f x).length
    · rw [List.getElem?_append_left hj] at h
      exact ⟨0, j, x, rfl, h, by simp⟩
    · rw [List.getElem?_append_right (by omega)] at h
      obtain ⟨k, r, a, h1, h2, h3⟩ := flat_inv (fun a ha => hf a (by simp [ha])) h
      exact ⟨k + 1, r, a, by simpa using h1, h2, by rw [Nat.succ_mul]; omega⟩

theorem flat_len {α : Type} {f : α → List Value} {size : Nat} : ∀ {l : List α} (_ : ∀ a ∈ l, (f a).length = size), (l.flatMap f).length = l.length * size
  | [], _ => by simp
  | x :: t, hf => by
    rw [List.flatMap_cons, List.length_append, flat_len (fun a ha => hf a (by simp [ha])), hf x (by simp), List.length_cons, Nat.succ_mul]
    omega

theorem addr_add (b off j : Nat) : (⟨b, off, none⟩ : Addr).add j = ⟨b, off + j, none⟩ := by
  unfold Addr.add
  split <;> simp_all

theorem RdBy.src {α : Type} {f : α → List Value} {size : Nat} {w : World} {B n : Nat} {A : Option Addr} {l : List α} (hf : ∀ a ∈ l, (f a).length = size) (h : RdBy f size w B A n l) (hn : 0 < n) :
    ∃ ad, A = some ad ∧ ∀ j v, (l.flatMap f)[j]? = some v → w.cell? (ad.add j) = some v := by
  obtain ⟨b, off, e, _, hc⟩ := h.2 hn
  refine ⟨_, e, fun j v hv => ?_⟩
  obtain ⟨k, r, a, h1, h2, rfl⟩ := flat_inv hf hv
  rw [addr_add]
  exact hc k a h1 r v h2

theorem arc_len (l : List ArcN) : ∀ a ∈ l, (arcCells a).length = 3 := fun _ _ => rfl
theorem int_len (l : List Int) : ∀ a ∈ l, (intCells a).length = 1 := fun _ _ => rfl
theorem arc_one {l : List ArcN} : ∀ v ∈ l.flatMap arcCells, v.oneCell' = true := by
  intro v hv
  obtain ⟨a, _, ha⟩ := List.mem_flatMap.1 hv
  simp only [arcCells, List.mem_cons, List.not_mem_nil, or_false] at ha
  rcases ha with rfl | rfl | rfl <;> rfl
theorem int_one {l : List Int} : ∀ v ∈ l.flatMap intCells, v.oneCell' = true := by
  intro v hv
  obtain ⟨a, _, ha⟩ := List.mem_flatMap.1 hv
  simp only [intCells, List.mem_cons, List.not_mem_nil, or_false] at ha
  subst ha; rfl

section
variable {P : Program}

theorem run_make_lit (t e : TypeId) (i : TypeInfo) (z : Value) (ht : P.underlying t = some (.slice e)) (hi : P.info? e = some i) (hz : i.zero = some z)
    (n : Nat) (hb : i.bytes * n ≤ 281474976710656) (hn : n ≤ 9223372036854775807) (w : World) :
    (Instr.makeSlice t (.int .i64 (n : Int)) (.int .i64 (n : Int))).run P w = .ok (.slice (some ⟨w.heap.size, 0, none⟩) n n) (w.alloc (.cells (madeCells z.cells (n * i.size)) e)) := by
  have hb' : (i.bytes : Int) * (n : Int) ≤ 281474976710656 := by
    have h : ((i.bytes * n : Nat) : Int) ≤ 281474976710656 := by omega
    rwa [Int.natCast_mul] at h
  have hr := run_make (P := P) w t e i z ht hi hz .i64 .i64 n n (by omega) (Int.le_refl _) hb' (by omega)
  simpa only [Int.toNat_natCast] using hr

theorem run_copy_fill (w : World) (dT sT ty elem : TypeId) (i : TypeInfo) (size g n dc sc : Nat) (A : Option Addr) (cur : Array Value) (xs : List Value)
    (hu : P.underlying dT = some (.slice elem)) (hi : P.info? elem = some i) (hs : i.size = size)
    (hg : w.heap[g]? = some (.cells cur elem (0, 0))) (hcur : cur.size = n * size) (hx : xs.length = n * size)
    (hsrc : 0 < n → ∃ ad, A = some ad ∧ ∀ j v, xs[j]? = some v → w.cell? (ad.add j) = some v) (h1 : ∀ v ∈ xs, v.oneCell' = true) :
    (Builtin.copy_ #[dT, sT] ty #[.slice (some ⟨g, 0, none⟩) n dc, .slice A n sc]).run P w = .ok (goInt n) (w.setRow g xs.toArray) := by
  by_cases h0 : n = 0
  · subst h0
    have hxs : xs = [] := List.eq_nil_of_length_eq_zero (by simpa using hx)
    have hc : cur = #[] := Array.eq_empty_of_size_eq_zero (by simpa using hcur)
    subst hxs; subst hc
    have e := setRow_self w g #[] elem (0, 0) hg
    cases A with
    | none => simp [Builtin.copy_, run_underlying hu, Builtin.lenOf, Builtin.firstCells, sizeOf, typeInfo, hi, storeCells, e]
    | some ad =>
      have hl := run_loadCells_list (P := P) w ad [] (fun j v h => by simp at h)
      simp only [List.length_nil] at hl
      simp [Builtin.copy_, run_underlying hu, Builtin.lenOf, Builtin.firstCells, sizeOf, typeInfo, hi, storeCells, e, hl]
  · obtain ⟨ad, rfl, hsr⟩ := hsrc (by omega)
    have hl := run_loadCells_list (P := P) w ad xs hsr
    have hst := run_storeCells_at P g 0 elem xs 0 cur w hg (by omega) h1
    have hd : cur.toList.drop (n * size) = [] := List.drop_eq_nil_of_le (by simp [hcur])
    simp only [Nat.zero_add, List.take_zero, List.nil_append, hx, hd, List.append_nil] at hst
    rw [hx] at hl
    simp [Builtin.copy_, run_underlying hu, Builtin.lenOf, Builtin.firstCells, sizeOf, typeInfo, hi, hs, hl, hst]

theorem wpList_copy_fill {w : World} {ops : Array Oper} {rest : List Oper} {o : Oper} {a : Act} {Q : Exit → Act → World → Prop} (hgd : o.guard = none) (d s : Operand) (dT sT : TypeId)
    (ho : o.op = .call { callee := .builtin .copy, args := #[d, s], argTypes := #[dT, sT] }) (elem : TypeId) (i : TypeInfo) (size : Nat)
    (hu : P.underlying dT = some (.slice elem)) (hi : P.info? elem = some i) (hs : i.size = size)
    (g n dc sc : Nat) (A : Option Addr) (hd : a.eval d = .slice (some ⟨g, 0, none⟩) n dc) (hsv : a.eval s = .slice A n sc)
    (cur : Array Value) (xs : List Value) (hg : w.heap[g]? = some (.cells cur elem (0, 0))) (hcur : cur.size = n * size) (hx : xs.length = n * size)
    (hsrc : 0 < n → ∃ ad, A = some ad ∧ ∀ j v, xs[j]? = some v → w.cell? (ad.add j) = some v) (h1 : ∀ v ∈ xs, v.oneCell' = true)
    (h : ∀ w', Hid (w'.heap[g]? = some (.cells xs.toArray elem (0, 0))) → w.grownBy w' (some g) → w'.heap.size = w.heap.size → wpList P ops Q rest (a.put o.dst (goInt n)) w') :
    wpList P ops Q (o :: rest) a w := by
  refine wpList_plain hgd fun K hK => ?_
  have hrun := run_copy_fill (P := P) w dT sT o.type elem i size g n dc sc A cur xs hu hi hs hg hcur hx hsrc h1
  unfold Oper.wp
  simp [execOp, ho, resolve, invoke, builtin, hd, hsv, hrun, Result.andThen]
  refine hK _ _ (h _ (setRow_heap w g cur _ elem _ hg) ⟨rfl, rfl, rfl, by simp [World.setRow], fun k _ hne => setRow_other w g k _ (fun e => hne (by rw [e]))⟩ (by simp [World.setRow]))
end

/-- A row of the call's own, given its block. -/
theorem own_of_block {w : World} {g base n : Nat} {e : TypeId} {size : Nat} {xs : List Value} (hg : w.heap[g]? = some (.cells xs.toArray e (0, 0))) (hb : base ≤ g) (hn : n ≤ maxLen) (hx : xs.length = n * size) :
    w.ownsRow base e size (.slice (some ⟨g, 0, none⟩) n n) n xs :=
  ⟨hx, .inr ⟨g, n, xs.toArray, rfl, hb, hg, Nat.le_refl _, hn, by simpa using hx, by simp [← hx]⟩⟩

/-- A block known whole, none of it frozen. -/
def Blk (w : World) (g : Nat) (t : TypeId) (cs : Array Value) : Prop := w.heap[g]? = some (.cells cs t (0, 0))
section
variable {w w' : World} {g : Nat} {t : TypeId} {cs : Array Value}
theorem Blk.lt (h : Blk w g t cs) : g < w.heap.size := by
  rcases Nat.lt_or_ge g w.heap.size with hlt | hge
  · exact hlt
  · unfold Blk at h; rw [Array.getElem?_eq_none hge] at h; cases h
theorem Blk.cell (h : Blk w g t cs) (i : Nat) : w.cell? ⟨g, i, none⟩ = cs[i]? := by
  unfold Blk at h
  simp [World.cell?, h]
theorem Blk.frozen (h : Blk w g t cs) (i : Nat) : w.frozen? ⟨g, i, none⟩ = false := by
  unfold Blk at h
  simp [World.frozen?, h]
theorem Blk.new (h : w.heap.size = g) : Blk (w.alloc (.cells cs t)) g t cs := by
  subst h
  show (w.heap.push _)[w.heap.size]? = _
  simp
theorem Blk.alloc (h : Blk w g t cs) (o : Obj) : Blk (w.alloc o) g t cs := (Below.heap_alloc w o g h.lt).trans h
theorem Blk.far (h : Blk w g t cs) {p : Addr} (hp : g ≠ p.block) (u : Value) : Blk (w.setCell p u) g t cs := (Below.heap_setCell w p u g hp).trans h
theorem Blk.set (h : Blk w g t cs) (i : Nat) (u : Value) : Blk (w.setCell ⟨g, i, none⟩ u) g t (cs.setIfInBounds i u) := by
  unfold Blk at h ⊢
  simp [World.setCell, Array.getElem?_modify, h]
theorem Blk.below {B : Nat} (h : Blk w g t cs) (hb : Below B w w') (hg : g < B) : Blk w' g t cs := (hb.block g hg).trans h
theorem Blk.drewN (h : Blk w g t cs) (n : Nat) : Blk (w.drewN n) g t cs := h
theorem Blk.drew (h : Blk w g t cs) : Blk w.drew g t cs := h
theorem Blk.grown {row : Option Nat} (h : Blk w g t cs) (hb : w.grownBy w' row) (hg : some g ≠ row) : Blk w' g t cs := (hb.block g h.lt hg).trans h
end

theorem own_form {w : World} {base n c : Nat} {e : TypeId} {size : Nat} {A : Option Addr} {xs : List Value} (h : w.ownsRow base e size (.slice A n c) n xs) (hn : 0 < n) : ∃ g, A = some ⟨g, 0, none⟩ ∧ base ≤ g ∧ g < w.heap.size := by
  rcases h.2 with ⟨_, h0⟩ | ⟨g, cap, cur, hv, hb, hh, _⟩
  · omega
  · injection hv with hA
    refine ⟨g, hA, hb, ?_⟩
    rcases Nat.lt_or_ge g w.heap.size with hlt | hge
    · exact hlt
    · rw [Array.getElem?_eq_none hge] at hh; cases hh

theorem own_less {w : World} {base base' : Nat} {e : TypeId} {size : Nat} {v : Value} {n : Nat} {xs : List Value} (h : w.ownsRow base e size v n xs) (hb : base' ≤ base) : w.ownsRow base' e size v n xs :=
  ⟨h.1, h.2.imp id fun ⟨g, cap, cur, h1, h2, r⟩ => ⟨g, cap, cur, h1, Nat.le_trans hb h2, r⟩⟩
theorem set_app {α : Type} (X Y : List α) (j : Nat) (u : α) : (X ++ Y).set (X.length + j) u = X ++ Y.set j u := by
  rw [List.set_append, if_neg (by omega), Nat.add_sub_cancel_left]

theorem arcs_set3 : ∀ (L : List ArcN) (k : Nat) (a : ArcN), k < L.length →
    (((L.flatMap arcCells).set (k * 3) (.int .i64 a.frm)).set (k * 3 + 1) (.int .i64 a.to)).set (k * 3 + 2) (.int .i64 a.cap) = (L.set k a).flatMap arcCells
  | [], k, a, h => by simp at h
  | x :: r, 0, a, _ => by simp [arcCells]
  | x :: r, k + 1, a, h => by
    have ih := arcs_set3 r k a (by simpa using h)
    simp only [List.set_cons_succ, List.flatMap_cons, ← ih]
    rw [show (k + 1) * 3 = (arcCells x).length + k * 3 from by simp [arcCells]; omega, Nat.add_assoc, Nat.add_assoc]
    rw [set_app, set_app, set_app]

theorem own_set3 {w : World} {base e g cap n : Nat} {L : List ArcN} {k : Nat} (h : w.ownsRow base e 3 (.slice (some ⟨g, 0, none⟩) n cap) n (L.flatMap arcCells)) (hL : L.length = n) (hk : k < n) (a : ArcN) :
    (((w.setCell ⟨g, k * 3, none⟩ (.int .i64 a.frm)).setCell ⟨g, k * 3 + 1, none⟩ (.int .i64 a.to)).setCell ⟨g, k * 3 + 2, none⟩ (.int .i64 a.cap)).ownsRow base e 3 (.slice (some ⟨g, 0, none⟩) n cap) n ((L.set k a).flatMap arcCells) := by
  rw [← arcs_set3 L k a (by omega)]
  exact (((h.stored _ _).1.stored _ _).1.stored _ _).1

def mapTo {α : Type} (f : α → α) (l : List α) (k : Nat) : List α := (l.take k).map f ++ l.drop k
theorem mapTo_len {α : Type} (f : α → α) (l : List α) (k : Nat) : (mapTo f l k).length = l.length := by simp [mapTo]; omega
theorem mapTo_zero {α : Type} (f : α → α) (l : List α) : mapTo f l 0 = l := by simp [mapTo]
theorem mapTo_end {α : Type} (f : α → α) (l : List α) {k n : Nat} (hl : l.length = n) (hk : ¬ k < n) : mapTo f l k = l.map f := by
  simp [mapTo, List.take_of_length_le (show l.length ≤ k by omega), List.drop_eq_nil_of_le (show l.length ≤ k by omega)]
theorem mapTo_set {α : Type} (f : α → α) {l : List α} {k : Nat} {a : α} (h : l[k]? = some a) : (mapTo f l k).set k (f a) = mapTo f l (k + 1) := by
  have hk := (List.getElem?_eq_some_iff.1 h).1
  unfold mapTo
  have e : ((l.take k).map f).length = k := by simp; omega
  rw [take_at h, drop_at h, List.set_append, if_neg (by omega), e, Nat.sub_self]
  simp

theorem Blk.at4 {w : World} {g : Nat} {t : TypeId} {v0 v1 v2 v3 : Value} (h : Blk w g t #[v0, v1, v2, v3]) :
    w.cell? ⟨g, 0, none⟩ = some v0 ∧ w.cell? ⟨g, 1, none⟩ = some v1 ∧ w.cell? ⟨g, 2, none⟩ = some v2 ∧ w.cell? ⟨g, 3, none⟩ = some v3 :=
  ⟨h.cell 0, h.cell 1, h.cell 2, h.cell 3⟩
theorem Blk.free4 {w : World} {g : Nat} {t : TypeId} {cs : Array Value} (h : Blk w g t cs) :
    w.frozen? ⟨g, 0, none⟩ = false ∧ w.frozen? ⟨g, 1, none⟩ = false ∧ w.frozen? ⟨g, 2, none⟩ = false ∧ w.frozen? ⟨g, 3, none⟩ = false :=
  ⟨h.frozen 0, h.frozen 1, h.frozen 2, h.frozen 3⟩
theorem Blk.set4 {w : World} {g : Nat} {t : TypeId} {u0 u1 u2 u3 : Value} (h : Blk w g t #[u0, u1, u2, u3]) (v0 v1 v2 v3 : Value) :
    Blk ((((w.setCell ⟨g, 0, none⟩ v0).setCell ⟨g, 1, none⟩ v1).setCell ⟨g, 2, none⟩ v2).setCell ⟨g, 3, none⟩ v3) g t #[v0, v1, v2, v3] := by
  have := (((h.set 0 v0).set 1 v1).set 2 v2).set 3 v3
  simpa using this
theorem own_cells3 {w : World} {base e g cap n : Nat} {L : List ArcN} {k : Nat} (h : w.ownsRow base e 3 (.slice (some ⟨g, 0, none⟩) n cap) n (L.flatMap arcCells)) (hL : L.length = n) (hk : k < n) :
    ∃ a, L[k]? = some a ∧ w.cell? ⟨g, k * 3, none⟩ = some (.int .i64 a.frm) ∧ w.cell? ⟨g, k * 3 + 1, none⟩ = some (.int .i64 a.to) ∧ w.cell? ⟨g, k * 3 + 2, none⟩ = some (.int .i64 a.cap) ∧
      w.frozen? ⟨g, k * 3, none⟩ = false ∧ w.frozen? ⟨g, k * 3 + 1, none⟩ = false ∧ w.frozen? ⟨g, k * 3 + 2, none⟩ = false := by
  have ha : L[k]? = some L[k] := List.getElem?_eq_getElem (by omega)
  refine ⟨_, ha, ?_, ?_, ?_, h.frozenAt _, h.frozenAt _, h.frozenAt _⟩
  · rw [h.cellAt _ (by omega)]; exact flat_at (arc_len L) ha (j := 0) rfl
  · rw [h.cellAt _ (by omega)]; exact flat_at (arc_len L) ha (j := 1) rfl
  · rw [h.cellAt _ (by omega)]; exact flat_at (arc_len L) ha (j := 2) rfl
/-- A row stays owned while another block is written. -/
theorem own_far {w : World} {base n c : Nat} {e : TypeId} {size : Nat} {A : Option Addr} {xs : List Value} (h : w.ownsRow base e size (.slice A n c) n xs) {p : Addr} (hp : ∀ g, A = some ⟨g, 0, none⟩ → g ≠ p.block) (u : Value) : (w.setCell p u).ownsRow base e size (.slice A n c) n xs := by
  refine ⟨h.1, h.2.imp id ?_⟩
  rintro ⟨g, cap, cur, hv, hb, hh, r⟩
  refine ⟨g, cap, cur, hv, hb, ?_, r⟩
  injection hv with hA
  rw [Below.heap_setCell _ _ _ _ (hp g hA)]
  exact hh
/-- A row lies in a block of its own element type. -/
theorem own_ne {w : World} {base n c : Nat} {e : TypeId} {size : Nat} {A : Option Addr} {xs : List Value} {g : Nat} {t : TypeId} {cs : Array Value} (h : w.ownsRow base e size (.slice A n c) n xs) (hk : Blk w g t cs) (hne : e ≠ t) : ∀ g', A = some ⟨g', 0, none⟩ → g' ≠ g := by
  rintro g' rfl rfl
  rcases h.2 with ⟨h0, _⟩ | ⟨g, cap, cur, hv, hb, hh, _⟩
  · cases h0
  · injection hv with hA
    injection hA with hA
    injection hA with hA
    subst hA
    unfold Blk at hk
    rw [hh] at hk
    injection hk with hk
    injection hk with _ ht
    exact hne ht

section
variable {P : Program} (w : World)
theorem own_slice {w : World} {base n : Nat} {e : TypeId} {size : Nat} {v : Value} {xs : List Value} (h : w.ownsRow base e size v n xs) : ∃ A c, v = .slice A n c := by
  rcases h.2 with ⟨h0, h1⟩ | ⟨g, cap, cur, hv, _⟩
  · exact ⟨none, 0, by rw [h0, h1]⟩
  · exact ⟨_, _, hv⟩

/-- append of whatever source to a row of the call's own. -/
theorem run_append_row (base : Nat) (t ty e : TypeId) (i : TypeInfo) (z : Value) (size bytes : Nat) (ht : P.underlying t = some (.slice e)) (hi : P.info? e = some i) (hz : i.zero = some z)
    (hsize : i.size = size) (hby : i.bytes = bytes) (hzs : z.cells.size = size) (hsz : 0 < size)
    (A : Option Addr) (n c : Nat) (xs : List Value) (hown : w.ownsRow base e size (.slice A n c) n xs)
    (A2 : Option Addr) (m c2 : Nat) (news : List Value) (hl : news.length = m * size) (hsrc : 0 < m → ∃ ad, A2 = some ad ∧ ∀ j u, news[j]? = some u → w.cell? (ad.add j) = some u) (h1 : ∀ u ∈ news, u.oneCell' = true)
    (h63 : n + m ≤ maxLen) (hbytes : (n + m) * bytes ≤ 140737488355328) (hbase : base ≤ w.heap.size) :
    ∃ A' c' w', (Builtin.append_ #[t, t] ty #[.slice A n c, .slice A2 m c2]).run P w = .ok (.slice A' (n + m) c') w' ∧ w'.ownsRow base e size (.slice A' (n + m) c') (n + m) (xs ++ news) ∧
      w.grownBy w' (Value.slice A n c).ownBlock ∧ ((Value.slice A' (n + m) c').ownBlock = (Value.slice A n c).ownBlock ∨ (Value.slice A' (n + m) c').ownBlock = some w.heap.size) := by
  cases A2 with
  | none =>
    have hm : m = 0 := by
      rcases Nat.eq_zero_or_pos m with h0 | h0
      · exact h0
      · obtain ⟨ad, h, _⟩ := hsrc h0
        cases h
    subst hm
    have hn : news = [] := List.eq_nil_of_length_eq_zero (by simpa using hl)
    subst hn
    refine ⟨A, c, w, ?_, by simpa using hown, ⟨rfl, rfl, rfl, Nat.le_refl _, fun _ _ _ => rfl⟩, .inl rfl⟩
    rcases hown.2 with ⟨hv, h0⟩ | ⟨g, cap, cur, hv, _, _, hnc, _⟩
    · injection hv with e1 e2 e3
      subst e1; subst e2; subst e3
      simp [Builtin.append_, run_underlying ht, sizeOf, typeInfo, hi, Builtin.lenOf, Builtin.firstCells]
    · injection hv with e1 e2 e3
      subst e1; subst e3
      simp [Builtin.append_, run_underlying ht, sizeOf, typeInfo, hi, Builtin.lenOf, Builtin.firstCells, hnc, storeCells]
  | some ad =>
    have hc : ∀ j u, news[j]? = some u → w.cell? (ad.add j) = some u := by
      intro j u hu
      rcases Nat.eq_zero_or_pos m with h0 | h0
      · subst h0
        have hn : news = [] := List.eq_nil_of_length_eq_zero (by simpa using hl)
        subst hn
        simp at hu
      · obtain ⟨ad', h, hh⟩ := hsrc h0
        injection h with h
        subst h
        exact hh j u hu
    obtain ⟨v', w', hrun, h2, h3, _, h5⟩ := run_append_own_at (P := P) w base t ty e i z size bytes ht hi hz hsize hby hzs hsz (.slice A n c) n xs hown ad m c2 news hl hc h1 h63 hbytes hbase
    obtain ⟨A', c', rfl⟩ := own_slice h2
    exact ⟨A', c', w', hrun, h2, h3, h5⟩

theorem wpList_append_row {ops : Array Oper} {rest : List Oper} {o : Oper} {a : Act} {Q : Exit → Act → World → Prop} (hgd : o.guard = none) (s x : Operand) (t : TypeId)
    (ho : o.op = .call { callee := .builtin .append, args := #[s, x], argTypes := #[t, t] })
    (base : Nat) (e : TypeId) (i : TypeInfo) (z : Value) (size bytes : Nat) (ht : P.underlying t = some (.slice e)) (hi : P.info? e = some i) (hz : i.zero = some z)
    (hsize : i.size = size) (hby : i.bytes = bytes) (hzs : z.cells.size = size) (hsz : 0 < size)
    (A : Option Addr) (n c : Nat) (xs : List Value) (hs : a.eval s = .slice A n c) (hown : w.ownsRow base e size (.slice A n c) n xs)
    (A2 : Option Addr) (m c2 : Nat) (news : List Value) (hx : a.eval x = .slice A2 m c2) (hl : news.length = m * size) (hsrc : 0 < m → ∃ ad, A2 = some ad ∧ ∀ j u, news[j]? = some u → w.cell? (ad.add j) = some u) (h1 : ∀ u ∈ news, u.oneCell' = true)
    (h63 : n + m ≤ maxLen) (hbytes : (n + m) * bytes ≤ 140737488355328) (hbase : base ≤ w.heap.size)
    (h : ∀ A' c' w', Hid (w'.ownsRow base e size (.slice A' (n + m) c') (n + m) (xs ++ news)) → w.grownBy w' (Value.slice A n c).ownBlock → Hid ((Value.slice A' (n + m) c').ownBlock = (Value.slice A n c).ownBlock ∨ (Value.slice A' (n + m) c').ownBlock = some w.heap.size) → wpList P ops Q rest (a.put o.dst (.slice A' (n + m) c')) w') : wpList P ops Q (o :: rest) a w := by
  refine wpList_plain hgd fun _ hK => ?_
  obtain ⟨A', c', w', hrun, h2, h3, h4⟩ := run_append_row (P := P) w base t o.type e i z size bytes ht hi hz hsize hby hzs hsz A n c xs hown A2 m c2 news hl hsrc h1 h63 hbytes hbase
  unfold Oper.wp execOp
  simp only [ho, resolve, invoke, builtin, Sem.run_bind, Sem.run_pure, Result.andThen_ok, List.map_toArray, List.map_cons, List.map_nil, hs, hx, hrun]
  exact hK _ _ (h A' c' w' h2 h3 h4)
end

/-- Behind an append: which block is written. -/
theorem below_grown {B n c : Nat} {a w w' : World} {e : TypeId} {size base : Nat} {A : Option Addr} {xs : List Value} (h : Below B a w) (hg : w.grownBy w' (Value.slice A n c).ownBlock) (hown : w.ownsRow base e size (.slice A n c) n xs) (hB : B ≤ base) (hs : B ≤ w.heap.size) : Below B a w' :=
  h.grown hg hs fun k hk => by
    have := (hown.lt k hk).1
    omega

theorem Blk.grownO {w w' : World} {g : Nat} {t : TypeId} {cs : Array Value} {base n c : Nat} {e : TypeId} {size : Nat} {A : Option Addr} {xs : List Value} (h : Blk w g t cs) (hg : w.grownBy w' (Value.slice A n c).ownBlock) (hown : w.ownsRow base e size (.slice A n c) n xs) (hne : e ≠ t) : Blk w' g t cs := by
  refine h.grown hg fun he => ?_
  have hn := own_ne hown h hne
  rcases hown.2 with ⟨h0, _⟩ | ⟨g', cap, cur, hv, _⟩
  · injection h0 with h0
    subst h0
    cases he
  · injection hv with hA
    subst hA
    injection he with he
    exact hn g' rfl he.symm

theorem arcs_setCap : ∀ (L : List ArcN) (k : Nat) (b : ArcN) (c : Int), L[k]? = some b → (L.flatMap arcCells).set (k * 3 + 2) (.int .i64 c) = (L.set k ⟨b.frm, b.to, c⟩).flatMap arcCells
  | [], k, b, c, h => by simp at h
  | x :: r, 0, b, c, h => by simp at h; subst h; simp [arcCells]
  | x :: r, k + 1, b, c, h => by
    have ih := arcs_setCap r k b c (by simpa using h)
    simp only [List.set_cons_succ, List.flatMap_cons, ← ih]
    rw [show (k + 1) * 3 = (arcCells x).length + k * 3 from by simp [arcCells]; omega, Nat.add_assoc, set_app]
theorem own_setCap {w : World} {base e g cap n : Nat} {L : List ArcN} {k : Nat} {b : ArcN} (h : w.ownsRow base e 3 (.slice (some ⟨g, 0, none⟩) n cap) n (L.flatMap arcCells)) (hk : L[k]? = some b) (c : Int) :
    (w.setCell ⟨g, k * 3 + 2, none⟩ (.int .i64 c)).ownsRow base e 3 (.slice (some ⟨g, 0, none⟩) n cap) n ((L.set k ⟨b.frm, b.to, c⟩).flatMap arcCells) := by
  rw [← arcs_setCap L k b c hk]
  exact (h.stored _ _).1

/-- A block above a row's own stays while the row grows. -/
theorem Blk.grownUp {w0 w w' : World} {g : Nat} {t : TypeId} {cs : Array Value} {base n c : Nat} {e : TypeId} {size : Nat} {A : Option Addr} {xs : List Value} (h : Blk w g t cs) (hg : w.grownBy w' (Value.slice A n c).ownBlock) (hown : w0.ownsRow base e size (.slice A n c) n xs) (hle : w0.heap.size ≤ g) : Blk w' g t cs := by
  refine h.grown hg fun he => ?_
  have := (hown.lt g he.symm).2
  omega
theorem own_keptNe {w w' : World} {base n c : Nat} {e : TypeId} {size : Nat} {A : Option Addr} {xs : List Value} {b : Nat} (h : w.ownsRow base e size (.slice A n c) n xs) (hg : w.grownBy w' (some b)) (hne : ∀ g, A = some ⟨g, 0, none⟩ → b ≠ g) : w'.ownsRow base e size (.slice A n c) n xs := by
  refine h.kept hg ?_
  rcases h.2 with ⟨h0, _⟩ | ⟨g, cap, cur, hv, _⟩
  · injection h0 with h0
    subst h0
    exact .inl rfl
  · injection hv with hA
    subst hA
    exact .inr fun e => hne g rfl (by injection e with e; exact e.symm)
theorem grown_own_ne {A : Option Addr} {n c b : Nat} {w : World} {base : Nat} {e : TypeId} {size : Nat} {xs : List Value} (h : w.ownsRow base e size (.slice A n c) n xs) (hne : ∀ g, A = some ⟨g, 0, none⟩ → b ≠ g) : some b ≠ (Value.slice A n c).ownBlock := by
  rcases h.2 with ⟨h0, _⟩ | ⟨g, cap, cur, hv, _⟩
  · injection h0 with h0
    subst h0
    simp [Value.ownBlock]
  · injection hv with hA
    subst hA
    intro e
    exact hne g rfl (by injection e)
theorem snoc_set (J : List ArcN) (a b : ArcN) : (J ++ [a]).set J.length b = J ++ [b] := by
  simp

end Go.Proofs.Ytpmhajpjjihndaa

/-! Several makes in one statement, whichever comes first. -/
namespace Go.Proofs.Ytpmhajpjjihndaa
open Go.RowKit

section
variable {P : Program} {ops : Array Oper} {Q : Exit → Act → World → Prop} {S : World → Prop} {md : Region.Mode}

theorem wpOp_make {i : Nat} {o : Oper} {K : Act → World → Prop} {a : Act} {w : World} {x : Operand} {t e : TypeId} {M : Nat} {cs : Array Value}
    (ho : ops[i]? = some o) (hg : o.guard = none) (hop : o.op = .makeSlice t x x) (hx : a.eval x = .int .i64 (M : Int))
    (hmk : (Instr.makeSlice t (.int .i64 (M : Int)) (.int .i64 (M : Int))).run P w = .ok (.slice (some ⟨w.heap.size, 0, none⟩) M M) (w.alloc (.cells cs e)))
    (h : K (a.put o.dst (.slice (some ⟨w.heap.size, 0, none⟩) M M)) (w.alloc (.cells cs e))) : wpOp P ops Q i K a w := by
  unfold wpOp
  simp only [ho, Region.wanted, hg, if_true]
  left
  unfold Oper.wp execOp
  simp [hop, hx, hmk, Result.andThen, Oper.upon]
  exact h

/-- Take number i first, its slot written out. -/
theorem takeD {i : Nat} {oi : Oper} {v : Value} {fuel : Nat} {listed : Array Bool} {a : Act} {w : World} (d : Option Tmp) (hi : ops[i]? = some oi) (hd : oi.dst = d)
    (hs : Region.noSelect ops = true) (hf : Region.free md ops listed i = true) (hr : (Region.ready md ops listed).contains i = true)
    (hQ : ∀ c a w, Q (.panic c) (a.put oi.dst v) w → Q (.panic c) a w) (hy : YieldsIf P ops S oi v a) (hS : S w)
    (h : wpAnyH P md ops Q S fuel (listed.setIfInBounds i true) (a.put d v) w) : wpAnyH P md ops Q S (fuel + 1) listed a w := by
  subst hd
  exact wpAnyH_take hi hs hf hr hQ hy hS h

/-- Take number i first: what is checked is checked at once. -/
theorem tk {oi : Oper} {v : Value} {fuel : Nat} {listed : Array Bool} {a : Act} {w : World} (i d : Nat) (hi : ops[i]? = some oi)
    (hy : ∀ w, S w → (execOp a.eval oi).run P w = .ok (.value v) w) (h : wpAnyH P md ops Q S fuel (listed.setIfInBounds i true) (a.put (some d) v) w)
    (hc : (oi.dst, Region.noSelect ops, Region.free md ops listed i, (Region.ready md ops listed).contains i) = (some d, true, true, true) := by kernel_rfl)
    (hw : Region.wanted oi (yielded ops a.tmps) = true := by rfl) (hS : S w := by assumption) (hQ : ∀ c a w, Q (.panic c) (a.put oi.dst v) w → Q (.panic c) a w := by exact fun _ _ _ h => h) :
    wpAnyH P md ops Q S (fuel + 1) listed a w := by
  simp only [Prod.mk.injEq] at hc
  exact takeD (some d) hi hc.1 hc.2.1 hc.2.2.1 hc.2.2.2 hQ (.inl ⟨hw, hy⟩) hS h
theorem ta {oi : Oper} {v : Value} {fuel : Nat} {listed : Array Bool} {a : Act} {w : World} (i d : Nat) (hi : ops[i]? = some oi)
    (hy : ∀ w, S w → (execOp a.eval oi).run P w = .ok (.value v) w) (h : wpAnyH P md ops Q S fuel (listed.setIfInBounds i true) (a.put (some d) v) w)
    (hc : (oi.dst, Region.noSelect ops, Region.free md ops listed i, (Region.ready md ops listed).contains i) = (some d, true, true, true) := by as_aux_lemma => kernel_rfl)
    (hw : Region.wanted oi (yielded ops a.tmps) = true := by rfl) (hS : S w := by assumption) (hQ : ∀ c a w, Q (.panic c) (a.put oi.dst v) w → Q (.panic c) a w := by exact fun _ _ _ h => h) :
    wpAnyH P md ops Q S (fuel + 1) listed a w :=
  tk i d hi hy h hc hw hS hQ
theorem tu {oi : Oper} {fuel : Nat} {listed : Array Bool} {a : Act} {w : World} (i d : Nat) (hi : ops[i]? = some oi)
    (h : wpAnyH P md ops Q S fuel (listed.setIfInBounds i true) (a.put (some d) undef) w)
    (hc : (oi.dst, Region.noSelect ops, Region.free md ops listed i, (Region.ready md ops listed).contains i) = (some d, true, true, true) := by kernel_rfl)
    (hw : Region.wanted oi (yielded ops a.tmps) = false := by rfl) (hS : S w := by assumption) (hQ : ∀ c a w, Q (.panic c) (a.put oi.dst undef) w → Q (.panic c) a w := by exact fun _ _ _ h => h) :
    wpAnyH P md ops Q S (fuel + 1) listed a w := by
  simp only [Prod.mk.injEq] at hc
  exact takeD (some d) hi hc.1 hc.2.1 hc.2.2.1 hc.2.2.2 hQ (.inr ⟨hw, rfl⟩) hS h
theorem pa {α : Type} {l : List α} {i : Nat} {x : α} : l.toArray.setIfInBounds i x = (l.set i x).toArray := List.setIfInBounds_toArray ..
theorem pz {α : Type} {x y : α} {l : List α} : (x :: l).set 0 y = y :: l := rfl
theorem ps {α : Type} {x y : α} {l : List α} {n : Nat} : (x :: l).set (n + 1) y = x :: l.set n y := rfl

def putO (M d : Nat) (a : Act) : Option Nat → Act
  | none => a
  | some g => a.put (some d) (.slice (some ⟨g, 0, none⟩) M M)
def actN (D M : Nat → Nat) (a : Act) (b : Nat → Option Nat) : Nat → Act
  | 0 => a
  | n + 1 => putO (M n) (D n) (actN D M a b n) (b n)
def upd (b : Nat → Option Nat) (k g : Nat) : Nat → Option Nat := fun j => if j = k then some g else b j
def remN (b : Nat → Option Nat) : Nat → Nat
  | 0 => 0
  | n + 1 => remN b n + (if (b n).isNone then 1 else 0)

variable {D M : Nat → Nat} {a : Act} {b b' : Nat → Option Nat} {n k g : Nat}

theorem actN_congr (h : ∀ j, j < n → b j = b' j) : actN D M a b n = actN D M a b' n := by
  induction n with
  | zero => rfl
  | succ n ih => simp only [actN]; rw [ih fun j hj => h j (by omega), h n (by omega)]
theorem remN_congr (h : ∀ j, j < n → b j = b' j) : remN b n = remN b' n := by
  induction n with
  | zero => rfl
  | succ n ih => simp only [remN]; rw [ih fun j hj => h j (by omega), h n (by omega)]
theorem putO_put {m d d' : Nat} {o : Option Nat} {v : Value} (h : d ≠ d') : (putO m d a o).put (some d') v = putO m d (a.put (some d') v) o := by
  cases o with
  | none => rfl
  | some g =>
    show (a.put (some d) _).put (some d') v = (a.put (some d') v).put (some d) _
    exact Act.put_comm _ _ _ (fun e he => by injection he with he; subst he; intro h'; injection h' with h'; exact h h'.symm)
theorem actN_upd (hk : k < n) (hb : b k = none) (hD : ∀ i j, i < n → j < n → D i = D j → i = j) :
    (actN D M a b n).put (some (D k)) (.slice (some ⟨g, 0, none⟩) (M k) (M k)) = actN D M a (upd b k g) n := by
  induction n with
  | zero => omega
  | succ n ih =>
    by_cases e : k = n
    · subst e
      simp only [actN, hb, putO]
      rw [actN_congr (b' := b) (b := upd b k g) fun j hj => by unfold upd; rw [if_neg (by omega)]]
      simp [upd]
    · have hne : D n ≠ D k := fun h => e (hD n k (by omega) (by omega) h).symm
      simp only [actN]
      rw [putO_put hne, ih (by omega) fun i j hi hj => hD i j (by omega) (by omega)]
      simp [upd, show ¬ n = k by omega]
theorem remN_upd (hk : k < n) (hb : b k = none) : remN b n = remN (upd b k g) n + 1 := by
  induction n with
  | zero => omega
  | succ n ih =>
    by_cases e : k = n
    · subst e
      simp only [remN, hb]
      rw [remN_congr (b' := b) (b := upd b k g) fun j hj => by unfold upd; rw [if_neg (by omega)]]
      simp [upd]
    · simp only [remN]
      rw [ih (by omega)]
      simp [upd, show ¬ n = k by omega]
      omega
theorem remN_zero (h : remN b n = 0) : ∀ j, j < n → ∃ g, b j = some g := by
  induction n with
  | zero => intro j hj; omega
  | succ n ih =>
    intro j hj
    simp only [remN] at h
    by_cases e : j = n
    · subst e
      cases hb : b j with
      | none => simp [hb] at h
      | some g => exact ⟨g, rfl⟩
    · exact ih (by omega) j (by omega)
theorem remN_pos (h : remN b n ≠ 0) : ∃ j, j < n ∧ b j = none := by
  induction n with
  | zero => simp [remN] at h
  | succ n ih =>
    simp only [remN] at h
    by_cases e : remN b n = 0
    · refine ⟨n, by omega, ?_⟩
      cases hb : b n with
      | none => rfl
      | some g => simp [hb, e] at h
    · obtain ⟨j, hj, hb⟩ := ih e
      exact ⟨j, by omega, hb⟩
theorem remN_none (n : Nat) : remN (fun _ => none) n = n := by
  induction n with
  | zero => rfl
  | succ n ih => simp [remN, ih]
theorem actN_none (n : Nat) : actN D M a (fun _ => none) n = a := by
  induction n with
  | zero => rfl
  | succ n ih => simp [actN, putO, ih]
theorem actN_eval {x : Operand} (hx : ∀ j, j < n → x ≠ .tmp (D j)) : (actN D M a b n).eval x = a.eval x := by
  induction n with
  | zero => rfl
  | succ n ih =>
    have h := ih fun j hj => hx j (by omega)
    simp only [actN]
    cases b n with
    | none => exact h
    | some g => exact (Act.eval_put (fun d hd => by injection hd with hd; subst hd; exact hx n (by omega))).trans h

/-- The makes of a region, once only these may come up: whichever comes first, each has a block of its own in the end. -/
theorem wpAnyH_makes {fuel : Nat} {I : Nat → Nat} {E T : Nat → TypeId} {C : Nat → Array Value} {X : Nat → Operand} {L : (Nat → Bool) → Array Bool} {w0 : World}
    (hop : ∀ k, k < n → ∃ o, ops[I k]? = some o ∧ o.guard = none ∧ o.op = .makeSlice (T k) (X k) (X k) ∧ o.dst = some (D k))
    (hx : ∀ k, k < n → a.eval (X k) = .int .i64 (M k : Int)) (hxd : ∀ k j, k < n → j < n → X k ≠ .tmp (D j)) (hD : ∀ i j, i < n → j < n → D i = D j → i = j)
    (hmk : ∀ k, k < n → ∀ W : World, (Instr.makeSlice (T k) (.int .i64 (M k : Int)) (.int .i64 (M k : Int))).run P W = .ok (.slice (some ⟨W.heap.size, 0, none⟩) (M k) (M k)) (W.alloc (.cells (C k) (E k))))
    (hL : ∀ β β', (∀ k, k < n → β k = β' k) → L β = L β')
    (hset : ∀ k β, k < n → (L β).setIfInBounds (I k) true = L (fun j => if j = k then true else β j))
    (hr1 : ∀ β i, i ∈ Region.ready md ops (L β) → (∃ k, k < n ∧ β k = false ∧ i = I k) ∨ ∀ k, k < n → β k = true)
    (hr2 : ∀ β k, k < n → β k = false → Region.ready md ops (L β) ≠ [])
    (hS : ∀ w, Below w0.heap.size w0 w → S w)
    (hfin : ∀ (g : Nat → Nat) w, Below w0.heap.size w0 w → (∀ k, k < n → w0.heap.size ≤ g k ∧ Blk w (g k) (E k) (C k)) → (∀ k k', k < n → k' < n → g k = g k' → k = k') →
      wpAnyH P md ops Q S fuel (L fun _ => true) (actN D M a (fun k => some (g k)) n) w) :
    wpAnyH P md ops Q S (fuel + n) (L fun _ => false) a w0 := by
  have key : ∀ (c : Nat) (b : Nat → Option Nat) (w : World), remN b n = c → Below w0.heap.size w0 w → (∀ k g, k < n → b k = some g → w0.heap.size ≤ g ∧ Blk w g (E k) (C k)) →
      (∀ k k' g, k < n → k' < n → b k = some g → b k' = some g → k = k') → wpAnyH P md ops Q S (fuel + c) (L fun j => (b j).isSome) (actN D M a b n) w := by
    intro c
    induction c with
    | zero =>
      intro b w hc hb hk hi
      have hall := remN_zero hc
      have hg : ∀ j, j < n → b j = some ((b j).getD 0) := fun j hj => by obtain ⟨g, e⟩ := hall j hj; rw [e]; rfl
      have h := hfin (fun j => (b j).getD 0) w hb (fun k hkn => hk k _ hkn (hg k hkn)) (fun k k' h1 h2 he => hi k k' _ h1 h2 (hg k h1) (by rw [hg k' h2, ← he]))
      rw [actN_congr (b' := b) (b := fun k => some ((b k).getD 0)) fun j hj => (hg j hj).symm] at h
      rw [hL (fun j => (b j).isSome) (fun _ => true) fun k hkn => by rw [hg k hkn]; rfl]
      exact h
    | succ c ih =>
      intro b w hc hb hk hi
      obtain ⟨k0, hk0, hb0⟩ := remN_pos (show remN b n ≠ 0 by omega)
      refine ⟨fun h0 => absurd h0 (hr2 _ k0 hk0 (by simp [hb0])), fun i hir => ?_⟩
      rcases hr1 _ i hir with ⟨k, hkn, hbk, rfl⟩ | hall
      · have hbk' : b k = none := by simpa using hbk
        obtain ⟨o, h1, h2, h3, h4⟩ := hop k hkn
        refine wpOp_make h1 h2 h3 ((actN_eval fun j hj => hxd k j hkn hj).trans (hx k hkn)) (hmk k hkn w) ?_
        have hbw : Below w0.heap.size w0 (w.alloc (.cells (C k) (E k))) := hb.alloc hb.size _
        refine ⟨hS _ hbw, ?_⟩
        rw [h4, actN_upd hkn hbk' hD, hset k _ hkn]
        have hfe : (fun j => if j = k then true else (b j).isSome) = fun j => (upd b k w.heap.size j).isSome := by
          funext j
          unfold upd
          by_cases e : j = k
          · simp [e]
          · simp [e]
        rw [hfe]
        refine ih _ _ (by have := remN_upd (g := w.heap.size) hkn hbk'; omega) hbw ?_ ?_
        · intro j g hj hg
          unfold upd at hg
          by_cases e : j = k
          · subst e
            simp at hg
            subst hg
            exact ⟨hb.size, Blk.new rfl⟩
          · rw [if_neg e] at hg
            exact ⟨(hk j g hj hg).1, (hk j g hj hg).2.alloc _⟩
        · intro j j' g hj hj' hg hg'
          unfold upd at hg hg'
          by_cases e : j = k <;> by_cases e' : j' = k
          · rw [e, e']
          · rw [if_pos e] at hg; rw [if_neg e'] at hg'
            injection hg with hg
            have := (hk j' g hj' hg').2.lt
            omega
          · rw [if_neg e] at hg; rw [if_pos e'] at hg'
            injection hg' with hg'
            have := (hk j g hj hg).2.lt
            omega
          · rw [if_neg e] at hg; rw [if_neg e'] at hg'
            exact hi j j' g hj hj' hg hg'
      · have := hall k0 hk0
        simp [hb0] at this
  have h := key n (fun _ => none) w0 (remN_none n) (Below.refl _ _) (fun k g _ h => by cases h) (fun k k' g _ _ h => by cases h)
  rw [actN_none] at h
  exact h

/-- The same for five, what may come up checked by reckoning. -/
theorem wpAnyH_makes5 {fuel : Nat} {listed : Array Bool} {E T : Nat → TypeId} {C : Nat → Array Value} {w0 : World} (I0 I1 I2 I3 I4 : Nat) (I : Nat → Nat) (X : Nat → Operand) (D : Nat → Nat) (M : Nat → Nat) (L : Bool → Bool → Bool → Bool → Bool → Array Bool)
    (hI : I 0 = I0 ∧ I 1 = I1 ∧ I 2 = I2 ∧ I 3 = I3 ∧ I 4 = I4) (hl : listed = L false false false false false)
    (hop : ∀ k, k < 5 → ∃ o, ops[I k]? = some o ∧ o.guard = none ∧ o.op = .makeSlice (T k) (X k) (X k) ∧ o.dst = some (D k))
    (hx : ∀ k, k < 5 → a.eval (X k) = .int .i64 (M k : Int)) (hxd : ∀ k j, k < 5 → j < 5 → X k ≠ .tmp (D j)) (hD : ∀ i j, i < 5 → j < 5 → D i = D j → i = j)
    (hmk : ∀ k, k < 5 → ∀ W : World, (Instr.makeSlice (T k) (.int .i64 (M k : Int)) (.int .i64 (M k : Int))).run P W = .ok (.slice (some ⟨W.heap.size, 0, none⟩) (M k) (M k)) (W.alloc (.cells (C k) (E k))))
    (hset : ∀ b0 b1 b2 b3 b4, (L b0 b1 b2 b3 b4).setIfInBounds I0 true = L true b1 b2 b3 b4 ∧ (L b0 b1 b2 b3 b4).setIfInBounds I1 true = L b0 true b2 b3 b4 ∧ (L b0 b1 b2 b3 b4).setIfInBounds I2 true = L b0 b1 true b3 b4 ∧
      (L b0 b1 b2 b3 b4).setIfInBounds I3 true = L b0 b1 b2 true b4 ∧ (L b0 b1 b2 b3 b4).setIfInBounds I4 true = L b0 b1 b2 b3 true)
    (hr : ∀ b0 b1 b2 b3 b4 : Bool, (∀ i ∈ Region.ready md ops (L b0 b1 b2 b3 b4), (b0 = false ∧ i = I0) ∨ (b1 = false ∧ i = I1) ∨ (b2 = false ∧ i = I2) ∨ (b3 = false ∧ i = I3) ∨ (b4 = false ∧ i = I4) ∨ (b0 && b1 && b2 && b3 && b4) = true) ∧
      ((b0 && b1 && b2 && b3 && b4) = true ∨ (Region.ready md ops (L b0 b1 b2 b3 b4)).isEmpty = false))
    (hS : ∀ w, Below w0.heap.size w0 w → S w)
    (hfin : ∀ (g0 g1 g2 g3 g4 : Nat) w, Below w0.heap.size w0 w → w0.heap.size ≤ g0 → w0.heap.size ≤ g1 → w0.heap.size ≤ g2 → w0.heap.size ≤ g3 → w0.heap.size ≤ g4 →
      Blk w g0 (E 0) (C 0) → Blk w g1 (E 1) (C 1) → Blk w g2 (E 2) (C 2) → Blk w g3 (E 3) (C 3) → Blk w g4 (E 4) (C 4) →
      g0 ≠ g1 → g0 ≠ g2 → g0 ≠ g3 → g0 ≠ g4 → g1 ≠ g2 → g1 ≠ g3 → g1 ≠ g4 → g2 ≠ g3 → g2 ≠ g4 → g3 ≠ g4 →
      wpAnyH P md ops Q S fuel (L true true true true true) (((((a.put (some (D 0)) (.slice (some ⟨g0, 0, none⟩) (M 0) (M 0))).put (some (D 1)) (.slice (some ⟨g1, 0, none⟩) (M 1) (M 1))).put (some (D 2)) (.slice (some ⟨g2, 0, none⟩) (M 2) (M 2))).put (some (D 3)) (.slice (some ⟨g3, 0, none⟩) (M 3) (M 3))).put (some (D 4)) (.slice (some ⟨g4, 0, none⟩) (M 4) (M 4))) w) :
    wpAnyH P md ops Q S (fuel + 5) listed a w0 := by
  subst hl
  obtain ⟨e0, e1, e2, e3, e4⟩ := hI
  have five : ∀ k, k < 5 → k = 0 ∨ k = 1 ∨ k = 2 ∨ k = 3 ∨ k = 4 := fun k hk => by omega
  refine wpAnyH_makes (n := 5) (I := I) (L := fun β => L (β 0) (β 1) (β 2) (β 3) (β 4)) hop hx hxd hD hmk ?_ ?_ ?_ ?_ hS ?_
  · intro β β' h
    rw [h 0 (by omega), h 1 (by omega), h 2 (by omega), h 3 (by omega), h 4 (by omega)]
  · intro k β hk
    obtain ⟨s0, s1, s2, s3, s4⟩ := hset (β 0) (β 1) (β 2) (β 3) (β 4)
    rcases five k hk with rfl | rfl | rfl | rfl | rfl
    · rw [e0, s0]; rfl
    · rw [e1, s1]; rfl
    · rw [e2, s2]; rfl
    · rw [e3, s3]; rfl
    · rw [e4, s4]; rfl
  · intro β i hi
    rcases (hr (β 0) (β 1) (β 2) (β 3) (β 4)).1 i hi with h | h | h | h | h | h
    · exact .inl ⟨0, by omega, h.1, by rw [e0]; exact h.2⟩
    · exact .inl ⟨1, by omega, h.1, by rw [e1]; exact h.2⟩
    · exact .inl ⟨2, by omega, h.1, by rw [e2]; exact h.2⟩
    · exact .inl ⟨3, by omega, h.1, by rw [e3]; exact h.2⟩
    · exact .inl ⟨4, by omega, h.1, by rw [e4]; exact h.2⟩
    · simp only [Bool.and_eq_true] at h
      refine .inr fun k hk => ?_
      rcases five k hk with rfl | rfl | rfl | rfl | rfl
      · exact h.1.1.1.1
      · exact h.1.1.1.2
      · exact h.1.1.2
      · exact h.1.2
      · exact h.2
  · intro β k hk hb he
    rcases (hr (β 0) (β 1) (β 2) (β 3) (β 4)).2 with h | h
    · simp only [Bool.and_eq_true] at h
      rcases five k hk with rfl | rfl | rfl | rfl | rfl
      · rw [h.1.1.1.1] at hb; cases hb
      · rw [h.1.1.1.2] at hb; cases hb
      · rw [h.1.1.2] at hb; cases hb
      · rw [h.1.2] at hb; cases hb
      · rw [h.2] at hb; cases hb
    · rw [he] at h
      cases h
  · intro g w hb hk hi
    have ne : ∀ i j, i < 5 → j < 5 → i ≠ j → g i ≠ g j := fun i j hi' hj' hne h => hne (hi i j hi' hj' h)
    exact hfin (g 0) (g 1) (g 2) (g 3) (g 4) w hb (hk 0 (by omega)).1 (hk 1 (by omega)).1 (hk 2 (by omega)).1 (hk 3 (by omega)).1 (hk 4 (by omega)).1
      (hk 0 (by omega)).2 (hk 1 (by omega)).2 (hk 2 (by omega)).2 (hk 3 (by omega)).2 (hk 4 (by omega)).2
      (ne 0 1 (by omega) (by omega) (by omega)) (ne 0 2 (by omega) (by omega) (by omega)) (ne 0 3 (by omega) (by omega) (by omega)) (ne 0 4 (by omega) (by omega) (by omega)) (ne 1 2 (by omega) (by omega) (by omega)) (ne 1 3 (by omega) (by omega) (by omega)) (ne 1 4 (by omega) (by omega) (by omega)) (ne 2 3 (by omega) (by omega) (by omega)) (ne 2 4 (by omega) (by omega) (by omega)) (ne 3 4 (by omega) (by omega) (by omega))
end

end Go.Proofs.Ytpmhajpjjihndaa

/-! A statement whose last step comes behind all others: it may be kept for the end. -/
namespace Go.Proofs.Ytpmhajpjjihndaa
open Go.RowKit

section
variable {P : Program} {ops : Array Oper} {o : Oper} {Q : Exit → Act → World → Prop} {md : Region.Mode}

/-- The last one waits for all others; the others look back alone; nothing is guarded. -/
def lastOk (md : Region.Mode) (ops : Array Oper) (o : Oper) : Bool :=
  o.guard.isNone && o.after.all (fun e => decide (e.on < ops.size)) && (List.range ops.size).all (fun i => o.after.any fun e => Region.binds md e && e.on == i) &&
    (List.range ops.size).all fun j => match ops[j]? with
      | some oj => oj.guard.isNone && oj.after.all fun e => decide (e.on < j)
      | none => true

theorem lastOk_last (h : lastOk md ops o = true) : o.guard = none ∧ (∀ e ∈ o.after, e.on < ops.size) ∧ ∀ i, i < ops.size → ∃ e ∈ o.after, Region.binds md e = true ∧ e.on = i := by
  simp only [lastOk, Bool.and_eq_true] at h
  obtain ⟨⟨⟨h1, h2⟩, h3⟩, _⟩ := h
  refine ⟨by simpa using h1, fun e he => by simpa using Array.all_eq_true_iff_forall_mem.1 h2 e he, fun i hi => ?_⟩
  have := List.all_eq_true.1 h3 i (List.mem_range.2 hi)
  obtain ⟨e, he, hb⟩ := Array.any_eq_true'.1 this
  simp only [Bool.and_eq_true, beq_iff_eq] at hb
  exact ⟨e, he, hb.1, hb.2⟩
theorem lastOk_head (h : lastOk md ops o = true) {j : Nat} {oj : Oper} (hj : ops[j]? = some oj) : oj.guard = none ∧ ∀ e ∈ oj.after, e.on < j := by
  simp only [lastOk, Bool.and_eq_true] at h
  have hlt : j < ops.size := (Array.getElem?_eq_some_iff.1 hj).1
  have := List.all_eq_true.1 h.2 j (List.mem_range.2 hlt)
  simp only [hj, Bool.and_eq_true] at this
  exact ⟨by simpa using this.1, fun e he => by simpa using Array.all_eq_true_iff_forall_mem.1 this.2 e he⟩

theorem push_at {i : Nat} (hi : i < ops.size) : (ops.push o)[i]? = ops[i]? := by
  rw [Array.getElem?_push, if_neg (by omega)]
theorem push_end : (ops.push o)[ops.size]? = some o := by simp

theorem getD_push {listed : Array Bool} {i : Nat} (d : Bool) (hi : i < listed.size) : (listed.push false).getD i d = listed.getD i d := by
  simp [Array.getD_eq_getD_getElem?, Array.getElem?_push, show ¬ i = listed.size by omega]
theorem getD_pushEnd {listed : Array Bool} (d : Bool) : (listed.push false).getD listed.size d = false := by
  simp [Array.getD_eq_getD_getElem?]

/-- Where nothing may come up, all have. -/
theorem all_listed (h : lastOk md ops o = true) {listed : Array Bool} (hs : listed.size = ops.size) (hr : Region.ready md ops listed = []) : ∀ i, i < ops.size → listed.getD i false = true := by
  intro i
  induction i using Nat.strongRecOn with
  | _ i ih =>
    intro hi
    have hoi : ops[i]? = some ops[i] := Array.getElem?_eq_getElem hi
    have hnot : i ∉ Region.ready md ops listed := by rw [hr]; simp
    cases hl : listed.getD i false with
    | true => rfl
    | false =>
      refine absurd (mem_ready.2 ⟨?_, ops[i], hoi, fun e he _ => ?_⟩) hnot
      · have : i < listed.size := by omega
        simp [this] at hl ⊢
        exact hl
      · have := (lastOk_head h hoi).2 e he
        exact ih _ this (by omega)

theorem ready_push (h : lastOk md ops o = true) {listed : Array Bool} (hs : listed.size = ops.size) {i : Nat} (hi : i ∈ Region.ready md (ops.push o) (listed.push false)) :
    (i < ops.size ∧ i ∈ Region.ready md ops listed) ∨ (i = ops.size ∧ ∀ k, k < ops.size → listed.getD k false = true) := by
  obtain ⟨h1, oi, h2, h3⟩ := mem_ready.1 hi
  have hlt : i < (ops.push o).size := (Array.getElem?_eq_some_iff.1 h2).1
  simp at hlt
  by_cases he : i = ops.size
  · subst he
    right
    refine ⟨rfl, fun k hk => ?_⟩
    rw [push_end] at h2
    injection h2 with h2
    subst h2
    obtain ⟨e, he, hb, rfl⟩ := (lastOk_last h).2.2 k hk
    have := h3 e he hb
    rwa [getD_push _ (by omega)] at this
  · left
    have hi' : i < ops.size := by omega
    rw [push_at hi'] at h2
    refine ⟨hi', mem_ready.2 ⟨?_, oi, h2, fun e he hb => ?_⟩⟩
    · rwa [getD_push _ (by omega)] at h1
    · have h4 := h3 e he hb
      have h5 := (lastOk_head h h2).2 e he
      rwa [getD_push _ (by omega)] at h4
theorem ready_end (h : lastOk md ops o = true) {listed : Array Bool} (hs : listed.size = ops.size) (hall : ∀ k, k < ops.size → listed.getD k false = true) : ops.size ∈ Region.ready md (ops.push o) (listed.push false) := by
  refine mem_ready.2 ⟨?_, o, push_end, fun e he _ => ?_⟩
  · rw [← hs]; exact getD_pushEnd _
  · have h1 := (lastOk_last h).2.1 e he
    rw [getD_push _ (by omega)]
    exact hall _ h1
theorem ready_in {listed : Array Bool} (h : lastOk md ops o = true) (hs : listed.size = ops.size) {i : Nat} (hi : i ∈ Region.ready md ops listed) : i ∈ Region.ready md (ops.push o) (listed.push false) := by
  obtain ⟨h1, oi, h2, h3⟩ := mem_ready.1 hi
  have hlt : i < ops.size := (Array.getElem?_eq_some_iff.1 h2).1
  refine mem_ready.2 ⟨?_, oi, by rw [push_at hlt]; exact h2, fun e he hb => ?_⟩
  · rw [getD_push _ (by omega)]; exact h1
  · have h5 := (lastOk_head h h2).2 e he
    rw [getD_push _ (by omega)]
    exact h3 e he hb

theorem upon_then {a : Act} {next K' : Act → World → Prop} {r : Result Next} (h : o.upon P a next (Exit.then K' Q) r) : o.upon P a next Q r := by
  cases r with
  | ok n w' => cases n <;> exact h
  | halt x w' => cases x <;> exact h
theorem wpOp_push (hl : lastOk md ops o = true) {i : Nat} {K K' : Act → World → Prop} {a : Act} {w : World} (hi : i < ops.size) (h : wpOp P ops (Exit.then K' Q) i K a w) : wpOp P (ops.push o) Q i K a w := by
  unfold wpOp at h ⊢
  rw [push_at hi]
  have hoi : ops[i]? = some ops[i] := Array.getElem?_eq_getElem hi
  simp only [hoi, Region.wanted, (lastOk_head hl hoi).1, if_true] at h ⊢
  exact h.imp upon_then id

theorem wpAny_push (hl : lastOk md ops o = true) : ∀ (fuel : Nat) (listed : Array Bool) (a : Act) (w : World), listed.size = ops.size →
    wpAny P md ops (Exit.then (fun a w => o.wp P a w (Q .normal) Q) Q) fuel listed a w → wpAny P md (ops.push o) Q (fuel + 1) (listed.push false) a w := by
  have fin : ∀ (fuel : Nat) (listed : Array Bool) (a : Act) (w : World), listed.size = ops.size → (∀ k, k < ops.size → listed.getD k false = true) → o.wp P a w (Q .normal) Q →
      wpAny P md (ops.push o) Q (fuel + 1) (listed.push false) a w := by
    intro fuel listed a w hs hall hw
    refine ⟨fun h0 => absurd (ready_end hl hs hall) (by rw [h0]; simp), fun i hi => ?_⟩
    rcases ready_push hl hs hi with ⟨hlt, hir⟩ | ⟨rfl, _⟩
    · have h1 := (mem_ready.1 hir).1
      have h2 := hall i hlt
      have : i < listed.size := by omega
      simp [this] at h1 h2
      rw [h1] at h2; cases h2
    · unfold wpOp
      simp only [push_end, Region.wanted, (lastOk_last hl).1, if_true]
      left
      refine Oper.wp_mono (fun a' w' hk => wpAny_done ?_ hk _) hw
      rw [← hs]
      cases hr : Region.ready md (ops.push o) ((listed.push false).setIfInBounds listed.size true) with
      | nil => rfl
      | cons j rs =>
        have hj : j ∈ Region.ready md (ops.push o) ((listed.push false).setIfInBounds listed.size true) := by rw [hr]; simp
        obtain ⟨h1, oj, h2, _⟩ := mem_ready.1 hj
        have hjl : j < (ops.push o).size := (Array.getElem?_eq_some_iff.1 h2).1
        simp at hjl
        by_cases e : j = listed.size
        · subst e
          simp [Array.getD_eq_getD_getElem?] at h1
        · rw [getD_set_ne true (fun e' => e e'.symm), getD_push _ (by omega)] at h1
          have h3 := hall j (by omega)
          have : j < listed.size := by omega
          simp [this] at h1 h3
          rw [h1] at h3; cases h3
  intro fuel
  induction fuel with
  | zero =>
    intro listed a w hs h
    exact fin 0 listed a w hs (all_listed hl hs h.1) h.2
  | succ fuel ih =>
    intro listed a w hs h
    cases hr : Region.ready md ops listed with
    | nil => exact fin _ listed a w hs (all_listed hl hs hr) (h.1 hr)
    | cons j rs =>
      have hj : j ∈ Region.ready md ops listed := by rw [hr]; simp
      refine ⟨fun h0 => absurd (ready_in hl hs hj) (by rw [h0]; simp), fun i hi => ?_⟩
      rcases ready_push hl hs hi with ⟨hlt, hir⟩ | ⟨rfl, hall⟩
      · have h1 := h.2 i hir
        refine wpOp_push hl hlt (wpOp_mono (fun a' w' hh => ?_) h1)
        have := ih (listed.setIfInBounds i true) a' w' (by simpa using hs) hh
        rwa [show (listed.push false).setIfInBounds i true = (listed.setIfInBounds i true).push false from by
          apply Array.ext'
          simp only [Array.toList_setIfInBounds, Array.toList_push]
          rw [List.set_append_left _ _ (by simpa using by omega)]]
      · have h1 := hall j ((Array.getElem?_eq_some_iff.1 (mem_ready.1 hj).2.choose_spec.1).1)
        have h2 := (mem_ready.1 hj).1
        have : j < listed.size := by rw [hs]; exact (Array.getElem?_eq_some_iff.1 (mem_ready.1 hj).2.choose_spec.1).1
        simp [this] at h1 h2
        rw [h1] at h2; cases h2

theorem replicate_push (n : Nat) : (Array.replicate n false).push false = Array.replicate (n + 1) false := by
  apply Array.ext'
  simp [List.replicate_succ']

/-- A region whose last step comes behind all others, begun: the others under S; then the last one. -/
theorem wp_region_last {S : World → Prop} {id : Nat} {all : Array Oper} {a : Act} {w : World} (ops : Array Oper) (o : Oper) (hm : P.follows .mixedOrders = true) (ha : all = ops.push o) (hl : lastOk .any ops o = true) (hS : S w.drew)
    (h : S w.drew → wpAnyH P .any ops (Exit.then (fun a w => o.wp P a w (Q .normal) Q) Q) S ops.size (Array.replicate ops.size false) a w.drew) : (Code.region id all true).wp P Q a w := by
  subst ha
  refine wp_region_any hm ?_
  have := wpAny_push hl ops.size _ a w.drew (by simp) (wpAny_of_held _ _ _ _ (h hS))
  rw [replicate_push] at this
  simpa using this

/-- The same, the statement told as a list. -/
theorem wp_region_lastL {S : World → Prop} {id : Nat} {a : Act} {w : World} {os : List Oper} {o : Oper} (ho : os.getLast? = some o) (hm : P.follows .mixedOrders = true) (hl : lastOk .any os.dropLast.toArray o = true) (hS : S w.drew)
    (h : S w.drew → wpAnyH P .any os.dropLast.toArray (Exit.then (fun a w => o.wp P a w (Q .normal) Q) Q) S os.dropLast.toArray.size (Array.replicate os.dropLast.toArray.size false) a w.drew) : (Code.region id os.toArray true).wp P Q a w := by
  refine wp_region_last _ o hm ?_ hl hS h
  obtain ⟨ys, rfl⟩ := List.getLast?_eq_some_iff.1 ho
  simp
end

section
variable {P : Program} (w : World)
theorem step_append_row {ops : Array Oper} {o : Oper} {a : Act} {K : Act → World → Prop} {Q : Exit → Act → World → Prop} {E : Prop} (hgd : o.guard = none) (s x : Operand) (t : TypeId)
    (ho : o.op = .call { callee := .builtin .append, args := #[s, x], argTypes := #[t, t] })
    (base : Nat) (e : TypeId) (i : TypeInfo) (z : Value) (size bytes : Nat) (ht : P.underlying t = some (.slice e)) (hi : P.info? e = some i) (hz : i.zero = some z)
    (hsize : i.size = size) (hby : i.bytes = bytes) (hzs : z.cells.size = size) (hsz : 0 < size)
    (A : Option Addr) (n c : Nat) (xs : List Value) (hs : a.eval s = .slice A n c) (hown : w.ownsRow base e size (.slice A n c) n xs)
    (A2 : Option Addr) (m c2 : Nat) (news : List Value) (hx : a.eval x = .slice A2 m c2) (hl : news.length = m * size) (hsrc : 0 < m → ∃ ad, A2 = some ad ∧ ∀ j u, news[j]? = some u → w.cell? (ad.add j) = some u) (h1 : ∀ u ∈ news, u.oneCell' = true)
    (h63 : n + m ≤ maxLen) (hbytes : (n + m) * bytes ≤ 140737488355328) (hbase : base ≤ w.heap.size)
    (h : ∀ A' c' w', Hid (w'.ownsRow base e size (.slice A' (n + m) c') (n + m) (xs ++ news)) → w.grownBy w' (Value.slice A n c).ownBlock → Hid ((Value.slice A' (n + m) c').ownBlock = (Value.slice A n c).ownBlock ∨ (Value.slice A' (n + m) c').ownBlock = some w.heap.size) → K (a.put o.dst (.slice A' (n + m) c')) w') :
    if Region.wanted o (yielded ops a.tmps) = true then Oper.wp P o a w K Q else E := by
  have hw : Region.wanted o (yielded ops a.tmps) = true := by simp [Region.wanted, hgd]
  rw [if_pos hw]
  obtain ⟨A', c', w', hrun, h2, h3, h4⟩ := run_append_row (P := P) w base t o.type e i z size bytes ht hi hz hsize hby hzs hsz A n c xs hown A2 m c2 news hl hsrc h1 h63 hbytes hbase
  unfold Oper.wp execOp
  simp only [ho, resolve, invoke, builtin, Sem.run_bind, Sem.run_pure, Result.andThen_ok, List.map_toArray, List.map_cons, List.map_nil, hs, hx, hrun]
  exact h A' c' w' h2 h3 h4
end

theorem Blk.set4' {w : World} {g : Nat} {t : TypeId} {u0 u1 u2 u3 : Value} (h : Blk w g t #[u0, u1, u2, u3]) (v3 : Value) : Blk (w.setCell ⟨g, 3, none⟩ v3) g t #[u0, u1, u2, v3] := by
  have := h.set 3 v3
  simpa using this

end Go.Proofs.Ytpmhajpjjihndaa

/-! A statement that draws its order, inside a fence: first steps that only read, then steps each of which comes behind all others: the first ones in the order of the text, then the others one by one. -/
namespace Go.Proofs.Ytpmhajpjjihndaa

section
variable {F : Fence} {n : Nat} {P : Program} {md : Region.Mode}

/-- Each step looks back alone. -/
def backOk (ops : Array Oper) : Bool :=
  (List.range ops.size).all fun j => match ops[j]? with
    | some oj => (match oj.guard with | none => true | some g => decide (g.1 < j)) && oj.after.all fun e => decide (e.on < j)
    | none => true
def aims (md : Region.Mode) (o : Oper) : List Nat := (o.after.toList.filter (Region.binds md)).map (·.on)
/-- Whatever stands below j is waited for, at one remove or more. -/
def coverB (md : Region.Mode) (ops : Array Oper) : Nat → List Nat → Bool
  | 0, _ => true
  | j + 1, m => m.contains j && coverB md ops j (match ops[j]? with | some oj => aims md oj ++ m | none => m)
def behindB (md : Region.Mode) (ops : Array Oper) (o : Oper) : Bool := backOk (ops.push o) && coverB md ops ops.size (aims md o)
def tailB (md : Region.Mode) : Array Oper → List Oper → Bool
  | _, [] => true
  | ops, o :: r => behindB md ops o && tailB md (ops.push o) r

variable {ops : Array Oper} {o : Oper} {Q : Exit → Act → World → Prop}

theorem back_at (h : backOk ops = true) {j : Nat} {oj : Oper} (hj : ops[j]? = some oj) : (∀ g, oj.guard = some g → g.1 < j) ∧ ∀ e ∈ oj.after, e.on < j := by
  have hlt : j < ops.size := (Array.getElem?_eq_some_iff.1 hj).1
  have := List.all_eq_true.1 h j (List.mem_range.2 hlt)
  simp only [hj, Bool.and_eq_true] at this
  refine ⟨fun g hg => ?_, fun e he => by simpa using Array.all_eq_true_iff_forall_mem.1 this.2 e he⟩
  have h1 := this.1
  rw [hg] at h1
  simpa using h1
theorem at_push {i : Nat} (hi : i < ops.size) : (ops.push o)[i]? = ops[i]? := by
  rw [Array.getElem?_push, if_neg (by omega)]
theorem at_pushEnd : (ops.push o)[ops.size]? = some o := by simp
theorem yielded_push {t : Array Value} {i : Nat} (hi : i < ops.size) : yielded (ops.push o) t i = yielded ops t i := by
  unfold yielded
  rw [at_push hi]
theorem wanted_push {t : Array Value} {oi : Oper} (hg : ∀ g, oi.guard = some g → g.1 < ops.size) : Region.wanted oi (yielded (ops.push o) t) = Region.wanted oi (yielded ops t) := by
  unfold Region.wanted
  cases h : oi.guard with
  | none => rfl
  | some g => simp only [yielded_push (hg g h)]

/-- Whoever has come, all that it waits for has come. -/
def Shut (md : Region.Mode) (ops : Array Oper) (listed : Array Bool) : Prop :=
  ∀ (i : Nat) (oi : Oper), ops[i]? = some oi → listed.getD i false = true → ∀ e ∈ oi.after, Region.binds md e = true → listed.getD e.on false = true

theorem getD_at_push {listed : Array Bool} {i : Nat} (d : Bool) (hi : i < listed.size) : (listed.push false).getD i d = listed.getD i d := by
  simp [Array.getD_eq_getD_getElem?, Array.getElem?_push, show ¬ i = listed.size by omega]
theorem getD_at_end {listed : Array Bool} (d : Bool) : (listed.push false).getD listed.size d = false := by
  simp [Array.getD_eq_getD_getElem?]
theorem getD_any {listed : Array Bool} {i : Nat} (hi : i < listed.size) (d d' : Bool) : listed.getD i d = listed.getD i d' := by
  simp [Array.getD_eq_getD_getElem?, hi]
theorem getD_set_self {listed : Array Bool} {i : Nat} (hi : i < listed.size) (d : Bool) : (listed.setIfInBounds i true).getD i d = true := by
  simp [Array.getD_eq_getD_getElem?, hi]

theorem mem_aims {e : Edge} (he : e ∈ o.after) (hb : Region.binds md e = true) : e.on ∈ aims md o :=
  List.mem_map.2 ⟨e, List.mem_filter.2 ⟨by simpa using he, hb⟩, rfl⟩
theorem aims_mem {k : Nat} (h : k ∈ aims md o) : ∃ e ∈ o.after, Region.binds md e = true ∧ e.on = k := by
  obtain ⟨e, he, rfl⟩ := List.mem_map.1 h
  obtain ⟨h1, h2⟩ := List.mem_filter.1 he
  exact ⟨e, by simpa using h1, h2, rfl⟩

theorem cover_all {listed : Array Bool} (hsh : Shut md ops listed) : ∀ (j : Nat) (m : List Nat), coverB md ops j m = true → (∀ k ∈ m, listed.getD k false = true) → j ≤ ops.size → ∀ k, k < j → listed.getD k false = true
  | 0, _, _, _, _, k, hk => absurd hk (by omega)
  | j + 1, m, hc, hm, hj, k, hk => by
    simp only [coverB, Bool.and_eq_true] at hc
    have hjl : listed.getD j false = true := hm j (by simpa using hc.1)
    by_cases e : k = j
    · subst e; exact hjl
    · have hoj : ops[j]? = some ops[j] := Array.getElem?_eq_getElem (by omega)
      have h2 := hc.2
      rw [hoj] at h2
      refine cover_all hsh j _ h2 (fun i hi => ?_) (by omega) k (by omega)
      rcases List.mem_append.1 hi with hi | hi
      · obtain ⟨e, he, hb, rfl⟩ := aims_mem hi
        exact hsh j _ hoj hjl e he hb
      · exact hm i hi

theorem shut_none (ops : Array Oper) : Shut md ops (Array.replicate ops.size false) := by
  intro i oi hi hl
  have : i < ops.size := (Array.getElem?_eq_some_iff.1 hi).1
  simp [Array.getD_eq_getD_getElem?, this] at hl
theorem shut_set {listed : Array Bool} (hsh : Shut md ops listed) {i : Nat} (hi : i ∈ Region.ready md ops listed) : Shut md ops (listed.setIfInBounds i true) := by
  intro j oj hj hl e he hb
  have keep : ∀ k, listed.getD k false = true → (listed.setIfInBounds i true).getD k false = true := by
    intro k hk
    by_cases e : i = k
    · subst e
      have : i < listed.size := by
        rcases Nat.lt_or_ge i listed.size with h | h
        · exact h
        · simp [Array.getD_eq_getD_getElem?, h] at hk
      exact getD_set_self this _
    · rw [getD_set_ne false e]; exact hk
  obtain ⟨h1, oi, h2, h3⟩ := mem_ready.1 hi
  by_cases e' : i = j
  · subst e'
    rw [h2] at hj
    injection hj with hj
    subst hj
    exact keep _ (h3 e he hb)
  · rw [getD_set_ne false e'] at hl
    exact keep _ (hsh j oj hj hl e he hb)

/-- Where nothing may come up, all have. -/
theorem all_come (hb : backOk ops = true) {listed : Array Bool} (hs : listed.size = ops.size) (hr : Region.ready md ops listed = []) : ∀ i, i < ops.size → listed.getD i false = true := by
  intro i
  induction i using Nat.strongRecOn with
  | _ i ih =>
    intro hi
    have hoi : ops[i]? = some ops[i] := Array.getElem?_eq_getElem hi
    have hnot : i ∉ Region.ready md ops listed := by rw [hr]; simp
    cases hl : listed.getD i false with
    | true => rfl
    | false =>
      refine absurd (mem_ready.2 ⟨?_, ops[i], hoi, fun e he _ => ?_⟩) hnot
      · rw [getD_any (by omega) true false]; exact hl
      · have := (back_at hb hoi).2 e he
        exact ih _ this (by omega)

theorem back_pop (h : backOk (ops.push o) = true) : backOk ops = true := by
  refine List.all_eq_true.2 fun j hj => ?_
  have hj' := List.mem_range.1 hj
  have := List.all_eq_true.1 h j (List.mem_range.2 (by simp; omega))
  rwa [at_push hj'] at this

theorem ready_of_push (h : behindB md ops o = true) {listed : Array Bool} (hs : listed.size = ops.size) (hsh : Shut md ops listed) {i : Nat} (hi : i ∈ Region.ready md (ops.push o) (listed.push false)) :
    (i < ops.size ∧ i ∈ Region.ready md ops listed) ∨ (i = ops.size ∧ ∀ k, k < ops.size → listed.getD k false = true) := by
  simp only [behindB, Bool.and_eq_true] at h
  obtain ⟨h1, oi, h2, h3⟩ := mem_ready.1 hi
  have hlt : i < (ops.push o).size := (Array.getElem?_eq_some_iff.1 h2).1
  have hback := (back_at h.1 h2).2
  simp at hlt
  by_cases he : i = ops.size
  · subst he
    right
    refine ⟨rfl, cover_all hsh _ _ h.2 (fun k hk => ?_) (Nat.le_refl _)⟩
    rw [at_pushEnd] at h2
    injection h2 with h2
    subst h2
    obtain ⟨e, he, hb, rfl⟩ := aims_mem hk
    have h4 := h3 e he hb
    have h5 := hback e he
    rwa [getD_at_push _ (by omega)] at h4
  · left
    have hi' : i < ops.size := by omega
    rw [at_push hi'] at h2
    refine ⟨hi', mem_ready.2 ⟨?_, oi, h2, fun e he hb => ?_⟩⟩
    · rwa [getD_at_push _ (by omega)] at h1
    · have h4 := h3 e he hb
      have h5 := hback e he
      rwa [getD_at_push _ (by omega)] at h4
theorem ready_to_push (h : behindB md ops o = true) {listed : Array Bool} (hs : listed.size = ops.size) {i : Nat} (hi : i ∈ Region.ready md ops listed) : i ∈ Region.ready md (ops.push o) (listed.push false) := by
  simp only [behindB, Bool.and_eq_true] at h
  obtain ⟨h1, oi, h2, h3⟩ := mem_ready.1 hi
  have hlt : i < ops.size := (Array.getElem?_eq_some_iff.1 h2).1
  have h2' : (ops.push o)[i]? = some oi := by rw [at_push hlt]; exact h2
  refine mem_ready.2 ⟨?_, oi, h2', fun e he hb => ?_⟩
  · rw [getD_at_push _ (by omega)]; exact h1
  · have h5 := (back_at h.1 h2').2 e he
    rw [getD_at_push _ (by omega)]
    exact h3 e he hb
theorem ready_last (h : behindB md ops o = true) {listed : Array Bool} (hs : listed.size = ops.size) (hall : ∀ k, k < ops.size → listed.getD k false = true) : ops.size ∈ Region.ready md (ops.push o) (listed.push false) := by
  simp only [behindB, Bool.and_eq_true] at h
  refine mem_ready.2 ⟨?_, o, at_pushEnd, fun e he _ => ?_⟩
  · rw [← hs]; exact getD_at_end _
  · have h1 := (back_at h.1 at_pushEnd).2 e he
    rw [getD_at_push _ (by omega)]
    exact hall _ h1

theorem uponIn_more {K K' : Act → World → Prop} {Q' : Exit → Act → World → Prop} (hK : ∀ a w, K a w → K' a w) (hQ : ∀ e, e ≠ .normal → Q e = Q' e) {a : Act} {r : Result Next} (h : o.uponIn F n P a K Q r) : o.uponIn F n P a K' Q' r := by
  have hout : LetsOut Q → LetsOut Q' := by unfold LetsOut; intro h; simpa [hQ] using h
  cases r with
  | ok x w' =>
    cases x <;> simp only [Oper.uponIn] at h ⊢ <;>
      first
        | exact hK _ _ h
        | exact ⟨h.1, CallsIn.mono h.2 (fun e w'' he => by
            cases e with
            | returned v => exact hK _ _ he
            | panicked c =>
              have he' : Q (.panic c) a w'' := he
              rw [hQ _ (by simp)] at he'
              exact he'
            | outgrown => exact hout he)⟩
        | exact ⟨h.1, RowsIn.mono h.2 (fun _ _ he => hK _ _ he)⟩
        | exact ⟨h.1, RoundIn.mono h.2 (fun e w'' he => by
            cases e with
            | returned v => exact hK _ _ he
            | panicked c =>
              have he' : Q (.panic c) a w'' := he
              rw [hQ _ (by simp)] at he'
              exact he'
            | outgrown => exact hout he)⟩
  | halt x w' =>
    cases x <;> simp only [Oper.uponIn] at h ⊢ <;> first | (rw [← hQ _ (by simp)]; exact h) | exact h

/-- One step of a statement, whichever list it stands in. -/
def stepIn (F : Fence) (n : Nat) (P : Program) (ops : Array Oper) (Q : Exit → Act → World → Prop) (o : Oper) (K : Act → World → Prop) (a : Act) (w : World) : Prop :=
  if Region.wanted o (yielded ops a.tmps) then o.wpIn F n P a w K Q else (∀ f, o.about P w a.eval = some f → F.fn f) ∧ K (a.put o.dst undef) w

theorem stepIn_more {ops' : Array Oper} {Q' : Exit → Act → World → Prop} {K K' : Act → World → Prop} {a : Act} {w : World} (hw : Region.wanted o (yielded ops' a.tmps) = Region.wanted o (yielded ops a.tmps))
    (hK : ∀ a w, K a w → K' a w) (hQ : ∀ e, e ≠ .normal → Q e = Q' e) (h : stepIn F n P ops Q o K a w) : stepIn F n P ops' Q' o K' a w := by
  unfold stepIn at h ⊢
  rw [hw]
  split
  · rename_i hw'
    rw [if_pos hw'] at h
    exact ⟨h.1, uponIn_more hK hQ h.2⟩
  · rename_i hw'
    rw [if_neg hw'] at h
    exact ⟨h.1, hK _ _ h.2⟩
theorem then_other (K : Act → World → Prop) (Q : Exit → Act → World → Prop) : ∀ e, e ≠ .normal → Exit.then K Q e = Q e := by
  intro e he
  cases e <;> first | rfl | exact absurd rfl he
theorem wpOpIn_is {i : Nat} {oi : Oper} {K : Act → World → Prop} {a : Act} {w : World} (hi : ops[i]? = some oi) : wpOpIn F n P ops Q i K a w = stepIn F n P ops Q oi K a w := by
  unfold wpOpIn stepIn
  simp only [hi]

theorem wpAnyIn_push (hl : behindB md ops o = true) : ∀ (fuel : Nat) (listed : Array Bool) (a : Act) (w : World), listed.size = ops.size → Shut md ops listed →
    wpAnyIn F n P md ops (Exit.then (fun a w => stepIn F n P (ops.push o) Q o (Q .normal) a w) Q) fuel listed a w → wpAnyIn F n P md (ops.push o) Q (fuel + 1) (listed.push false) a w := by
  have hback : backOk (ops.push o) = true := by simp only [behindB, Bool.and_eq_true] at hl; exact hl.1
  have fin : ∀ (fuel : Nat) (listed : Array Bool) (a : Act) (w : World), listed.size = ops.size → Shut md ops listed → (∀ k, k < ops.size → listed.getD k false = true) → stepIn F n P (ops.push o) Q o (Q .normal) a w →
      wpAnyIn F n P md (ops.push o) Q (fuel + 1) (listed.push false) a w := by
    intro fuel listed a w hs hsh hall hw
    refine ⟨fun h0 => absurd (ready_last hl hs hall) (by rw [h0]; simp), fun i hi => ?_⟩
    rcases ready_of_push hl hs hsh hi with ⟨hlt, hir⟩ | ⟨rfl, _⟩
    · have h1 := (mem_ready.1 hir).1
      have h2 := hall i hlt
      rw [getD_any (by omega) true false, h2] at h1
      cases h1
    · rw [wpOpIn_is at_pushEnd]
      refine stepIn_more rfl (fun a' w' hk => wpAnyIn_done ?_ hk _) (fun _ _ => rfl) hw
      rw [← hs]
      cases hr : Region.ready md (ops.push o) ((listed.push false).setIfInBounds listed.size true) with
      | nil => rfl
      | cons j rs =>
        have hj : j ∈ Region.ready md (ops.push o) ((listed.push false).setIfInBounds listed.size true) := by rw [hr]; simp
        obtain ⟨h1, oj, h2, _⟩ := mem_ready.1 hj
        have hjl : j < (ops.push o).size := (Array.getElem?_eq_some_iff.1 h2).1
        simp at hjl
        by_cases e : j = listed.size
        · subst e
          rw [getD_set_self (by simp)] at h1
          cases h1
        · rw [getD_set_ne true (fun e' => e e'.symm), getD_at_push _ (by omega), getD_any (by omega) true false, hall j (by omega)] at h1
          cases h1
  intro fuel
  induction fuel with
  | zero =>
    intro listed a w hs hsh h
    exact fin 0 listed a w hs hsh (all_come (back_pop hback) hs h.1) h.2
  | succ fuel ih =>
    intro listed a w hs hsh h
    cases hr : Region.ready md ops listed with
    | nil => exact fin _ listed a w hs hsh (all_come (back_pop hback) hs hr) (h.1 hr)
    | cons j rs =>
      have hj : j ∈ Region.ready md ops listed := by rw [hr]; simp
      refine ⟨fun h0 => absurd (ready_to_push hl hs hj) (by rw [h0]; simp), fun i hi => ?_⟩
      rcases ready_of_push hl hs hsh hi with ⟨hlt, hir⟩ | ⟨rfl, hall⟩
      · have h1 := h.2 i hir
        have hoi : ops[i]? = some ops[i] := Array.getElem?_eq_getElem hlt
        have hoi' : (ops.push o)[i]? = some ops[i] := by rw [at_push hlt]; exact hoi
        rw [wpOpIn_is hoi] at h1
        rw [wpOpIn_is hoi']
        refine stepIn_more (wanted_push fun g hg => by have := (back_at hback hoi').1 g hg; omega) (fun a' w' hh => ?_) (then_other _ _) h1
        have := ih (listed.setIfInBounds i true) a' w' (by simpa using hs) (shut_set hsh hir) hh
        rwa [show (listed.push false).setIfInBounds i true = (listed.setIfInBounds i true).push false from by
          apply Array.ext'
          simp only [Array.toList_setIfInBounds, Array.toList_push]
          rw [List.set_append_left _ _ (by simpa using by omega)]]
      · have hjlt := (Array.getElem?_eq_some_iff.1 (mem_ready.1 hj).2.choose_spec.1).1
        have h1 := hall j hjlt
        have h2 := (mem_ready.1 hj).1
        rw [getD_any (by omega) true false, h1] at h2
        cases h2

theorem wpAnyIn_less {Q' : Exit → Act → World → Prop} (hn : ∀ a w, Q .normal a w → Q' .normal a w) (hQ : ∀ e, e ≠ .normal → Q e = Q' e) : ∀ (fuel : Nat) (listed : Array Bool) (a : Act) (w : World), wpAnyIn F n P md ops Q fuel listed a w → wpAnyIn F n P md ops Q' fuel listed a w
  | 0, _, _, _, h => ⟨h.1, hn _ _ h.2⟩
  | fuel + 1, _, _, _, h => ⟨fun h0 => hn _ _ (h.1 h0), fun i hi => by
      have h1 := h.2 i hi
      cases hoi : ops[i]? with
      | none =>
        unfold wpOpIn at h1 ⊢
        simp only [hoi] at h1 ⊢
        exact wpAnyIn_less hn hQ fuel _ _ _ h1
      | some oi =>
        rw [wpOpIn_is hoi] at h1 ⊢
        exact stepIn_more rfl (fun a' w' => wpAnyIn_less hn hQ fuel _ a' w') hQ h1⟩

theorem yielded_app {t : Array Value} {i : Nat} (r : List Oper) (hi : i < ops.size) : yielded (ops ++ r.toArray) t i = yielded ops t i := by
  unfold yielded
  rw [Array.getElem?_append_left hi]
theorem wanted_app {t : Array Value} {oi : Oper} (r : List Oper) (hg : ∀ g, oi.guard = some g → g.1 < ops.size) : Region.wanted oi (yielded (ops ++ r.toArray) t) = Region.wanted oi (yielded ops t) := by
  unfold Region.wanted
  cases h : oi.guard with
  | none => rfl
  | some g => simp only [yielded_app r (hg g h)]

theorem wpAnyIn_tail : ∀ (suf : List Oper) (pre : Array Oper) (fuel : Nat) (listed : Array Bool) (a : Act) (w : World), tailB md pre suf = true → listed.size = pre.size → Shut md pre listed →
    wpAnyIn F n P md pre (Exit.then (wpListIn F n P (pre ++ suf.toArray) Q suf) Q) fuel listed a w →
    wpAnyIn F n P md (pre ++ suf.toArray) Q (fuel + suf.length) (listed ++ Array.replicate suf.length false) a w
  | [], pre, fuel, listed, a, w, _, _, _, h => by
    have h' := wpAnyIn_less (Q := Exit.then (wpListIn F n P (pre ++ [].toArray) Q []) Q) (Q' := Q) (fun _ _ h => h) (then_other _ _) _ _ _ _ h
    simpa using h'
  | o :: r, pre, fuel, listed, a, w, ht, hs, hsh, h => by
    simp only [tailB, Bool.and_eq_true] at ht
    have hback : backOk (pre.push o) = true := by have := ht.1; simp only [behindB, Bool.and_eq_true] at this; exact this.1
    have e : pre ++ (o :: r).toArray = pre.push o ++ r.toArray := by apply Array.ext'; simp
    have hsh' : Shut md (pre.push o) (listed.push false) := by
      intro i oi hi hl e he hb
      have hlt := (Array.getElem?_eq_some_iff.1 hi).1
      simp at hlt
      by_cases e' : i = pre.size
      · subst e'
        rw [← hs, getD_at_end] at hl
        cases hl
      · have h5 := (back_at hback hi).2 e he
        rw [at_push (by omega)] at hi
        rw [getD_at_push _ (by omega)] at hl ⊢
        exact hsh i oi hi hl e he hb
    have h1 : wpAnyIn F n P md (pre.push o) (Exit.then (wpListIn F n P (pre.push o ++ r.toArray) Q r) Q) (fuel + 1) (listed.push false) a w := by
      refine wpAnyIn_push ht.1 fuel listed a w hs hsh ?_
      refine wpAnyIn_less (fun a' w' h' => ?_) (fun e he => by rw [then_other _ _ e he, then_other _ _ e he, then_other _ _ e he]) _ _ _ _ h
      have h'' : stepIn F n P (pre ++ (o :: r).toArray) Q o (wpListIn F n P (pre ++ (o :: r).toArray) Q r) a' w' := h'
      rw [e] at h''
      refine stepIn_more ?_ (fun _ _ hk => hk) (fun e he => (then_other _ _ e he).symm) h''
      exact (wanted_app r fun g hg => by have := (back_at hback at_pushEnd).1 g hg; simp; omega).symm
    have h2 := wpAnyIn_tail r (pre.push o) (fuel + 1) (listed.push false) a w ht.2 (by simp [hs]) hsh' h1
    rw [e]
    rw [show fuel + (o :: r).length = fuel + 1 + r.length by simp; omega, show listed ++ Array.replicate (o :: r).length false = listed.push false ++ Array.replicate r.length false from by
      apply Array.ext'; simp [List.replicate_succ]]
    exact h2

def plainB (l : List Oper) : Bool := l.all fun o => match o.op with
  | .defer _ => false
  | _ => true
theorem plain_at {l : List Oper} (h : plainB l = true) {i : Nat} {oi : Oper} (hi : l.toArray[i]? = some oi) : ∀ c, oi.op ≠ .defer c := by
  intro c hc
  have := List.all_eq_true.1 h oi (List.mem_of_getElem? (by simpa using hi))
  rw [hc] at this
  cases this
theorem semAt_plain (r : Option Nat) (ρ : Operand → Value) {o : Oper} (h : ∀ c, o.op ≠ .defer c) : Oper.semAt r ρ o = execOp ρ o := by
  cases r with
  | none => exact Oper.semAt_none ρ o
  | some l => exact Oper.semAt_some l ρ o h

variable {C : World → Prop}
/-- A quiet step, in a round of a loop too. -/
theorem step_of_quiet {a : Act} {K : Act → Prop} {K' : Act → World → Prop} {w : World} (hd : ∀ c, o.op ≠ .defer c) (hw : C w) (h : ∀ a w', C w' → K a → K' a w')
    (ha : o.askedIn F P a C) (hh : o.quietIn F n P a C K) : o.wpIn F n P a w K' Q := by
  obtain ⟨v, h1, h2⟩ := hh
  have h3 := h1 w hw
  unfold Oper.quietAtIn at h3
  refine ⟨ha w hw, ?_⟩
  rw [semAt_plain _ _ hd]
  generalize (execOp a.eval o).run P w = r at *
  cases r with
  | halt x w' => simp only [Oper.quietUponIn] at h3
  | ok x w' =>
    cases x <;> simp only [Oper.quietUponIn] at h3 <;> simp only [Oper.uponIn]
    case value u =>
      obtain ⟨e1, e2⟩ := h3
      subst e1; subst e2
      exact h _ _ hw h2
    case skip =>
      obtain ⟨e1, e2⟩ := h3
      subst e1; subst e2
      exact h _ _ hw h2
    case enter f args =>
      obtain ⟨e1, hdep, hc⟩ := h3
      subst e1
      refine ⟨hdep, hc.mono fun e w'' he => ?_⟩
      obtain ⟨rfl, hw''⟩ := he
      exact h _ _ hw'' h2
theorem any_of_quiet {Kq : Act → Prop} (hd : ∀ (i : Nat) (oi : Oper), ops[i]? = some oi → ∀ c, oi.op ≠ .defer c) (hQ : ∀ a w, C w → Kq a → Q .normal a w) : ∀ (fuel : Nat) (listed : Array Bool) (a : Act) (w : World), C w →
    wpAnyQIn F n P md ops C Kq fuel listed a → wpAnyIn F n P md ops Q fuel listed a w
  | 0, _, _, _, hw, h => ⟨h.1, hQ _ _ hw h.2⟩
  | fuel + 1, listed, a, w, hw, h => by
    refine ⟨fun h0 => hQ _ _ hw (h.1 h0), fun i hi => ?_⟩
    have h1 := h.2 i hi
    cases hoi : ops[i]? with
    | none =>
      unfold qOpIn at h1
      unfold wpOpIn
      simp only [hoi] at h1 ⊢
      exact any_of_quiet hd hQ fuel _ _ _ hw h1
    | some oi =>
      rw [wpOpIn_is hoi]
      unfold qOpIn at h1
      simp only [hoi] at h1
      unfold stepIn
      split
      · rename_i hwt
        rw [if_pos hwt] at h1
        exact step_of_quiet (hd i oi hoi) hw (fun a' w' hw' hk => any_of_quiet hd hQ fuel _ a' w' hw' hk) h1.1 h1.2
      · rename_i hwt
        rw [if_neg hwt] at h1
        exact ⟨h1.1 w hw, any_of_quiet hd hQ fuel _ _ _ hw h1.2⟩

/-- A statement that draws its order: the first k steps in the order of the text, in whatever world that has drawn alone; then the others. -/
theorem wpIn_region_split {id : Nat} {a : Act} {w : World} {l pre suf : List Oper} (k : Nat) (hpre : pre = l.take k) (hsuf : suf = l.drop k) (hm : P.follows .mixedOrders = true)
    (hB : (plainB (l.take k) && Region.lexB .any (l.take k).toArray) = true) (ht : tailB .any (l.take k).toArray (l.drop k) = true)
    (h : wpQuietIn F n P pre.toArray (fun w' => ∃ m, w' = w.drewN m) (fun a' => ∀ w', (∃ m, w' = w.drewN m) → wpListIn F n P l.toArray Q suf a' w') pre a) : (Code.region id l.toArray true).wpIn F n P Q a w := by
  subst hpre; subst hsuf
  simp only [Region.lexB, Bool.and_eq_true] at hB
  obtain ⟨hP, hB⟩ := hB
  have e : (l.take k).toArray ++ (l.drop k).toArray = l.toArray := by apply Array.ext'; simp
  refine wpIn_region_any hm ?_
  have h1 := wpAnyQIn_lex (F := F) (n := n) (C := fun w' => ∃ m, w' = w.drewN m) (md := .any) hB.1 (l.take k) 0 (Array.replicate (l.take k).toArray.size false) a (by simp) (by simpa using hB.2) h
  have h2 := any_of_quiet (Q := Exit.then (wpListIn F n P l.toArray Q (l.drop k)) Q) (fun i oi hi => plain_at hP hi) (fun a' w' hw' h' => h' w' hw') _ _ _ w.drew ⟨1, rfl⟩ h1
  rw [← e] at h2
  have h3 := wpAnyIn_tail (md := .any) (l.drop k) (l.take k).toArray _ _ a w.drew ht (by simp) (shut_none _) h2
  rw [e] at h3
  have hsz : (l.take k).length + (l.drop k).length = l.toArray.size := by rw [← List.length_append, List.take_append_drop]; simp
  have hrep : Array.replicate (l.take k).toArray.size false ++ Array.replicate (l.drop k).length false = Array.replicate l.toArray.size false := by
    rw [Array.replicate_append_replicate]
    congr 1
  rw [hsz, hrep] at h3
  exact h3
end

end Go.Proofs.Ytpmhajpjjihndaa

/-! Lists compared: plain facts. -/
namespace Go.Proofs.Ytpmhajpjjihndaa
open Go.RowKit

theorem eq_take_snoc {α : Type} {l m : List α} {k : Nat} {a : α} (h1 : l[k]? = some a) (h2 : m[k]? = some a) (h : l.take k = m.take k) : l.take (k + 1) = m.take (k + 1) := by
  rw [take_at h1, take_at h2, h]
theorem eq_take_end {α : Type} {l m : List α} {k n : Nat} (h1 : l.length = n) (h2 : m.length = n) (hk : ¬ k < n) (h : l.take k = m.take k) : l = m := by
  rwa [List.take_of_length_le (by omega), List.take_of_length_le (by omega)] at h
theorem ne_at {α : Type} {l m : List α} {k : Nat} {a b : α} (h1 : l[k]? = some a) (h2 : m[k]? = some b) (h : a ≠ b) : l ≠ m := by
  rintro rfl
  rw [h1] at h2
  injection h2 with h2
  exact h h2
theorem ne_len {α : Type} {l m : List α} {n k : Nat} (h1 : l.length = n) (h2 : m.length = k) (h : n ≠ k) : l ≠ m := by
  rintro rfl
  exact h (h1.symm.trans h2)

end Go.Proofs.Ytpmhajpjjihndaa

/-! Grow -/
namespace Go.Proofs.Ytpmhajpjjihndaa
open Go.RowKit

theorem grown_drewN (W : World) (k : Nat) : W.grownBy (W.drewN k) none := ⟨rfl, rfl, rfl, Nat.le_refl _, fun _ _ _ => rfl⟩
theorem blk_own {β : Type} {g : Nat} {t : TypeId} (f : β → Array Value) : Own (fun s W => Blk W g t (f s)) := fun s X Y row hs hg hrow =>
  (hg.block g (Blk.lt hs) (fun e => by
    obtain ⟨o, ho, hc⟩ := hrow g e.symm
    unfold Blk at hs
    rw [hs] at ho
    injection ho with ho
    subst ho
    cases hc)).trans hs

end Go.Proofs.Ytpmhajpjjihndaa

/-! Blocks of numbers, and of booleans, known whole. -/
namespace Go.Proofs.Ytpmhajpjjihndaa
open Go.RowKit

def ivs (L : List Int) : Array Value := (L.map (Value.int .i64)).toArray
def bvs (L : List Bool) : Array Value := (L.map Value.bool).toArray
theorem ivs_made (n : Nat) : madeCells (Value.int .i64 0).cells (n * 1) = ivs (List.replicate n 0) := by
  apply Array.ext'
  have : (Value.int .i64 0).cells = #[.int .i64 0] := rfl
  rw [this, toList_madeCells_one]
  simp [ivs]
theorem bvs_made (n : Nat) : madeCells (Value.bool false).cells (n * 1) = bvs (List.replicate n false) := by
  apply Array.ext'
  have : (Value.bool false).cells = #[.bool false] := rfl
  rw [this, toList_madeCells_one]
  simp [bvs]

section
variable {w : World} {g i : Nat} {t : TypeId} {L : List Int} {K : List Bool} {x : Int} {b : Bool}
theorem ivs_at (h : L[i]? = some x) : (ivs L)[i]? = some (.int .i64 x) := by simp [ivs, h]
theorem bvs_at (h : K[i]? = some b) : (bvs K)[i]? = some (.bool b) := by simp [bvs, h]
theorem ivs_set (L : List Int) (i : Nat) (x : Int) : (ivs L).setIfInBounds i (.int .i64 x) = ivs (L.set i x) := by
  apply Array.ext'
  simp [ivs]
theorem bvs_set (K : List Bool) (i : Nat) (b : Bool) : (bvs K).setIfInBounds i (.bool b) = bvs (K.set i b) := by
  apply Array.ext'
  simp [bvs]
theorem Blk.iat (h : Blk w g t (ivs L)) (hx : L[i]? = some x) : w.cell? ⟨g, i, none⟩ = some (.int .i64 x) := (h.cell i).trans (ivs_at hx)
theorem Blk.bat (h : Blk w g t (bvs K)) (hx : K[i]? = some b) : w.cell? ⟨g, i, none⟩ = some (.bool b) := (h.cell i).trans (bvs_at hx)
theorem Blk.iset (h : Blk w g t (ivs L)) (i : Nat) (x : Int) : Blk (w.setCell ⟨g, i, none⟩ (.int .i64 x)) g t (ivs (L.set i x)) := by
  rw [← ivs_set]; exact h.set i _
theorem Blk.bset (h : Blk w g t (bvs K)) (i : Nat) (b : Bool) : Blk (w.setCell ⟨g, i, none⟩ (.bool b)) g t (bvs (K.set i b)) := by
  rw [← bvs_set]; exact h.set i _
theorem ivs_flat : ∀ (L : List Int), L.map (Value.int .i64) = L.flatMap intCells
  | [] => rfl
  | x :: r => by simp [intCells, ivs_flat r]
theorem Blk.ints {n : Nat} (h : Blk w g t (ivs L)) (hl : L.length = n) : Ints w w.heap.size (some ⟨g, 0, none⟩) n L := by
  refine ⟨hl, fun _ => ⟨g, 0, rfl, h.lt, fun k a ha j u hu => ?_⟩⟩
  cases j with
  | zero =>
    simp only [intCells, List.getElem?_cons_zero, Option.some.injEq] at hu
    subst hu
    have := h.iat ha
    simpa using this
  | succ j => simp [intCells] at hu
theorem Blk.at9 {v0 v1 v2 v3 v4 v5 v6 v7 v8 : Value} (h : Blk w g t #[v0, v1, v2, v3, v4, v5, v6, v7, v8]) :
    w.cell? ⟨g, 0, none⟩ = some v0 ∧ w.cell? ⟨g, 1, none⟩ = some v1 ∧ w.cell? ⟨g, 2, none⟩ = some v2 ∧ w.cell? ⟨g, 3, none⟩ = some v3 ∧ w.cell? ⟨g, 4, none⟩ = some v4 ∧
      w.cell? ⟨g, 5, none⟩ = some v5 ∧ w.cell? ⟨g, 6, none⟩ = some v6 ∧ w.cell? ⟨g, 7, none⟩ = some v7 ∧ w.cell? ⟨g, 8, none⟩ = some v8 :=
  ⟨h.cell 0, h.cell 1, h.cell 2, h.cell 3, h.cell 4, h.cell 5, h.cell 6, h.cell 7, h.cell 8⟩
theorem Blk.free9 {cs : Array Value} (h : Blk w g t cs) :
    w.frozen? ⟨g, 0, none⟩ = false ∧ w.frozen? ⟨g, 1, none⟩ = false ∧ w.frozen? ⟨g, 2, none⟩ = false ∧ w.frozen? ⟨g, 3, none⟩ = false ∧ w.frozen? ⟨g, 4, none⟩ = false ∧
      w.frozen? ⟨g, 5, none⟩ = false ∧ w.frozen? ⟨g, 6, none⟩ = false ∧ w.frozen? ⟨g, 7, none⟩ = false ∧ w.frozen? ⟨g, 8, none⟩ = false :=
  ⟨h.frozen 0, h.frozen 1, h.frozen 2, h.frozen 3, h.frozen 4, h.frozen 5, h.frozen 6, h.frozen 7, h.frozen 8⟩
theorem Blk.set9 {u0 u1 u2 u3 u4 u5 u6 u7 u8 : Value} (h : Blk w g t #[u0, u1, u2, u3, u4, u5, u6, u7, u8]) (v0 v1 v2 v3 v4 v5 v6 v7 v8 : Value) :
    Blk (((((((((w.setCell ⟨g, 0, none⟩ v0).setCell ⟨g, 1, none⟩ v1).setCell ⟨g, 2, none⟩ v2).setCell ⟨g, 3, none⟩ v3).setCell ⟨g, 4, none⟩ v4).setCell ⟨g, 5, none⟩ v5).setCell ⟨g, 6, none⟩ v6).setCell ⟨g, 7, none⟩ v7).setCell ⟨g, 8, none⟩ v8) g t #[v0, v1, v2, v3, v4, v5, v6, v7, v8] := by
  have := ((((((((h.set 0 v0).set 1 v1).set 2 v2).set 3 v3).set 4 v4).set 5 v5).set 6 v6).set 7 v7).set 8 v8
  simpa using this
/-- Two blocks of different types are not the same. -/
theorem Blk.ne {g' : Nat} {t' : TypeId} {cs cs' : Array Value} (h : Blk w g t cs) (h' : Blk w g' t' cs') (hne : t ≠ t') : g ≠ g' := by
  rintro rfl
  unfold Blk at h h'
  rw [h] at h'
  injection h' with h'
  injection h' with _ ht
  exact hne ht
end

end Go.Proofs.Ytpmhajpjjihndaa
