/- Blocks of numbers, and of booleans, known whole. -/
import Derived.Test.YtanifbofjecpmaaChecks
import Derived.Test.YtanifbofjecpmaaFacts
namespace Go.Proofs.Ytanifbofjecpmaa
open Go.RowKit

def ivs (L : List Int) : Array Value := (L.map (Value.int .i64)).toArray
def bvs (L : List Bool) : Array Value := (L.map Value.bool).toArray
theorem ivs_made (n : Nat) : madeCells (Value.int .i64 0).cells (n * 1) = ivs (List.replicate n 0) := by
  apply Array.ext'
  have : (Value.int .i64 0).cells = #[.int .i64 0] := rfl
  rw [this, toList_madeCells_one]
  simp [ivs]
theorem bvs_made (n : Nat) : madeCells (Value.bool false).cells (n * 1) = bvs (List.replicate n false) := by
  apply Array.ext'
  have : (Value.bool false).cells = #[.bool false] := rfl
  rw [this, toList_madeCells_one]
  simp [bvs]
theorem bool_info : (Try.prog.info? 4).map (fun i => (i.zero, i.size, i.bytes)) = some (some (.bool false), 1, 1) := by kernel_rfl
theorem long_info : (Try.prog.info? 2).map (fun i => (i.zero, i.size, i.bytes)) = some (some (.int .i64 0), 1, 8) := by kernel_rfl

section
variable {w : World} {g i : Nat} {t : TypeId} {L : List Int} {K : List Bool} {x : Int} {b : Bool}
theorem ivs_at (h : L[i]? = some x) : (ivs L)[i]? = some (.int .i64 x) := by simp [ivs, h]
theorem bvs_at (h : K[i]? = some b) : (bvs K)[i]? = some (.bool b) := by simp [bvs, h]
theorem ivs_set (L : List Int) (i : Nat) (x : Int) : (ivs L).setIfInBounds i (.int .i64 x) = ivs (L.set i x) := by
  apply Array.ext'
  simp [ivs]
theorem bvs_set (K : List Bool) (i : Nat) (b : Bool) : (bvs K).setIfInBounds i (.bool b) = bvs (K.set i b) := by
  apply Array.ext'
  simp [bvs]
theorem Blk.iat (h : Blk w g t (ivs L)) (hx : L[i]? = some x) : w.cell? ⟨g, i, none⟩ = some (.int .i64 x) := (h.cell i).trans (ivs_at hx)
theorem Blk.bat (h : Blk w g t (bvs K)) (hx : K[i]? = some b) : w.cell? ⟨g, i, none⟩ = some (.bool b) := (h.cell i).trans (bvs_at hx)
theorem Blk.iset (h : Blk w g t (ivs L)) (i : Nat) (x : Int) : Blk (w.setCell ⟨g, i, none⟩ (.int .i64 x)) g t (ivs (L.set i x)) := by
  rw [← ivs_set]; exact h.set i _
theorem Blk.bset (h : Blk w g t (bvs K)) (i : Nat) (b : Bool) : Blk (w.setCell ⟨g, i, none⟩ (.bool b)) g t (bvs (K.set i b)) := by
  rw [← bvs_set]; exact h.set i _
theorem ivs_flat : ∀ (L : List Int), L.map (Value.int .i64) = L.flatMap intCells
  | [] => rfl
  | x :: r => by simp [intCells, ivs_flat r]
theorem Blk.ints {n : Nat} (h : Blk w g t (ivs L)) (hl : L.length = n) : Ints w w.heap.size (some ⟨g, 0, none⟩) n L := by
  refine ⟨hl, fun _ => ⟨g, 0, rfl, h.lt, fun k a ha j u hu => ?_⟩⟩
  cases j with
  | zero =>
    simp only [intCells, List.getElem?_cons_zero, Option.some.injEq] at hu
    subst hu
    have := h.iat ha
    simpa using this
  | succ j => simp [intCells] at hu
theorem Blk.at9 {v0 v1 v2 v3 v4 v5 v6 v7 v8 : Value} (h : Blk w g t #[v0, v1, v2, v3, v4, v5, v6, v7, v8]) :
    w.cell? ⟨g, 0, none⟩ = some v0 ∧ w.cell? ⟨g, 1, none⟩ = some v1 ∧ w.cell? ⟨g, 2, none⟩ = some v2 ∧ w.cell? ⟨g, 3, none⟩ = some v3 ∧ w.cell? ⟨g, 4, none⟩ = some v4 ∧
      w.cell? ⟨g, 5, none⟩ = some v5 ∧ w.cell? ⟨g, 6, none⟩ = some v6 ∧ w.cell? ⟨g, 7, none⟩ = some v7 ∧ w.cell? ⟨g, 8, none⟩ = some v8 :=
  ⟨h.cell 0, h.cell 1, h.cell 2, h.cell 3, h.cell 4, h.cell 5, h.cell 6, h.cell 7, h.cell 8⟩
theorem Blk.free9 {cs : Array Value} (h : Blk w g t cs) :
    w.frozen? ⟨g, 0, none⟩ = false ∧ w.frozen? ⟨g, 1, none⟩ = false ∧ w.frozen? ⟨g, 2, none⟩ = false ∧ w.frozen? ⟨g, 3, none⟩ = false ∧ w.frozen? ⟨g, 4, none⟩ = false ∧
      w.frozen? ⟨g, 5, none⟩ = false ∧ w.frozen? ⟨g, 6, none⟩ = false ∧ w.frozen? ⟨g, 7, none⟩ = false ∧ w.frozen? ⟨g, 8, none⟩ = false :=
  ⟨h.frozen 0, h.frozen 1, h.frozen 2, h.frozen 3, h.frozen 4, h.frozen 5, h.frozen 6, h.frozen 7, h.frozen 8⟩
theorem Blk.set9 {u0 u1 u2 u3 u4 u5 u6 u7 u8 : Value} (h : Blk w g t #[u0, u1, u2, u3, u4, u5, u6, u7, u8]) (v0 v1 v2 v3 v4 v5 v6 v7 v8 : Value) :
    Blk (((((((((w.setCell ⟨g, 0, none⟩ v0).setCell ⟨g, 1, none⟩ v1).setCell ⟨g, 2, none⟩ v2).setCell ⟨g, 3, none⟩ v3).setCell ⟨g, 4, none⟩ v4).setCell ⟨g, 5, none⟩ v5).setCell ⟨g, 6, none⟩ v6).setCell ⟨g, 7, none⟩ v7).setCell ⟨g, 8, none⟩ v8) g t #[v0, v1, v2, v3, v4, v5, v6, v7, v8] := by
  have := ((((((((h.set 0 v0).set 1 v1).set 2 v2).set 3 v3).set 4 v4).set 5 v5).set 6 v6).set 7 v7).set 8 v8
  simpa using this
/-- Two blocks of different types are not the same. -/
theorem Blk.ne {g' : Nat} {t' : TypeId} {cs cs' : Array Value} (h : Blk w g t cs) (h' : Blk w g' t' cs') (hne : t ≠ t') : g ≠ g' := by
  rintro rfl
  unfold Blk at h h'
  rw [h] at h'
  injection h' with h'
  injection h' with _ ht
  exact hne ht
end

/- Lists of Booleans in memory. -/
def boolCells (x : Bool) : List Value := [.bool x]
abbrev Bools := RdBy boolCells 1
theorem bool_len (l : List Bool) : ∀ a ∈ l, (boolCells a).length = 1 := fun _ _ => rfl
theorem bool_one {l : List Bool} : ∀ v ∈ l.flatMap boolCells, v.oneCell' = true := by
  intro v hv
  obtain ⟨a, _, ha⟩ := List.mem_flatMap.1 hv
  simp only [boolCells, List.mem_cons, List.not_mem_nil, or_false] at ha
  subst ha; rfl
theorem bool_at {w : World} {B n : Nat} {A : Option Addr} {l : List Bool} (h : Bools w B A n l) {k : Nat} (hk : k < n) :
    ∃ (b off : Nat) (x : Bool), A = some ⟨b, off, none⟩ ∧ b < B ∧ l[k]? = some x ∧ w.cell? ⟨b, off + k, none⟩ = some (.bool x) := by
  obtain ⟨a, ha⟩ := h.get hk
  obtain ⟨b, off, e, hb, hc⟩ := h.2 (by omega)
  exact ⟨b, off, a, e, hb, ha, by simpa using hc k a ha 0 _ rfl⟩
/-- What stands at v: is it in the side? -/
theorem side_at {w : World} {B n : Nat} {A : Option Addr} {l : List Bool} (h : Bools w B A n l) {k : Nat} (hk : k < n) :
    ∃ (b off : Nat), A = some ⟨b, off, none⟩ ∧ b < B ∧ w.cell? ⟨b, off + k, none⟩ = some (.bool (inS l (k : Int))) := by
  obtain ⟨b, off, x, h1, h2, h3, h4⟩ := bool_at h hk
  refine ⟨b, off, h1, h2, ?_⟩
  rw [inS_at h3]
  exact h4
section
variable {w : World} {g i : Nat} {t : TypeId} {K : List Bool}
theorem Blk.bools {n : Nat} (h : Blk w g t (bvs K)) (hl : K.length = n) : Bools w w.heap.size (some ⟨g, 0, none⟩) n K := by
  refine ⟨hl, fun _ => ⟨g, 0, rfl, h.lt, fun k a ha j u hu => ?_⟩⟩
  cases j with
  | zero =>
    simp only [boolCells, List.getElem?_cons_zero, Option.some.injEq] at hu
    subst hu
    have := h.bat ha
    simpa using this
  | succ j => simp [boolCells] at hu
end

end Go.Proofs.Ytanifbofjecpmaa
