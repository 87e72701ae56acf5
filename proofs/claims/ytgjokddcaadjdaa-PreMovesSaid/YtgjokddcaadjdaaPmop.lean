/- PreMoves: plain facts: where May's arcs begin, and its vertices. -/
import Derived.Test.YtgjokddcaadjdaaMayo
namespace Go.Proofs.Ytgjokddcaadjdaa
open Go.RowKit

section
variable {N M : Nat} {fst hd rv : Nat → Nat} {X H : List Int} {p : Nat → Bool}
theorem downs_mem (hG : Grid N M fst hd rv) {u a : Nat} (hu : u < N) : a ∈ downs fst hd rv X H u ↔ a < M ∧ hd (rv a) = u ∧ admB hd rv X H a = true := by
  have hm := hG.mono u hu
  unfold downs
  rw [rls_mem (by omega)]
  constructor
  · rintro ⟨h1, h2, h3⟩
    have h4 := hG.monoN (i := u + 1) (j := N) (by omega) (Nat.le_refl _)
    rw [hG.fN] at h4
    exact ⟨by omega, hG.tail u a hu h1 (by omega), h3⟩
  · rintro ⟨h1, rfl, h3⟩
    obtain ⟨h4, h5, -⟩ := hG.row h1
    exact ⟨h4, by omega, h3⟩
theorem mayA_mem (hG : Grid N M fst hd rv) {a : Nat} : a ∈ mayA fst hd rv X H (selTo p N) ↔ a < M ∧ p (hd (rv a)) = true ∧ admB hd rv X H a = true := by
  rw [mayA_sel hG N (Nat.le_refl _), hG.fN, sel_mem, Bool.and_eq_true]
theorem mayV_mem {u : Nat} : u ∈ mayV fst hd rv X H (selTo p N) ↔ u < N ∧ p u = true ∧ downs fst hd rv X H u = [] := by
  simp only [mayV, List.mem_filter, sel_mem, List.isEmpty_iff, and_assoc]
/-- Begins one of these arcs at v? -/
def begB (hd rv : Nat → Nat) (A : List Nat) (v : Nat) : Bool := A.any fun a => decide (hd (rv a) = v)
/-- What stands at v behind these arcs and these vertices. -/
def mvAt (hd rv : Nat → Nat) (A V : List Nat) (v : Nat) : Nat := if begB hd rv A v then 1 else if v ∈ V then 2 else 0
theorem begB_iff {A : List Nat} {v : Nat} : begB hd rv A v = true ↔ ∃ a, a ∈ A ∧ hd (rv a) = v := by simp [begB]
theorem begB_snoc {A : List Nat} {a v : Nat} : begB hd rv (A ++ [a]) v = (begB hd rv A v || decide (hd (rv a) = v)) := by simp [begB]
theorem beg_may (hG : Grid N M fst hd rv) {v : Nat} (hv : v < N) : begB hd rv (mayA fst hd rv X H (selTo p N)) v = true ↔ p v = true ∧ downs fst hd rv X H v ≠ [] := by
  rw [begB_iff]
  constructor
  · rintro ⟨a, ha, rfl⟩
    obtain ⟨h1, h2, h3⟩ := (mayA_mem hG).1 ha
    exact ⟨h2, fun e => by have := (downs_mem hG hv).2 ⟨h1, rfl, h3⟩; rw [e] at this; cases this⟩
  · rintro ⟨h1, h2⟩
    obtain ⟨a, ha⟩ := List.exists_mem_of_ne_nil _ h2
    obtain ⟨h3, h4, h5⟩ := (downs_mem hG hv).1 ha
    exact ⟨a, (mayA_mem hG).2 ⟨h3, by rw [h4]; exact h1, h5⟩, h4⟩
theorem mv_yes (hG : Grid N M fst hd rv) {v : Nat} (hv : v < N) (hp : p v = true) : mvAt hd rv (mayA fst hd rv X H (selTo p N)) (mayV fst hd rv X H (selTo p N)) v = 1 ∨ mvAt hd rv (mayA fst hd rv X H (selTo p N)) (mayV fst hd rv X H (selTo p N)) v = 2 := by
  unfold mvAt
  by_cases h : downs fst hd rv X H v = []
  · right
    rw [if_neg (fun e => ((beg_may hG hv).1 e).2 h), if_pos (mayV_mem.2 ⟨hv, hp, h⟩)]
  · left
    rw [if_pos ((beg_may hG hv).2 ⟨hp, h⟩)]
theorem mv_no (hG : Grid N M fst hd rv) {v : Nat} (hv : v < N) (hp : p v = false) : mvAt hd rv (mayA fst hd rv X H (selTo p N)) (mayV fst hd rv X H (selTo p N)) v = 0 := by
  unfold mvAt
  rw [if_neg (fun e => by rw [((beg_may hG hv).1 e).1] at hp; cases hp), if_neg (fun e => by rw [(mayV_mem.1 e).2.1] at hp; cases hp)]
/-- A vertex that may be lifted is no arc's begin. -/
theorem mv_apart (hG : Grid N M fst hd rv) {u : Nat} (hu : u ∈ mayV fst hd rv X H (selTo p N)) : begB hd rv (mayA fst hd rv X H (selTo p N)) u = false := by
  obtain ⟨h1, -, h3⟩ := mayV_mem.1 hu
  exact Bool.eq_false_iff.2 fun e => ((beg_may hG h1).1 e).2 h3
theorem mayV_nodup : (mayV fst hd rv X H (selTo p N)).Nodup := sel_nodup.filter _
end

end Go.Proofs.Ytgjokddcaadjdaa
