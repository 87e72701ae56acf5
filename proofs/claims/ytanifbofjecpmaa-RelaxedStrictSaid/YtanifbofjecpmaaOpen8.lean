/- A slice of acts that came in, opened. -/
import Derived.Test.YtanifbofjecpmaaOpens
import Derived.Test.YtanifbofjecpmaaRlp
namespace Go.Proofs.Ytanifbofjecpmaa
open Go.ChangeShapes Go.WideShapes Go.ChangeAt Go.RowKit Go.Deep Go.Joins
set_option maxRecDepth 100000

/-- An act: a move, whether it is as it is, and what it is made to fit by. -/
structure ActS where
  e : EvS
  raw : Bool
  fit : Int
def actCells (a : ActS) : List Value := [.int .i64 a.e.who, .int .u8 a.e.what, .int .i64 a.e.u, .int .i64 a.e.arc, .int .i64 a.e.d, .int .i64 a.e.h, .int .i64 a.e.low, .bool a.raw, .int .u8 a.fit]
/-- A slice reads as these acts. -/
abbrev Acts (w : World) (B : Nat) (A : Option Addr) (n : Nat) (l : List ActS) : Prop := RdBy actCells 9 w B A n l

section
variable {H : Type} {enc : TypeId × Value → H} {w : World} {base : Nat} {spare : Nat → Bool} {held : Bool}
/-- Nine cells that read as an act. -/
theorem act_of {n : Nat} {v0 v1 v2 v3 v4 v5 v6 v7 v8 : Value} {x : DataW H × List MemPlace} (ht : DataW.trod enc Try.prog w base spare held n 41 [v0, v1, v2, v3, v4, v5, v6, v7, v8] = some x) : ∃ q : ActS, [v0, v1, v2, v3, v4, v5, v6, v7, v8] = actCells q := by
  have hc7 : Try.prog.cellsOf 39 = 7 := by kernel_rfl
  have k3 : Try.prog.cellsOf 3 = 1 := by kernel_rfl
  have k2 : Try.prog.cellsOf 2 = 1 := by kernel_rfl
  have k5 : Try.prog.cellsOf 5 = 1 := by kernel_rfl
  have k4 : Try.prog.cellsOf 4 = 1 := by kernel_rfl
  obtain ⟨ys, n', _, _, _, _, hf⟩ := DataW.trod_struct Try.underlying41 ht
  have e0 : DataW.trod enc Try.prog w base spare held n' 39 (([v0, v1, v2, v3, v4, v5, v6, v7, v8].drop 0).take (Try.prog.cellsOf 39)) = ys[0]? := hf 0 _ rfl
  have e1 : DataW.trod enc Try.prog w base spare held n' 4 (([v0, v1, v2, v3, v4, v5, v6, v7, v8].drop 7).take (Try.prog.cellsOf 4)) = ys[1]? := hf 1 _ rfl
  have e2 : DataW.trod enc Try.prog w base spare held n' 5 (([v0, v1, v2, v3, v4, v5, v6, v7, v8].drop 8).take (Try.prog.cellsOf 5)) = ys[2]? := hf 2 _ rfl
  rw [hc7] at e0
  rw [k4] at e1
  rw [k5] at e2
  simp only [List.drop_zero, List.drop_succ_cons, List.take_succ_cons, List.take_zero] at e0 e1 e2
  have g : ∀ j : Nat, j < 3 → ∃ y, ys[j]? = some y := fun j hj => ⟨ys[j]'(by simp_all), List.getElem?_eq_getElem (by simp_all)⟩
  obtain ⟨y0, g0⟩ := g 0 (by omega)
  obtain ⟨y1, g1⟩ := g 1 (by omega)
  obtain ⟨y2, g2⟩ := g 2 (by omega)
  obtain ⟨zs, n'', _, _, _, _, hz⟩ := DataW.trod_struct Try.underlying39 (e0.trans g0)
  have p0 : DataW.trod enc Try.prog w base spare held n'' 3 (([v0, v1, v2, v3, v4, v5, v6].drop 0).take (Try.prog.cellsOf 3)) = zs[0]? := hz 0 _ rfl
  have p1 : DataW.trod enc Try.prog w base spare held n'' 5 (([v0, v1, v2, v3, v4, v5, v6].drop 1).take (Try.prog.cellsOf 5)) = zs[1]? := hz 1 _ rfl
  have p2 : DataW.trod enc Try.prog w base spare held n'' 3 (([v0, v1, v2, v3, v4, v5, v6].drop 2).take (Try.prog.cellsOf 3)) = zs[2]? := hz 2 _ rfl
  have p3 : DataW.trod enc Try.prog w base spare held n'' 3 (([v0, v1, v2, v3, v4, v5, v6].drop 3).take (Try.prog.cellsOf 3)) = zs[3]? := hz 3 _ rfl
  have p4 : DataW.trod enc Try.prog w base spare held n'' 2 (([v0, v1, v2, v3, v4, v5, v6].drop 4).take (Try.prog.cellsOf 2)) = zs[4]? := hz 4 _ rfl
  have p5 : DataW.trod enc Try.prog w base spare held n'' 3 (([v0, v1, v2, v3, v4, v5, v6].drop 5).take (Try.prog.cellsOf 3)) = zs[5]? := hz 5 _ rfl
  have p6 : DataW.trod enc Try.prog w base spare held n'' 3 (([v0, v1, v2, v3, v4, v5, v6].drop 6).take (Try.prog.cellsOf 3)) = zs[6]? := hz 6 _ rfl
  rw [k3] at p0 p2 p3 p5 p6
  rw [k5] at p1
  rw [k2] at p4
  simp only [List.drop_zero, List.drop_succ_cons, List.take_succ_cons, List.take_zero] at p0 p1 p2 p3 p4 p5 p6
  have gz : ∀ j : Nat, j < 7 → ∃ y, zs[j]? = some y := fun j hj => ⟨zs[j]'(by simp_all), List.getElem?_eq_getElem (by simp_all)⟩
  obtain ⟨t0, q0⟩ := gz 0 (by omega); obtain ⟨t1, q1⟩ := gz 1 (by omega); obtain ⟨t2, q2⟩ := gz 2 (by omega); obtain ⟨t3, q3⟩ := gz 3 (by omega)
  obtain ⟨t4, q4⟩ := gz 4 (by omega); obtain ⟨t5, q5⟩ := gz 5 (by omega); obtain ⟨t6, q6⟩ := gz 6 (by omega)
  obtain ⟨x0, f0, _, _⟩ := DataW.trod_int Try.underlying3 (p0.trans q0)
  obtain ⟨x1, f1, _, _⟩ := DataW.trod_int Try.underlying5 (p1.trans q1)
  obtain ⟨x2, f2, _, _⟩ := DataW.trod_int Try.underlying3 (p2.trans q2)
  obtain ⟨x3, f3, _, _⟩ := DataW.trod_int Try.underlying3 (p3.trans q3)
  obtain ⟨x4, f4, _, _⟩ := DataW.trod_int Try.underlying2 (p4.trans q4)
  obtain ⟨x5, f5, _, _⟩ := DataW.trod_int Try.underlying3 (p5.trans q5)
  obtain ⟨x6, f6, _, _⟩ := DataW.trod_int Try.underlying3 (p6.trans q6)
  obtain ⟨x7, f7, _⟩ := DataW.trod_bool Try.underlying4 (e1.trans g1)
  obtain ⟨x8, f8, _, _⟩ := DataW.trod_int Try.underlying5 (e2.trans g2)
  simp at f0 f1 f2 f3 f4 f5 f6 f7 f8
  subst f0; subst f1; subst f2; subst f3; subst f4; subst f5; subst f6; subst f7; subst f8
  exact ⟨⟨⟨x0, x1, x2, x3, x4, x5, x6⟩, x7, x8⟩, rfl⟩
theorem open_act {r : Reach} {b0 : Nat} {v : Value} {d : DataW H} {p : List MemPlace} (hv : Value.okWide Try.prog w r b0 41 v) (h : DataW.Trod enc Try.prog w base spare held 41 v d p) :
    ∃ q : ActS, v = .agg (actCells q).toArray := by
  obtain ⟨cs, rfl, hsz⟩ := okWide_struct Try.underlying41 hv
  have hc9 : Try.prog.cellsOf 41 = 9 := by kernel_rfl
  obtain ⟨fuel, hf⟩ := h
  obtain ⟨l⟩ := cs
  have hl : l.length = 9 := by simpa using hsz.trans hc9
  match l, hl with
  | [v0, v1, v2, v3, v4, v5, v6, v7, v8], _ =>
    obtain ⟨q, hq⟩ := act_of hf
    exact ⟨q, by rw [hq]⟩
theorem open_acts {fuel : Nat} {v : Value} {x : DataW H × List MemPlace} (h : DataW.trod enc Try.prog w base spare held fuel 25 [v] = some x) :
    ∃ (A : Option Addr) (n c : Nat) (l : List ActS), v = .slice A n c ∧ Acts w w.heap.size A n l ∧ n ≤ c := by
  rcases open_slice Try.underlying25 h with ⟨hcs, _⟩ | ⟨a, len, cap, m, k, D, Pl, hcs, hb, hl, hm, hmm, hx, hi⟩
  · simp at hcs
    subst hcs
    exact ⟨none, 0, 0, [], rfl, RdBy.empty, Nat.le_refl _⟩
  · simp at hcs
    subst hcs
    have hc9 : Try.prog.cellsOf 41 = 9 := by kernel_rfl
    have hc7 : Try.prog.cellsOf 39 = 7 := by kernel_rfl
    have k3 : Try.prog.cellsOf 3 = 1 := by kernel_rfl
    have k2 : Try.prog.cellsOf 2 = 1 := by kernel_rfl
    have k5 : Try.prog.cellsOf 5 = 1 := by kernel_rfl
    have k4 : Try.prog.cellsOf 4 = 1 := by kernel_rfl
    have hlm : len ≤ m := by rw [hmm]; split <;> omega
    have each : ∀ i, i < len → ∃ q : ActS, ∀ (j : Nat) (u : Value), (actCells q)[j]? = some u → w.cell? (a.add (i * 9 + j)) = some u := by
      intro i hil
      obtain ⟨cs', hc, ht⟩ := hi i (by omega)
      rw [hc9] at hc
      obtain ⟨_, hcl, hat⟩ := World.cells?_some hc
      obtain ⟨ys, n', _, _, _, _, hf⟩ := DataW.trod_struct Try.underlying41 ht
      match cs', hcl with
      | [v0, v1, v2, v3, v4, v5, v6, v7, v8], _ =>
        have e0 : DataW.trod enc Try.prog w base spare held n' 39 (([v0, v1, v2, v3, v4, v5, v6, v7, v8].drop 0).take (Try.prog.cellsOf 39)) = ys[0]? := hf 0 _ rfl
        have e1 : DataW.trod enc Try.prog w base spare held n' 4 (([v0, v1, v2, v3, v4, v5, v6, v7, v8].drop 7).take (Try.prog.cellsOf 4)) = ys[1]? := hf 1 _ rfl
        have e2 : DataW.trod enc Try.prog w base spare held n' 5 (([v0, v1, v2, v3, v4, v5, v6, v7, v8].drop 8).take (Try.prog.cellsOf 5)) = ys[2]? := hf 2 _ rfl
        rw [hc7] at e0
        rw [k4] at e1
        rw [k5] at e2
        simp only [List.drop_zero, List.drop_succ_cons, List.take_succ_cons, List.take_zero] at e0 e1 e2
        have g : ∀ j : Nat, j < 3 → ∃ y, ys[j]? = some y := fun j hj => ⟨ys[j]'(by simp_all), List.getElem?_eq_getElem (by simp_all)⟩
        obtain ⟨y0, g0⟩ := g 0 (by omega)
        obtain ⟨y1, g1⟩ := g 1 (by omega)
        obtain ⟨y2, g2⟩ := g 2 (by omega)
        obtain ⟨zs, n'', _, _, _, _, hz⟩ := DataW.trod_struct Try.underlying39 (e0.trans g0)
        have p0 : DataW.trod enc Try.prog w base spare held n'' 3 (([v0, v1, v2, v3, v4, v5, v6].drop 0).take (Try.prog.cellsOf 3)) = zs[0]? := hz 0 _ rfl
        have p1 : DataW.trod enc Try.prog w base spare held n'' 5 (([v0, v1, v2, v3, v4, v5, v6].drop 1).take (Try.prog.cellsOf 5)) = zs[1]? := hz 1 _ rfl
        have p2 : DataW.trod enc Try.prog w base spare held n'' 3 (([v0, v1, v2, v3, v4, v5, v6].drop 2).take (Try.prog.cellsOf 3)) = zs[2]? := hz 2 _ rfl
        have p3 : DataW.trod enc Try.prog w base spare held n'' 3 (([v0, v1, v2, v3, v4, v5, v6].drop 3).take (Try.prog.cellsOf 3)) = zs[3]? := hz 3 _ rfl
        have p4 : DataW.trod enc Try.prog w base spare held n'' 2 (([v0, v1, v2, v3, v4, v5, v6].drop 4).take (Try.prog.cellsOf 2)) = zs[4]? := hz 4 _ rfl
        have p5 : DataW.trod enc Try.prog w base spare held n'' 3 (([v0, v1, v2, v3, v4, v5, v6].drop 5).take (Try.prog.cellsOf 3)) = zs[5]? := hz 5 _ rfl
        have p6 : DataW.trod enc Try.prog w base spare held n'' 3 (([v0, v1, v2, v3, v4, v5, v6].drop 6).take (Try.prog.cellsOf 3)) = zs[6]? := hz 6 _ rfl
        rw [k3] at p0 p2 p3 p5 p6
        rw [k5] at p1
        rw [k2] at p4
        simp only [List.drop_zero, List.drop_succ_cons, List.take_succ_cons, List.take_zero] at p0 p1 p2 p3 p4 p5 p6
        have gz : ∀ j : Nat, j < 7 → ∃ y, zs[j]? = some y := fun j hj => ⟨zs[j]'(by simp_all), List.getElem?_eq_getElem (by simp_all)⟩
        obtain ⟨t0, q0⟩ := gz 0 (by omega); obtain ⟨t1, q1⟩ := gz 1 (by omega); obtain ⟨t2, q2⟩ := gz 2 (by omega); obtain ⟨t3, q3⟩ := gz 3 (by omega)
        obtain ⟨t4, q4⟩ := gz 4 (by omega); obtain ⟨t5, q5⟩ := gz 5 (by omega); obtain ⟨t6, q6⟩ := gz 6 (by omega)
        obtain ⟨x0, f0, _, _⟩ := DataW.trod_int Try.underlying3 (p0.trans q0)
        obtain ⟨x1, f1, _, _⟩ := DataW.trod_int Try.underlying5 (p1.trans q1)
        obtain ⟨x2, f2, _, _⟩ := DataW.trod_int Try.underlying3 (p2.trans q2)
        obtain ⟨x3, f3, _, _⟩ := DataW.trod_int Try.underlying3 (p3.trans q3)
        obtain ⟨x4, f4, _, _⟩ := DataW.trod_int Try.underlying2 (p4.trans q4)
        obtain ⟨x5, f5, _, _⟩ := DataW.trod_int Try.underlying3 (p5.trans q5)
        obtain ⟨x6, f6, _, _⟩ := DataW.trod_int Try.underlying3 (p6.trans q6)
        obtain ⟨x7, f7, _⟩ := DataW.trod_bool Try.underlying4 (e1.trans g1)
        obtain ⟨x8, f8, _, _⟩ := DataW.trod_int Try.underlying5 (e2.trans g2)
        simp at f0 f1 f2 f3 f4 f5 f6 f7 f8
        subst f0; subst f1; subst f2; subst f3; subst f4; subst f5; subst f6; subst f7; subst f8
        refine ⟨⟨⟨x0, x1, x2, x3, x4, x5, x6⟩, x7, x8⟩, fun j u hu => ?_⟩
        have hj := (List.getElem?_eq_some_iff.1 hu).1
        have hs := hat j (by simpa [actCells] using hj)
        rw [show a.add (i * 9 + j) = (a.add (i * 9)).add j from (Go.Deep.add_add _ _ _).symm]
        rw [← hu]
        exact hs
    have each' : ∀ i, i < len → ∃ q : ActS, (fun i (q : ActS) => ∀ (j : Nat) (u : Value), (actCells q)[j]? = some u → w.cell? (a.add (i * 9 + j)) = some u) i q := each
    obtain ⟨l, hll, hlp⟩ := list_of_each each'
    refine ⟨some a, len, cap, l, rfl, ⟨hll, fun hn => ?_⟩, hl⟩
    obtain ⟨q, hq⟩ := each 0 hn
    have hc0 := hq 0 _ rfl
    have hsp : a.spot = none := by simpa [Addr.add] using World.cell?_spot hc0
    obtain ⟨b, off, spot⟩ := a
    simp only at hsp
    subst hsp
    refine ⟨b, off, rfl, by simpa [Addr.add] using World.block_lt_of_cell? w _ hc0, fun k q hk j u hu => ?_⟩
    have s0 := hlp k q hk j u hu
    have ea : ∀ j, (⟨b, off, none⟩ : Addr).add j = ⟨b, off + j, none⟩ := fun j => by unfold Addr.add; split <;> simp_all
    rw [ea] at s0
    exact s0
end
/-- The k-th act. -/
theorem acts_at {w : World} {B n : Nat} {A : Option Addr} {l : List ActS} (h : Acts w B A n l) {k : Nat} (hk : k < n) :
    ∃ (b off : Nat) (a : ActS), A = some ⟨b, off, none⟩ ∧ b < B ∧ l[k]? = some a ∧ w.cell? ⟨b, off + k * 9, none⟩ = some (.int .i64 a.e.who) ∧ w.cell? ⟨b, off + k * 9 + 1, none⟩ = some (.int .u8 a.e.what) ∧ w.cell? ⟨b, off + k * 9 + 2, none⟩ = some (.int .i64 a.e.u) ∧
      w.cell? ⟨b, off + k * 9 + 3, none⟩ = some (.int .i64 a.e.arc) ∧ w.cell? ⟨b, off + k * 9 + 4, none⟩ = some (.int .i64 a.e.d) ∧ w.cell? ⟨b, off + k * 9 + 5, none⟩ = some (.int .i64 a.e.h) ∧ w.cell? ⟨b, off + k * 9 + 6, none⟩ = some (.int .i64 a.e.low) ∧
      w.cell? ⟨b, off + k * 9 + 7, none⟩ = some (.bool a.raw) ∧ w.cell? ⟨b, off + k * 9 + 8, none⟩ = some (.int .u8 a.fit) := by
  obtain ⟨a, ha⟩ := h.get hk
  obtain ⟨b, off, e, hb, hc⟩ := h.2 (by omega)
  refine ⟨b, off, a, e, hb, ha, by simpa using hc k a ha 0 _ rfl, by rw [Nat.add_assoc]; exact hc k a ha 1 _ rfl, by rw [Nat.add_assoc]; exact hc k a ha 2 _ rfl, by rw [Nat.add_assoc]; exact hc k a ha 3 _ rfl, by rw [Nat.add_assoc]; exact hc k a ha 4 _ rfl, by rw [Nat.add_assoc]; exact hc k a ha 5 _ rfl, by rw [Nat.add_assoc]; exact hc k a ha 6 _ rfl, by rw [Nat.add_assoc]; exact hc k a ha 7 _ rfl, by rw [Nat.add_assoc]; exact hc k a ha 8 _ rfl⟩
end Go.Proofs.Ytanifbofjecpmaa
