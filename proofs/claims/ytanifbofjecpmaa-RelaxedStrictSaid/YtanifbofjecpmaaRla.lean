/- Layer 9: relaxed.at: the machine and its map of checks, laid; what is found in the map. -/
import Derived.Test.YtanifbofjecpmaaRlf
import Derived.Test.YtanifbofjecpmaaOpeno
import Derived.Maps.Keyed
namespace Go.Proofs.Ytanifbofjecpmaa
open Go.RowKit Go.MapKept
set_option maxRecDepth 100000

/-- A thing laid into a map that the call fills. -/
theorem wpList_insert {P : Program} {w W' : World} {ops : Array Oper} {rest : List Oper} {o : Oper} {a : Act} {Q : Exit → Act → World → Prop} (hg : o.guard = none) (t : TypeId) (mo xo vo : Operand) (hop : o.op = Op.insert t mo xo vo)
    (hrun : (Instr.mapUpdate t (a.eval mo) (a.eval xo) (a.eval vo)).run P w = .ok () W') (hK : wpList P ops Q rest (a.put o.dst undef) W') : wpList P ops Q (o :: rest) a w := by
  refine wpList_plain hg fun K' hK' => ?_
  unfold Oper.wp
  simp [execOp, hop, hrun, Result.andThen]
  exact hK' _ _ hK
theorem ins_run {P : Program} {t kt et : TypeId} {w : World} {b : Nat} {es : Array MapEntry} {clock : Nat} {k : Int} {v : Value} (hm : P.underlying t = some (.map kt et)) (hd : P.underlying kt = some (.int .u8)) (hb : w.heap[b]? = some (.map es clock))
    (hn : Instr.findNow (.int .u8) (.int .u8 k) es.toList 0 = some none) :
    (Instr.mapUpdate t (.map (some b)) (.int .u8 k) v).run P w = .ok () (w.putObj b (.map (es.push ⟨.int .u8 k, v, clock⟩) (clock + 1))) := by
  have hk : IsKey (.int .u8) (.int .u8 k) := by simp [IsKey]
  simp [Instr.mapUpdate, run_underlying hm, MapKept.run_getObj_map hb, MapKept.run_checkKey hd hk, MapKept.run_findKey hd hn, MapKept.run_setObj_map _ hb, Result.andThen, World.putObj]

theorem rch_put {B D : Nat} {w W : World} (h : Below B w W) (hB : B ≤ D) (hD : D < W.heap.size) (o' : Obj) : Below B w (W.putObj D o') :=
  h.trans ((Below.refl B W).grown (grownBy_putObj' W D o') (by omega) (fun k e => by cases e; omega))

abbrev mchC (N M s t : Nat) (K : CsrS) (nX nE nH : Nat) (Q : PreS) (m : Value) : Array Value := #[.int .i64 (N : Int), .int .i64 (s : Int), .int .i64 (t : Int), .slice K.AF (N + 1) K.cF, .slice K.AH M K.cH, .slice K.AR M K.cR, .slice K.AC M K.cC, .slice K.AA M K.cA, .slice K.AB M K.cB, .slice Q.AX nX Q.cX, .slice Q.AE nE Q.cE, .slice Q.AH nH Q.cH, m]
abbrev fnP (g : Nat) : Value := .func (.func 70) #[.pointer (some ⟨g, 0, none⟩)] #[]
abbrev fnL (g : Nat) : Value := .func (.func 71) #[.pointer (some ⟨g, 0, none⟩)] #[]
def fmap (g : Nat) : Array MapEntry := #[⟨.int .u8 1, fnP g, 0⟩, ⟨.int .u8 2, fnL g, 1⟩]
/-- The machine lies in block g, its checks in block b. -/
structure Mch (W : World) (g b N M s t : Nat) (K : CsrS) (nX nE nH : Nat) (Q : PreS) : Prop where
  box : Blk W g 81 (mchC N M s t K nX nE nH Q (.map (some b)))
  map : W.heap[b]? = some (.map (fmap g) 2)

set_option maxHeartbeats 1000000 in
theorem at_is (N M s t : Nat) (K : CsrS) (nX nE nH : Nat) (Q : PreS) (w : World) :
    Calls Try.prog 36 #[csrW N M s t K, preW nX nE nH Q] w fun e w' => ∃ g b, e = .returned (.pointer (some ⟨g, 0, none⟩)) ∧ Mch w' g b N M s t K nX nE nH Q ∧ w.heap.size ≤ g ∧ w.heap.size ≤ b ∧ Below w.heap.size w w' := by
  obtain ⟨AF, cF, AH, cH, AR, cR, AC, cC, AA, cA, AB, cB⟩ := K
  obtain ⟨AX, cX, AE, cE, AHH, cHH⟩ := Q
  dsimp only [csrW, preW]
  have hmm := @run_makeMap Try.prog
  obtain ⟨w4, hw4⟩ : ∃ w4, ((((w.alloc (.cells #[.int .i64 (N : Int), .int .i64 (s : Int), .int .i64 (t : Int), .slice AF (N + 1) cF, .slice AH M cH, .slice AR M cR, .slice AC M cC, .slice AA M cA, .slice AB M cB] 32)).alloc (.cells #[.slice AX nX cX, .slice AE nE cE, .slice AHH nH cHH] 29)).alloc (.cells #[.int .i64 (N : Int), .int .i64 (s : Int), .int .i64 (t : Int), .slice AF (N + 1) cF, .slice AH M cH, .slice AR M cR, .slice AC M cC, .slice AA M cA, .slice AB M cB, .slice AX nX cX, .slice AE nE cE, .slice AHH nH cHH, .map none] 81)).alloc (.map #[] 0)) = w4 := ⟨_, rfl⟩
  have S4 : w4.heap.size = w.heap.size + 4 := by rw [← hw4]; simp
  have B4 : Below w.heap.size w w4 := by rw [← hw4]; exact ((((Below.refl _ w).alloc (Nat.le_refl _) _).alloc (by simp) _).alloc (by simp; omega) _).alloc (by simp; omega) _
  have M4 : Blk w4 (w.heap.size + 1 + 1) 81 #[.int .i64 (N : Int), .int .i64 (s : Int), .int .i64 (t : Int), .slice AF (N + 1) cF, .slice AH M cH, .slice AR M cR, .slice AC M cC, .slice AA M cA, .slice AB M cB, .slice AX nX cX, .slice AE nE cE, .slice AHH nH cHH, .map none] := by rw [← hw4]; exact (Blk.new (by simp)).alloc _
  have H4 : w4.heap[w.heap.size + 1 + 1 + 1]? = some (.map #[] 0) := by rw [← hw4]; have := (heap_alloc (((w.alloc (.cells #[.int .i64 (N : Int), .int .i64 (s : Int), .int .i64 (t : Int), .slice AF (N + 1) cF, .slice AH M cH, .slice AR M cR, .slice AC M cC, .slice AA M cA, .slice AB M cB] 32)).alloc (.cells #[.slice AX nX cX, .slice AE nE cE, .slice AHH nH cHH] 29)).alloc (.cells #[.int .i64 (N : Int), .int .i64 (s : Int), .int .i64 (t : Int), .slice AF (N + 1) cF, .slice AH M cH, .slice AR M cR, .slice AC M cC, .slice AA M cA, .slice AB M cB, .slice AX nX cX, .slice AE nE cE, .slice AHH nH cHH, .map none] 81)) (.map #[] 0)).1; simpa using this
  have e1 := ins_run (v := fnP (w.heap.size + 1 + 1)) (k := 1) Try.underlying79 Try.underlying5 H4 rfl
  obtain ⟨w5, hw5⟩ : ∃ w5, w4.putObj (w.heap.size + 1 + 1 + 1) (.map (#[].push ⟨.int .u8 1, fnP (w.heap.size + 1 + 1), 0⟩) (0 + 1)) = w5 := ⟨_, rfl⟩
  have H5 : w5.heap[w.heap.size + 1 + 1 + 1]? = some (.map (#[].push ⟨.int .u8 1, fnP (w.heap.size + 1 + 1), 0⟩) (0 + 1)) := by rw [← hw5]; exact World.putObj_heap_same (by omega)
  have S5 : w5.heap.size = w.heap.size + 4 := by rw [← hw5, putObj_size, S4]
  have B5 : Below w.heap.size w w5 := by rw [← hw5]; exact rch_put B4 (by omega) (by omega) _
  have M5 : Blk w5 (w.heap.size + 1 + 1) 81 #[.int .i64 (N : Int), .int .i64 (s : Int), .int .i64 (t : Int), .slice AF (N + 1) cF, .slice AH M cH, .slice AR M cR, .slice AC M cC, .slice AA M cA, .slice AB M cB, .slice AX nX cX, .slice AE nE cE, .slice AHH nH cHH, .map none] := by rw [← hw5]; exact (World.putObj_heap_other (by omega)).trans M4
  rw [hw5] at e1
  have e2 := ins_run (v := fnL (w.heap.size + 1 + 1)) (k := 2) Try.underlying79 Try.underlying5 H5 rfl
  obtain ⟨w6, hw6⟩ : ∃ w6, w5.putObj (w.heap.size + 1 + 1 + 1) (.map ((#[].push ⟨.int .u8 1, fnP (w.heap.size + 1 + 1), 0⟩).push ⟨.int .u8 2, fnL (w.heap.size + 1 + 1), 0 + 1⟩) (0 + 1 + 1)) = w6 := ⟨_, rfl⟩
  have H6 : w6.heap[w.heap.size + 1 + 1 + 1]? = some (.map (fmap (w.heap.size + 1 + 1)) 2) := by rw [← hw6]; exact World.putObj_heap_same (by omega)
  have B6 : Below w.heap.size w w6 := by rw [← hw6]; exact rch_put B5 (by omega) (by omega) _
  have M6 : Blk w6 (w.heap.size + 1 + 1) 81 #[.int .i64 (N : Int), .int .i64 (s : Int), .int .i64 (t : Int), .slice AF (N + 1) cF, .slice AH M cH, .slice AR M cR, .slice AC M cC, .slice AA M cA, .slice AB M cB, .slice AX nX cX, .slice AE nE cE, .slice AHH nH cHH, .map none] := by rw [← hw6]; exact (World.putObj_heap_other (by omega)).trans M5
  rw [hw6] at e2
  have c12 := M6.cell 12
  simp only [List.getElem?_toArray, List.getElem?_cons_zero, List.getElem?_cons_succ] at c12
  have f12 := M6.frozen 12
  have HB6 := Lib.hid B6; have HM6 := Lib.hid M6; have HH6 := Lib.hid H6
  clear hw5 hw6 S4 S5 B4 B5 B6 M4 M5 M6 H4 H5 H6
  go_enter Try.func36, Try.ntmps36
  go_wp2_with fail
  go_ret
  refine ⟨_, _, rfl, ⟨HM6.out.set 12 _, ?_⟩, by omega, by omega, HB6.out.setCell (by simp; omega) _⟩
  exact (Below.heap_setCell _ _ _ _ (by simp)).trans HH6.out

/-! What is found in the map. -/
theorem look_run {P : Program} {t kt et : TypeId} {w : World} {b i : Nat} {es : Array MapEntry} {clock : Nat} {k : Int} {v : Value} (hm : P.underlying t = some (.map kt et)) (hd : P.underlying kt = some (.int .u8)) (hb : w.heap[b]? = some (.map es clock))
    (hn : Instr.findNow (.int .u8) (.int .u8 k) es.toList 0 = some (some (i, v))) :
    (Instr.lookup t (.map (some b)) (.int .u8 k) true).run P w = .ok (.tuple #[v, .bool true]) w := by
  have hk : IsKey (.int .u8) (.int .u8 k) := by simp [IsKey]
  simp [Instr.lookup, run_underlying hm, MapKept.run_getObj_map hb, MapKept.run_checkKey hd hk, MapKept.run_findKey hd hn, Result.andThen]
theorem look_none {P : Program} {t kt et : TypeId} {w : World} {b : Nat} {es : Array MapEntry} {clock : Nat} {k : Int} {z : Value} (hm : P.underlying t = some (.map kt et)) (hd : P.underlying kt = some (.int .u8)) (hb : w.heap[b]? = some (.map es clock))
    (hn : Instr.findNow (.int .u8) (.int .u8 k) es.toList 0 = some none) (hz : (zeroValue et).run P w = .ok z w) :
    (Instr.lookup t (.map (some b)) (.int .u8 k) true).run P w = .ok (.tuple #[z, .bool false]) w := by
  have hk : IsKey (.int .u8) (.int .u8 k) := by simp [IsKey]
  simp [Instr.lookup, run_underlying hm, MapKept.run_getObj_map hb, MapKept.run_checkKey hd hk, MapKept.run_findKey hd hn, Result.andThen, hz]
section
variable {w : World} {g b : Nat} (hb : w.heap[b]? = some (.map (fmap g) 2))
include hb
theorem chk_one (n : Nat) : (Instr.lookup 79 (.map (some b)) (.int .u8 1) true).run Try.prog (w.drewN n) = .ok (.tuple #[fnP g, .bool true]) (w.drewN n) :=
  look_run (w := w.drewN n) (i := 0) Try.underlying79 Try.underlying5 hb rfl
theorem chk_two (n : Nat) : (Instr.lookup 79 (.map (some b)) (.int .u8 2) true).run Try.prog (w.drewN n) = .ok (.tuple #[fnL g, .bool true]) (w.drewN n) :=
  look_run (w := w.drewN n) (i := 1) Try.underlying79 Try.underlying5 hb rfl
theorem chk_none {k : Int} (h1 : k ≠ 1) (h2 : k ≠ 2) : ∃ z, ∀ n, (Instr.lookup 79 (.map (some b)) (.int .u8 k) true).run Try.prog (w.drewN n) = .ok (.tuple #[z, .bool false]) (w.drewN n) := by
  refine ⟨.nilFunc, fun n => look_none (w := w.drewN n) Try.underlying79 Try.underlying5 hb ?_ (by kernel_rfl)⟩
  have e1 : (k == 1) = false := by simpa using h1
  have e2 : (k == 2) = false := by simpa using h2
  simp [Instr.findNow, Instr.sameNow, fmap, e1, e2]
end

/-! The machine's own: moves, most. -/
theorem Blk.at13 {w : World} {g : Nat} {t : TypeId} {v0 v1 v2 v3 v4 v5 v6 v7 v8 v9 v10 v11 v12 : Value} (h : Blk w g t #[v0, v1, v2, v3, v4, v5, v6, v7, v8, v9, v10, v11, v12]) :
    w.cell? ⟨g, 0, none⟩ = some v0 ∧ w.cell? ⟨g, 1, none⟩ = some v1 ∧ w.cell? ⟨g, 2, none⟩ = some v2 ∧ w.cell? ⟨g, 3, none⟩ = some v3 ∧ w.cell? ⟨g, 4, none⟩ = some v4 ∧
      w.cell? ⟨g, 5, none⟩ = some v5 ∧ w.cell? ⟨g, 6, none⟩ = some v6 ∧ w.cell? ⟨g, 7, none⟩ = some v7 ∧ w.cell? ⟨g, 8, none⟩ = some v8 ∧ w.cell? ⟨g, 9, none⟩ = some v9 ∧ w.cell? ⟨g, 10, none⟩ = some v10 ∧
      w.cell? ⟨g, 11, none⟩ = some v11 ∧ w.cell? ⟨g, 12, none⟩ = some v12 :=
  ⟨h.cell 0, h.cell 1, h.cell 2, h.cell 3, h.cell 4, h.cell 5, h.cell 6, h.cell 7, h.cell 8, h.cell 9, h.cell 10, h.cell 11, h.cell 12⟩
section
variable {W W' : World} {g b N M s t nX nE nH x : Nat} {K : CsrS} {Q : PreS}
theorem Mch.below (h : Mch W g b N M s t K nX nE nH Q) (hb : Below W.heap.size W W') : Mch W' g b N M s t K nX nE nH Q :=
  ⟨h.box.below hb h.box.lt, (hb.block _ (Array.getElem?_eq_some_iff.1 h.map).1).trans h.map⟩
end

set_option maxHeartbeats 1000000 in
theorem moves_is (g b N M s t nX nE nH : Nat) (K : CsrS) (Q : PreS) (u : Int) (w : World) (hM : Mch w g b N M s t K nX nE nH Q) (r : Bool) (hr : decide (isV N s t u) = r) :
    Calls Try.prog 73 #[.pointer (some ⟨g, 0, none⟩), .int .i64 u] w fun e w' => e = .returned (.bool r) ∧ w' = w := by
  obtain ⟨a0, a1, a2, -⟩ := hM.box.at13
  have HX := Lib.hid fun W => rix_any u (N : Int) W
  by_cases h1 : 0 ≤ u ∧ u < (N : Int)
  · rw [decide_eq_true h1] at HX
    by_cases h2 : u = (s : Int)
    · have hr' : r = false := by rw [← hr]; exact decide_eq_false fun h => h.2.1 h2
      have h3 : (u != (s : Int)) = false := by simp [h2]
      subst hr'
      clear hr hM h2 h1
      go_enter Try.func73, Try.ntmps73
      go_wp2_with fail
      refine (HX.out _).mono ?_
      rintro e W ⟨rfl, rfl⟩
      go_wp2_with fail
      go_ret
      exact ⟨rfl, rfl⟩
    · have h3 : (u != (s : Int)) = true := by simp [h2]
      obtain ⟨c, hc⟩ : ∃ c, (u != (t : Int)) = c := ⟨_, rfl⟩
      have hr' : c = r := by
        rw [← hr, ← hc]
        by_cases h4 : u = (t : Int)
        · rw [decide_eq_false (fun h => h.2.2 h4)]; simp [h4]
        · rw [decide_eq_true (show isV N s t u from ⟨h1, h2, h4⟩)]; simp [h4]
      subst hr'
      clear hr hM h2 h1
      go_enter Try.func73, Try.ntmps73
      go_wp2_with fail
      refine (HX.out _).mono ?_
      rintro e W ⟨rfl, rfl⟩
      go_wp2_with fail
      go_ret
      exact ⟨rfl, rfl⟩
  · rw [decide_eq_false h1] at HX
    have hr' : r = false := by rw [← hr]; exact decide_eq_false fun h => h1 h.1
    subst hr'
    clear hr hM h1
    go_enter Try.func73, Try.ntmps73
    go_wp2_with fail
    refine (HX.out _).mono ?_
    rintro e W ⟨rfl, rfl⟩
    go_wp2_with fail
    go_ret
    exact ⟨rfl, rfl⟩
end Go.Proofs.Ytanifbofjecpmaa
