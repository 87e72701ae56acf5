/- NetCopies: the walk. -/
import Derived.Test.YtfdidjgecdhaiaaTurns
import Derived.Deep.DeepCutAuto
import Derived.Deep.CutBlock
namespace Go.Proofs.Ytfdidjgecdhaiaa
open Go.RowKit Go.Maps

/-- Two copies in new memory, apart from one another. -/
def TwoNets (w0 : World) (N S T : Int) (l : List ArcN) (n : Nat) (s7 s8 : Value) (wx : World) : Prop :=
  ∃ g7 g8 a1 c1 a2 c2 : Nat, s7 = .pointer (some ⟨g7, 0, none⟩) ∧ s8 = .pointer (some ⟨g8, 0, none⟩) ∧ Blk wx g7 24 #[.int .i64 N, .int .i64 S, .int .i64 T, .slice (some ⟨a1, 0, none⟩) n c1] ∧
    Blk wx g8 24 #[.int .i64 N, .int .i64 S, .int .i64 T, .slice (some ⟨a2, 0, none⟩) n c2] ∧ wx.ownsRow w0.heap.size 31 3 (.slice (some ⟨a1, 0, none⟩) n c1) n (l.flatMap arcCells) ∧
    wx.ownsRow w0.heap.size 31 3 (.slice (some ⟨a2, 0, none⟩) n c2) n (l.flatMap arcCells) ∧ a1 ≠ a2 ∧ g7 ≠ g8 ∧ w0.heap.size ≤ g7 ∧ w0.heap.size ≤ g8 ∧ Below w0.heap.size w0 wx

theorem keep_one {w0 W : World} {g : Nat} {t : TypeId} {u0 u1 u2 u3 : Value} (h : Blk w0 g t #[u0, u1, u2, u3]) (hb : Below w0.heap.size w0 W) :
    Below w0.heap.size w0 W ∧ W.cell? ⟨g, 0, none⟩ = some u0 ∧ W.cell? ⟨g, 1, none⟩ = some u1 ∧ W.cell? ⟨g, 2, none⟩ = some u2 ∧ W.cell? ⟨g, 3, none⟩ = some u3 := ⟨hb, (h.below hb h.lt).at4⟩
theorem below_more {w0 W : World} (h : Below w0.heap.size w0 W) (o : Obj) : Below w0.heap.size w0 (W.alloc o) := h.alloc h.size o

theorem Blk.new1 {w : World} {t : TypeId} {cs : Array Value} : Blk (w.alloc (.cells cs t)) w.heap.size t cs := Blk.new rfl
theorem Blk.new2 {w : World} {o : Obj} {t : TypeId} {cs : Array Value} : Blk ((w.alloc o).alloc (.cells cs t)) (w.heap.size + 1) t cs := Blk.new (by simp)
theorem blk_on {W W' : World} {g : Nat} {t : TypeId} {cs : Array Value} (h : Blk W g t cs) (hb : Below W.heap.size W W') : Blk W' g t cs := h.below hb h.lt
theorem Blk.pack {w : World} {g : Nat} {t : TypeId} {v0 v1 v2 v3 : Value} (h : Blk w g t #[v0, v1, v2, v3]) :
    w.cell? ⟨g, 0, none⟩ = some v0 ∧ w.cell? ⟨g, 1, none⟩ = some v1 ∧ w.cell? ⟨g, 2, none⟩ = some v2 ∧ w.cell? ⟨g, 3, none⟩ = some v3 ∧
      w.frozen? ⟨g, 0, none⟩ = false ∧ w.frozen? ⟨g, 1, none⟩ = false ∧ w.frozen? ⟨g, 2, none⟩ = false ∧ w.frozen? ⟨g, 3, none⟩ = false ∧ g < w.heap.size :=
  ⟨h.cell 0, h.cell 1, h.cell 2, h.cell 3, h.frozen 0, h.frozen 1, h.frozen 2, h.frozen 3, h.lt⟩
theorem Blk.far4 {w : World} {g g' : Nat} {t : TypeId} {cs : Array Value} (h : Blk w g t cs) (hne : g ≠ g') (v0 v1 v2 v3 : Value) :
    Blk ((((w.setCell ⟨g', 0, none⟩ v0).setCell ⟨g', 1, none⟩ v1).setCell ⟨g', 2, none⟩ v2).setCell ⟨g', 3, none⟩ v3) g t cs := (((h.far hne _).far hne _).far hne _).far hne _
theorem own_far4 {w : World} {base n c g' : Nat} {e t : TypeId} {size : Nat} {A : Option Addr} {xs : List Value} {cs : Array Value} (h : w.ownsRow base e size (.slice A n c) n xs) (hk : Blk w g' t cs) (hne : e ≠ t) (v0 v1 v2 v3 : Value) :
    ((((w.setCell ⟨g', 0, none⟩ v0).setCell ⟨g', 1, none⟩ v1).setCell ⟨g', 2, none⟩ v2).setCell ⟨g', 3, none⟩ v3).ownsRow base e size (.slice A n c) n xs :=
  have hn := own_ne h hk hne
  own_far (own_far (own_far (own_far h hn _) hn _) hn _) hn _
theorem own_on {W W' : World} {base n c : Nat} {e : TypeId} {size : Nat} {A : Option Addr} {xs : List Value} (h : W.ownsRow base e size (.slice A n c) n xs) (hb : Below W.heap.size W W') : W'.ownsRow base e size (.slice A n c) n xs :=
  h.kept (⟨hb.os, hb.tape, hb.output, hb.size, fun i hi _ => hb.block i hi⟩ : W.grownBy W' none) (by cases A <;> simp [Value.ownBlock])
theorem below_set4 {B : Nat} {w0 w : World} {g : Nat} (h : Below B w0 w) (hg : B ≤ g) (v0 v1 v2 v3 : Value) : Below B w0 ((((w.setCell ⟨g, 0, none⟩ v0).setCell ⟨g, 1, none⟩ v1).setCell ⟨g, 2, none⟩ v2).setCell ⟨g, 3, none⟩ v3) :=
  (((h.setCell hg _).setCell hg _).setCell hg _).setCell hg _

section
variable {w0 W : World} {N S T : Int} {l : List ArcN} {n a1 c1 a2 c2 : Nat}
theorem setCell_size (w : World) (a : Addr) (v : Value) : (w.setCell a v).heap.size = w.heap.size := by simp [World.setCell]
theorem twoF1 (P : Below w0.heap.size w0 W) (o1 : W.ownsRow w0.heap.size 31 3 (.slice (some ⟨a1, 0, none⟩) n c1) n (l.flatMap arcCells)) (o2 : W.ownsRow w0.heap.size 31 3 (.slice (some ⟨a2, 0, none⟩) n c2) n (l.flatMap arcCells)) (ha : a1 ≠ a2) : TwoNets w0 N S T l n (.pointer (some ⟨W.heap.size, 0, none⟩)) (.pointer (some ⟨W.heap.size + 1, 0, none⟩)) ((W.alloc (.cells #[.int .i64 N, .int .i64 S, .int .i64 T, .slice (some ⟨a1, 0, none⟩) n c1] 24)).alloc (.cells #[.int .i64 N, .int .i64 S, .int .i64 T, .slice (some ⟨a2, 0, none⟩) n c2] 24)) :=
  ⟨_, _, _, _, _, _, rfl, rfl, Blk.new1.alloc _, Blk.new2, (o1.alloc _).alloc _, (o2.alloc _).alloc _, ha, by omega, P.size, by have := P.size; omega, below_more (below_more P _) _⟩
theorem twoF1' (P : Below w0.heap.size w0 W) (o1 : W.ownsRow w0.heap.size 31 3 (.slice (some ⟨a1, 0, none⟩) n c1) n (l.flatMap arcCells)) (o2 : W.ownsRow w0.heap.size 31 3 (.slice (some ⟨a2, 0, none⟩) n c2) n (l.flatMap arcCells)) (ha : a1 ≠ a2) : TwoNets w0 N S T l n (.pointer (some ⟨W.heap.size + 1, 0, none⟩)) (.pointer (some ⟨W.heap.size, 0, none⟩)) ((W.alloc (.cells #[.int .i64 N, .int .i64 S, .int .i64 T, .slice (some ⟨a2, 0, none⟩) n c2] 24)).alloc (.cells #[.int .i64 N, .int .i64 S, .int .i64 T, .slice (some ⟨a1, 0, none⟩) n c1] 24)) :=
  ⟨_, _, _, _, _, _, rfl, rfl, Blk.new2, Blk.new1.alloc _, (o1.alloc _).alloc _, (o2.alloc _).alloc _, ha, by omega, by have := P.size; omega, P.size, below_more (below_more P _) _⟩
theorem twoF2 {q : Nat} (Q : Blk W q 24 #[.int .i64 0, .int .i64 0, .int .i64 0, .slice none 0 0]) (hq : w0.heap.size ≤ q) (P : Below w0.heap.size w0 W) (o1 : W.ownsRow w0.heap.size 31 3 (.slice (some ⟨a1, 0, none⟩) n c1) n (l.flatMap arcCells)) (o2 : W.ownsRow w0.heap.size 31 3 (.slice (some ⟨a2, 0, none⟩) n c2) n (l.flatMap arcCells)) (ha : a1 ≠ a2) : TwoNets w0 N S T l n (.pointer (some ⟨q, 0, none⟩)) (.pointer (some ⟨W.heap.size, 0, none⟩)) (((((W.setCell ⟨q, 0, none⟩ (.int .i64 N)).setCell ⟨q, 1, none⟩ (.int .i64 S)).setCell ⟨q, 2, none⟩ (.int .i64 T)).setCell ⟨q, 3, none⟩ (.slice (some ⟨a1, 0, none⟩) n c1)).alloc (.cells #[.int .i64 N, .int .i64 S, .int .i64 T, .slice (some ⟨a2, 0, none⟩) n c2] 24)) :=
  ⟨_, _, _, _, _, _, rfl, rfl, (Q.set4 _ _ _ _).alloc _, Blk.new (by simp only [setCell_size]), (own_far4 o1 Q (by decide) _ _ _ _).alloc _, (own_far4 o2 Q (by decide) _ _ _ _).alloc _, ha, by have := Q.lt; omega, hq, P.size, below_more (below_set4 P hq _ _ _ _) _⟩
theorem twoF2' {q : Nat} (Q : Blk W q 24 #[.int .i64 0, .int .i64 0, .int .i64 0, .slice none 0 0]) (hq : w0.heap.size ≤ q) (P : Below w0.heap.size w0 W) (o1 : W.ownsRow w0.heap.size 31 3 (.slice (some ⟨a1, 0, none⟩) n c1) n (l.flatMap arcCells)) (o2 : W.ownsRow w0.heap.size 31 3 (.slice (some ⟨a2, 0, none⟩) n c2) n (l.flatMap arcCells)) (ha : a1 ≠ a2) : TwoNets w0 N S T l n (.pointer (some ⟨W.heap.size, 0, none⟩)) (.pointer (some ⟨q, 0, none⟩)) (((((W.setCell ⟨q, 0, none⟩ (.int .i64 N)).setCell ⟨q, 1, none⟩ (.int .i64 S)).setCell ⟨q, 2, none⟩ (.int .i64 T)).setCell ⟨q, 3, none⟩ (.slice (some ⟨a2, 0, none⟩) n c2)).alloc (.cells #[.int .i64 N, .int .i64 S, .int .i64 T, .slice (some ⟨a1, 0, none⟩) n c1] 24)) :=
  ⟨_, _, _, _, _, _, rfl, rfl, Blk.new (by simp only [setCell_size]), (Q.set4 _ _ _ _).alloc _, (own_far4 o1 Q (by decide) _ _ _ _).alloc _, (own_far4 o2 Q (by decide) _ _ _ _).alloc _, ha, by have := Q.lt; omega, P.size, hq, below_more (below_set4 P hq _ _ _ _) _⟩
theorem twoF3 {q r : Nat} (Q : Blk W q 24 #[.int .i64 0, .int .i64 0, .int .i64 0, .slice none 0 0]) (R : Blk W r 24 #[.int .i64 0, .int .i64 0, .int .i64 0, .slice none 0 0]) (hq : w0.heap.size ≤ q) (hr : w0.heap.size ≤ r) (hne : q ≠ r) (P : Below w0.heap.size w0 W) (o1 : W.ownsRow w0.heap.size 31 3 (.slice (some ⟨a1, 0, none⟩) n c1) n (l.flatMap arcCells)) (o2 : W.ownsRow w0.heap.size 31 3 (.slice (some ⟨a2, 0, none⟩) n c2) n (l.flatMap arcCells)) (ha : a1 ≠ a2) : TwoNets w0 N S T l n (.pointer (some ⟨q, 0, none⟩)) (.pointer (some ⟨r, 0, none⟩)) ((((((((W.setCell ⟨q, 0, none⟩ (.int .i64 N)).setCell ⟨q, 1, none⟩ (.int .i64 S)).setCell ⟨q, 2, none⟩ (.int .i64 T)).setCell ⟨q, 3, none⟩ (.slice (some ⟨a1, 0, none⟩) n c1)).setCell ⟨r, 0, none⟩ (.int .i64 N)).setCell ⟨r, 1, none⟩ (.int .i64 S)).setCell ⟨r, 2, none⟩ (.int .i64 T)).setCell ⟨r, 3, none⟩ (.slice (some ⟨a2, 0, none⟩) n c2)) :=
  ⟨_, _, _, _, _, _, rfl, rfl, (Q.set4 _ _ _ _).far4 hne _ _ _ _, (R.far4 (Ne.symm hne) _ _ _ _).set4 _ _ _ _, own_far4 (own_far4 o1 Q (by decide) _ _ _ _) (R.far4 (Ne.symm hne) _ _ _ _) (by decide) _ _ _ _, own_far4 (own_far4 o2 Q (by decide) _ _ _ _) (R.far4 (Ne.symm hne) _ _ _ _) (by decide) _ _ _ _, ha, hne, hq, hr, below_set4 (below_set4 P hq _ _ _ _) hr _ _ _ _⟩
end

/-- One of the copies is changed, the other one is not. -/
def OneTurned (w0 : World) (N S T : Int) (l : List ArcN) (n g7 g8 a2 c2 : Nat) (wx : World) : Prop :=
  ∃ (N' S' T' : Int) (A' : Option Addr) (n' c' : Nat) (l' : List ArcN), Blk wx g7 24 #[.int .i64 N', .int .i64 S', .int .i64 T', .slice A' n' c'] ∧ Arcs wx wx.heap.size A' n' l' ∧ n' ≤ 1000 ∧
    Blk wx g8 24 #[.int .i64 N, .int .i64 S, .int .i64 T, .slice (some ⟨a2, 0, none⟩) n c2] ∧ Arcs wx wx.heap.size (some ⟨a2, 0, none⟩) n l ∧ Below w0.heap.size w0 wx ∧ sameB N' S' T' l' N S T l = false

theorem far_ne {a1 a2 : Nat} (h : a1 ≠ a2) : ∀ g, some (⟨a2, 0, none⟩ : Addr) = some ⟨g, 0, none⟩ → g ≠ a1 := by
  intro g e
  injection e with e
  injection e with e
  omega
theorem wrap_ne {x : Int} (h : InR x) : wrap64 (x + 1) ≠ x := by
  obtain ⟨h1, h2⟩ := h
  unfold wrap64
  omega
theorem same_ne1 {N S T x : Int} {l : List ArcN} (h : x ≠ N) : sameB x S T l N S T l = false := by simp [sameB, h]
theorem same_ne2 {N S T x : Int} {l : List ArcN} (h : x ≠ S) : sameB N x T l N S T l = false := by simp [sameB, h]
theorem same_ne3 {N S T x : Int} {l : List ArcN} (h : x ≠ T) : sameB N S x l N S T l = false := by simp [sameB, h]
theorem same_ne4 {N S T : Int} {l r : List ArcN} (h : r ≠ l) : sameB N S T r N S T l = false := by simp [sameB, h]
theorem same_comm (N S T : Int) (l : List ArcN) (N' S' T' : Int) (r : List ArcN) : sameB N S T l N' S' T' r = sameB N' S' T' r N S T l := by
  unfold sameB
  rw [decide_eq_decide]
  exact ⟨fun ⟨a, b, c, d⟩ => ⟨a.symm, b.symm, c.symm, d.symm⟩, fun ⟨a, b, c, d⟩ => ⟨a.symm, b.symm, c.symm, d.symm⟩⟩
theorem set_ne {l : List ArcN} {k : Nat} {a b : ArcN} (h : l[k]? = some a) (hne : b ≠ a) : l.set k b ≠ l := by
  intro e
  have hk := (List.getElem?_eq_some_iff.1 h).1
  have := congrArg (fun (m : List ArcN) => m[k]?) e
  simp [hk] at this
  obtain ⟨_, e2⟩ := List.getElem?_eq_some_iff.1 h
  exact hne (by rw [this, e2])
theorem arcs_setOne (j : Nat) (hj : j < 3) : ∀ (L : List ArcN) (k : Nat) (b : ArcN) (x : Int), L[k]? = some b → (L.flatMap arcCells).set (k * 3 + j) (.int .i64 x) = (L.set k (if j = 0 then ⟨x, b.to, b.cap⟩ else if j = 1 then ⟨b.frm, x, b.cap⟩ else ⟨b.frm, b.to, x⟩)).flatMap arcCells
  | [], k, b, x, h => by simp at h
  | a :: r, 0, b, x, h => by
    simp at h
    subst h
    have : j = 0 ∨ j = 1 ∨ j = 2 := by omega
    rcases this with rfl | rfl | rfl <;> simp [arcCells]
  | a :: r, k + 1, b, x, h => by
    have ih := arcs_setOne j hj r k b x (by simpa using h)
    simp only [List.set_cons_succ, List.flatMap_cons, ← ih]
    rw [show (k + 1) * 3 = (arcCells a).length + k * 3 from by simp [arcCells]; omega, Nat.add_assoc, set_app]

set_option maxRecDepth 100000 in
set_option maxHeartbeats 4000000 in
theorem copies_two (N S T : Int) (A : Option Addr) (n c : Nat) (l : List ArcN) (at_ which : Nat) (w : World) (hA : Arcs w w.heap.size A n l) (h0 : 0 < n) (h1 : n ≤ 200) (hw8 : which ≤ 255) (hat : at_ ≤ 255) (hN : InR N) (hS : InR S) (hT : InR T) (hF : FitsAll l) :
    Calls Try.prog 7 #[.agg #[.int .i64 N, .int .i64 S, .int .i64 T, .slice A n c], .int .u8 at_, .int .u8 which] w fun e w' => e = .returned (.bool true) ∧ Below w.heap.size w w' := by
  have i0 : ((n : Int) == 0) = false := by simp; omega
  go_enter Try.func7, Try.ntmps7
  go_upto_region 3 with fail
  generalize hw0 : w.alloc (.cells #[.int .i64 N, .int .i64 S, .int .i64 T, .slice A n c] 24) = w0
  have a0 : Arcs w0 w0.heap.size A n l := by rw [← hw0]; exact hA.onAlloc _
  have K0 : Blk w0 w.heap.size 24 #[.int .i64 N, .int .i64 S, .int .i64 T, .slice A n c] := by rw [← hw0]; exact Blk.new rfl
  have B0 : Below w.heap.size w w0 := by rw [← hw0]; exact below_alloc _
  have z0 : w.heap.size < w0.heap.size := K0.lt
  clear hw0
  go_cut [7, 8] (fun s7 s8 wx => TwoNets w0 N S T l n s7 s8 wx)
  case first =>
    have HR := Lib.hid (fun (W : World) (hb : Below w0.heap.size w0 W) => a0.on hb)
    clear a0
    obtain ⟨k0, k1, k2, k3⟩ := K0.at4
    have P0 : Below w0.heap.size w0 w0 := Below.refl _ _
    have tok1 : True := trivial
    go_region_held3 (fun W => W.cell? ⟨w.heap.size, 0, none⟩ = some (.int .i64 N) ∧ W.cell? ⟨w.heap.size, 1, none⟩ = some (.int .i64 S) ∧ W.cell? ⟨w.heap.size, 2, none⟩ = some (.int .i64 T) ∧ W.cell? ⟨w.heap.size, 3, none⟩ = some (.slice A n c))
      (exact (K0.below (by repeat (first | with_reducible exact P0 | with_reducible refine Below.drew ?_ | with_reducible refine below_more ?_ _ | with_reducible refine Below.setCell ?_ (by dsimp only; omega) _)) K0.lt).at4)
      (first
        | (go_at_call 9; have _t := tok1; ((with_reducible refine (copy_any _ _ _ _ _ _ l _ (HR.out _ (by repeat (first | with_reducible exact P0 | with_reducible refine Below.drew ?_ | with_reducible refine below_more ?_ _))) (by omega)).mono ?_); rintro e W4 ⟨A4, n4, c4, rfl, o4, l4, B4⟩; have P1 : Below w0.heap.size w0 W4 := below_step (by repeat (first | with_reducible exact P0 | with_reducible refine Below.drew ?_ | with_reducible refine below_more ?_ _)) B4; replace P0 := P1; clear P1 tok1 _t; have hz8 := P0.size; have HO4 := Lib.hid o4; have HL4 := Lib.hid l4; clear o4 l4; (try (have QA := blk_on (g := w0.heap.size) (t := 24) (cs := #[.int .i64 0, .int .i64 0, .int .i64 0, .slice none 0 0]) (by first | exact Blk.new1.drew | exact (Blk.new1.alloc _).drew) B4; obtain ⟨_, _, _, _, _, _, _, _, _⟩ := QA.pack)); (try (have QB := blk_on (g := w0.heap.size + 1) (t := 24) (cs := #[.int .i64 0, .int .i64 0, .int .i64 0, .slice none 0 0]) (by exact Blk.new2.drew) B4; obtain ⟨_, _, _, _, _, _, _, _, _⟩ := QB.pack))))
        | (go_at_call 9; ((with_reducible refine (copy_any _ _ _ _ _ _ l _ (HR.out _ (by repeat (first | with_reducible exact P0 | with_reducible refine Below.drew ?_ | with_reducible refine below_more ?_ _))) (by omega)).mono ?_); rintro e W5 ⟨A5, n5, c5, rfl, o5, l5, B5⟩; have P1 : Below w0.heap.size w0 W5 := below_step (by repeat (first | with_reducible exact P0 | with_reducible refine Below.drew ?_ | with_reducible refine below_more ?_ _)) B5; replace P0 := P1; clear P1; have hz9 := P0.size; have HO5 := Lib.hid o5; have HL5 := Lib.hid l5; clear o5 l5; have o45 := own_on (A := A4) (by first | exact HO4.out | exact HO4.out.alloc _ | exact (HO4.out.alloc _).alloc _) B5; have HO45 := Lib.hid o45; clear o45; (try (have QA2 := blk_on (g := w0.heap.size) (t := 24) (cs := #[.int .i64 0, .int .i64 0, .int .i64 0, .slice none 0 0]) (by first | exact QA | exact QA.alloc _ | exact (QA.alloc _).alloc _) B5; obtain ⟨_, _, _, _, _, _, _, _, _⟩ := QA2.pack)); (try (have QB2 := blk_on (g := w0.heap.size + 1) (t := 24) (cs := #[.int .i64 0, .int .i64 0, .int .i64 0, .slice none 0 0]) (by first | exact QB | exact QB.alloc _ | exact (QB.alloc _).alloc _) B5; obtain ⟨_, _, _, _, _, _, _, _, _⟩ := QB2.pack)); (try (have QC2 := blk_on (g := W4.heap.size) (t := 24) (cs := #[.int .i64 0, .int .i64 0, .int .i64 0, .slice none 0 0]) (by first | exact Blk.new1 | exact Blk.new1.alloc _) B5; obtain ⟨_, _, _, _, _, _, _, _, _⟩ := QC2.pack)); (try (have QD2 := blk_on (g := W4.heap.size + 1) (t := 24) (cs := #[.int .i64 0, .int .i64 0, .int .i64 0, .slice none 0 0]) (by exact Blk.new2) B5; obtain ⟨_, _, _, _, _, _, _, _, _⟩ := QD2.pack)))))
    all_goals
      go_wp2_with fail
      go_meet
      have e4 := hA.len.symm.trans HL4.out
      have e5 := hA.len.symm.trans HL5.out
      subst e4
      subst e5
      obtain ⟨a1, rfl, ha1, ha1'⟩ := own_form HO4.out h0
      obtain ⟨a2, rfl, ha2, ha2'⟩ := own_form HO5.out h0
      have o1 := own_less (base' := w0.heap.size) HO45.out (by first | exact Nat.le_refl _ | (simp; done) | (simp; omega))
      have o2 := own_less (base' := w0.heap.size) HO5.out (by first | omega | (simp; omega))
      have hne : a1 ≠ a2 := by
        (try simp at ha2)
        omega
      first
        | with_reducible exact twoF1 P0 o1 o2 hne
        | with_reducible exact twoF1' P0 o1 o2 hne
        | ((with_reducible refine twoF2 QA2 ?_ P0 o1 o2 hne) <;> omega)
        | ((with_reducible refine twoF2' QA2 ?_ P0 o1 o2 hne) <;> omega)
        | ((with_reducible refine twoF2 QC2 ?_ P0 o1 o2 hne) <;> omega)
        | ((with_reducible refine twoF2' QC2 ?_ P0 o1 o2 hne) <;> omega)
        | ((with_reducible refine twoF3 QA2 QB2 ?_ ?_ ?_ P0 o1 o2 hne) <;> omega)
        | ((with_reducible refine twoF3 QB2 QA2 ?_ ?_ ?_ P0 o1 o2 hne) <;> omega)
        | ((with_reducible refine twoF3 QA2 QC2 ?_ ?_ ?_ P0 o1 o2 hne) <;> omega)
        | ((with_reducible refine twoF3 QC2 QA2 ?_ ?_ ?_ P0 o1 o2 hne) <;> omega)
        | ((with_reducible refine twoF3 QC2 QD2 ?_ ?_ ?_ P0 o1 o2 hne) <;> omega)
        | ((with_reducible refine twoF3 QD2 QC2 ?_ ?_ ?_ P0 o1 o2 hne) <;> omega)
  case rest =>
    obtain ⟨g7, g8, a1, c1, a2, c2, rfl, rfl, K7, K8, o1, o2, hne, hgg, hl7, hl8, BB⟩ := hcut
    have KB := K0.below BB K0.lt
    obtain ⟨p0, p1, p2, p3⟩ := KB.at4
    obtain ⟨q0, q1, q2, q3⟩ := K7.at4
    obtain ⟨r0, r1, r2, r3⟩ := K7.free4
    have zw : w.heap.size < wc.heap.size := KB.lt
    have n70 : ¬ g7 = w.heap.size := by omega
    have hnz : ((n : Int) == 0) = false := by simp; omega
    have hne7 := own_ne o1 K7 (by decide) a1 rfl
    have hne8 := own_ne o1 K8 (by decide) a1 rfl
    have ek : ((at_ : Int) % (n : Int)) = ((at_ % n : Nat) : Int) := by omega
    have EK := Lib.hid ek
    clear ek
    have hO1 := Lib.hid o1; have hO2 := Lib.hid o2
    clear o1 o2
    go_upto_block 0 with fail
    rw [EK.out]
    have hkn : at_ % n < n := Nat.mod_lt _ h0
    generalize at_ % n = k at hkn
    clear EK
    have ha1 : w0.heap.size ≤ a1 := by obtain ⟨g, e, h, _⟩ := own_form hO1.out h0; injection e with e; injection e with e; omega
    obtain ⟨ar, hak, x0, x1, x2, e0, e1, e2⟩ := own_cells3 hO1.out hA.len hkn
    have HAK := Lib.hid hak
    have n7a : ¬ g7 = a1 := by omega
    obtain ⟨i1, hi1, hj0, hj1, hj2⟩ := info_parts arc_info
    have HI1 := Lib.hid hi1; have HZ0 := Lib.hid hj0; have HZ1 := Lib.hid hj1; have HZ2 := Lib.hid hj2
    clear hi1 hj0 hj1 hj2 hak
    go_cut [39, 46] (fun _ _ wx => OneTurned w0 N S T l n g7 g8 a2 c2 wx)
    case first =>
      have hak := HAK.out
      have HK := Lib.hid hak
      clear hak
      have hw7 : (which : Int) % 7 = 0 ∨ (which : Int) % 7 = 1 ∨ (which : Int) % 7 = 2 ∨ (which : Int) % 7 = 3 ∨ (which : Int) % 7 = 4 ∨ (which : Int) % 7 = 5 ∨ (which : Int) % 7 = 6 := by omega
      rcases hw7 with h7 | h7 | h7 | h7 | h7 | h7 | h7
      · go_wp2_with fail
        go_meet
        refine ⟨wrap64 (N + 1), S, T, some ⟨a1, 0, none⟩, n, c1, l, ?_, arcs_own (own_far hO1.out (own_ne hO1.out K7 (by decide)) _) hA.len, by omega, K8.far (Ne.symm hgg) _, arcs_own (own_far hO2.out (own_ne hO2.out K7 (by decide)) _) hA.len, BB.setCell hl7 _, same_ne1 (wrap_ne hN)⟩
        have := K7.set 0 (.int .i64 (wrap64 (N + 1)))
        simpa using this
      · go_wp2_with fail
        go_meet
        refine ⟨N, wrap64 (S + 1), T, some ⟨a1, 0, none⟩, n, c1, l, ?_, arcs_own (own_far hO1.out (own_ne hO1.out K7 (by decide)) _) hA.len, by omega, K8.far (Ne.symm hgg) _, arcs_own (own_far hO2.out (own_ne hO2.out K7 (by decide)) _) hA.len, BB.setCell hl7 _, same_ne2 (wrap_ne hS)⟩
        have := K7.set 1 (.int .i64 (wrap64 (S + 1)))
        simpa using this
      · go_wp2_with fail
        go_meet
        refine ⟨N, S, wrap64 (T + 1), some ⟨a1, 0, none⟩, n, c1, l, ?_, arcs_own (own_far hO1.out (own_ne hO1.out K7 (by decide)) _) hA.len, by omega, K8.far (Ne.symm hgg) _, arcs_own (own_far hO2.out (own_ne hO2.out K7 (by decide)) _) hA.len, BB.setCell hl7 _, same_ne3 (wrap_ne hT)⟩
        have := K7.set 2 (.int .i64 (wrap64 (T + 1)))
        simpa using this
      · go_wp2_with fail
        go_meet
        have hak := HK.out
        have hset := arcs_setOne 0 (by omega) l k ar (wrap64 (ar.frm + 1)) hak
        simp at hset
        have hown := (hO1.out.stored (k * 3) (.int .i64 (wrap64 (ar.frm + 1)))).1
        rw [hset] at hown
        exact ⟨N, S, T, some ⟨a1, 0, none⟩, n, c1, _, K7.far (Ne.symm hne7) _, arcs_own hown (by simpa using hA.len), by omega, K8.far (Ne.symm hne8) _, arcs_own (own_far hO2.out (far_ne hne) _) hA.len, BB.setCell ha1 _, same_ne4 (set_ne hak (fun e => wrap_ne (hF _ (mem_at hak)).1 (congrArg ArcN.frm e)))⟩
      · go_wp2_with fail
        go_meet
        have hak := HK.out
        have hset := arcs_setOne 1 (by omega) l k ar (wrap64 (ar.to + 1)) hak
        simp at hset
        have hown := (hO1.out.stored (k * 3 + 1) (.int .i64 (wrap64 (ar.to + 1)))).1
        rw [hset] at hown
        exact ⟨N, S, T, some ⟨a1, 0, none⟩, n, c1, _, K7.far (Ne.symm hne7) _, arcs_own hown (by simpa using hA.len), by omega, K8.far (Ne.symm hne8) _, arcs_own (own_far hO2.out (far_ne hne) _) hA.len, BB.setCell ha1 _, same_ne4 (set_ne hak (fun e => wrap_ne (hF _ (mem_at hak)).2.1 (congrArg ArcN.to e)))⟩
      · go_wp2_with fail
        go_meet
        have hak := HK.out
        have hset := arcs_setOne 2 (by omega) l k ar (wrap64 (ar.cap + 1)) hak
        simp at hset
        have hown := (hO1.out.stored (k * 3 + 2) (.int .i64 (wrap64 (ar.cap + 1)))).1
        rw [hset] at hown
        exact ⟨N, S, T, some ⟨a1, 0, none⟩, n, c1, _, K7.far (Ne.symm hne7) _, arcs_own hown (by simpa using hA.len), by omega, K8.far (Ne.symm hne8) _, arcs_own (own_far hO2.out (far_ne hne) _) hA.len, BB.setCell ha1 _, same_ne4 (set_ne hak (fun e => wrap_ne (hF _ (mem_at hak)).2.2 (congrArg ArcN.cap e)))⟩
      · go_wp2_with (at_builtin; refine wpList_append_row _ rfl (.tmp 41) (.tmp 43) _ rfl w0.heap.size 31 i1 _ 3 24 Try.underlying22 HI1.out HZ0.out HZ1.out HZ2.out rfl (by omega) (some ⟨a1, 0, none⟩) n c1 _ rfl (hO1.out.alloc _) (some ⟨wc.heap.size, 0, none⟩) 1 1 ([⟨0, 0, 0⟩].flatMap arcCells) rfl rfl ?_ arc_one ?_ ?_ ?_ ?_)
        · intro _
          refine ⟨_, rfl, fun j u hu => ?_⟩
          rw [addr_add, Nat.zero_add]
          exact ((Blk.new rfl : Blk (wc.alloc _) wc.heap.size 31 #[.int .i64 0, .int .i64 0, .int .i64 0]).cell j).trans (by simpa [arcCells] using hu)
        · unfold maxLen; omega
        · omega
        · simp; have := BB.size; omega
        · intro A5 c5 w5 HO5 hg5 HX5
          have K75 := (K7.alloc _).grownO hg5 (hO1.out.alloc _) (by decide)
          have K85 := (K8.alloc _).grownO hg5 (hO1.out.alloc _) (by decide)
          have O25 := (hO2.out.alloc (.cells #[.int .i64 0, .int .i64 0, .int .i64 0] 31)).kept hg5 (.inr (by simp [Value.ownBlock]; omega))
          have B5 := below_grown (below_more BB _) hg5 (hO1.out.alloc _) (Nat.le_refl _) (by simp; have := BB.size; omega)
          have hrow : w5.ownsRow w0.heap.size 31 3 (.slice A5 (n + 1) c5) (n + 1) ((l ++ [(⟨0, 0, 0⟩ : ArcN)]).flatMap arcCells) := by
            rw [List.flatMap_append]
            simpa using HO5.out
          obtain ⟨s0, s1, s2, s3⟩ := K75.at4
          obtain ⟨_, _, _, f3⟩ := K75.free4
          have HRW := Lib.hid hrow; have HO25 := Lib.hid O25
          clear hrow O25 HO5 hg5 HX5
          go_wp2_with fail
          go_meet
          refine ⟨N, S, T, A5, n + 1, c5, _, ?_, arcs_own (own_far HRW.out (own_ne HRW.out K75 (by decide)) _) (by simpa using hA.len), by omega, K85.far (Ne.symm hgg) _, arcs_own (own_far HO25.out (own_ne HO25.out K75 (by decide)) _) hA.len, B5.setCell hl7 _, same_ne4 (fun e => ?_)⟩
          · have := K75.set 3 (.slice A5 (n + 1) c5)
            simpa using this
          · have := congrArg List.length e
            simp at this
    case rest =>
      obtain ⟨N', S', T', A', n', c', l', L7, b7, hn', L8, b8, BC, hsame⟩ := hcut
      clear p0 p1 p2 p3 q0 q1 q2 q3 r0 r1 r2 r3 x0 x1 x2 e0 e1 e2 KB K7 K8 BB hO1 hO2
      have KC := K0.below BC K0.lt
      have a3 := a0.on BC
      obtain ⟨p0, p1, p2, p3⟩ := L7.at4
      obtain ⟨q0, q1, q2, q3⟩ := L8.at4
      go_wp2_with fail
      refine (same_is _ _ b7 b8 (by omega) (by omega) hsame).mono ?_
      rintro e w6 ⟨rfl, B6⟩
      have M7 := L7.below B6 L7.lt
      have M8 := L8.below B6 L8.lt
      have KD := KC.below B6 KC.lt
      have d7 := b7.on B6
      have d8 := b8.on B6
      have d3 := a3.on B6
      have BD := below_step BC B6
      clear p0 p1 p2 p3 q0 q1 q2 q3 L7 L8 KC b7 b8 a3 BC B6
      obtain ⟨p0, p1, p2, p3⟩ := M7.at4
      obtain ⟨q0, q1, q2, q3⟩ := M8.at4
      go_wp2_with fail
      refine (same_is _ _ d8 d7 (by omega) (by omega) ((same_comm _ _ _ _ _ _ _ _).trans hsame)).mono ?_
      rintro e w7 ⟨rfl, B7⟩
      have P8 := M8.below B7 M8.lt
      have KE := KD.below B7 KD.lt
      have f8 := d8.on B7
      have f3 := d3.on B7
      have BE := below_step BD B7
      clear p0 p1 p2 p3 q0 q1 q2 q3 M7 M8 KD d7 d8 d3 BD B7
      obtain ⟨p0, p1, p2, p3⟩ := KE.at4
      obtain ⟨q0, q1, q2, q3⟩ := P8.at4
      go_wp2_with fail
      refine (same_is _ _ f8 f3 (by omega) (by omega) (same_refl _ _ _ _)).mono ?_
      rintro e w8 ⟨rfl, B8⟩
      have BF := below_step BE B8
      clear p0 p1 p2 p3 q0 q1 q2 q3
      go_wp2_with fail
      refine (awake_any _).mono ?_
      rintro e w9 ⟨rfl, B9⟩
      have BG := below_step BF B9
      go_wp2_with fail
      go_ret
      exact ⟨rfl, below_step B0 BG⟩

end Go.Proofs.Ytfdidjgecdhaiaa
