/- Layer 7: rows of a call's own: laid new, moved, returned. Layer 7: structs of three stored. -/
import Derived.Test.YtgjokddcaadjdaaMovo
/-! Hxf -/
namespace Go.Proofs.Ytgjokddcaadjdaa
open Go.RowKit Go.Shelf
set_option maxRecDepth 100000

section
variable {w w' w0 : World} {base : Nat} {rs : List Rw}
/-- A row laid new in the place of another one. -/
theorem Hx.fresh {t : TypeId} {A : Option Addr} {n c i : Nat} {xs : List Value} {r : Rw} (h : Hx w0 w base rs) (hr : rs[i]? = some r) (hb : Below w.heap.size w w') (ho : w'.ownsRow w.heap.size t 1 (.slice A n c) n xs) : Hx w0 w' base (rs.set i ⟨t, A, n, c, xs⟩) := by
  have h2 := h.on hb
  have hi := (List.getElem?_eq_some_iff.1 hr).1
  have hlt : ∀ (k : Nat) (r : Rw), rs[k]? = some r → ∀ g, r.v.ownBlock = some g → g < w.heap.size := fun k r hk g hg => ((h.held.own k r hk).lt g hg).2
  have hge : ∀ g, (Value.slice A n c).ownBlock = some g → w.heap.size ≤ g := fun g hg => (ho.lt g hg).1
  have key : ∀ (k : Nat) (r : Rw), (rs.set i (⟨t, A, n, c, xs⟩ : Rw))[k]? = some r → (k ≠ i ∧ rs[k]? = some r) ∨ (r = ⟨t, A, n, c, xs⟩ ∧ k = i) := by
    intro k r hk
    by_cases e : k = i
    · subst e
      rw [List.getElem?_set_self hi] at hk
      injection hk with hk
      exact .inr ⟨hk.symm, rfl⟩
    · rw [List.getElem?_set_ne (fun e' => e e'.symm)] at hk
      exact .inl ⟨e, hk⟩
  refine ⟨⟨fun k r hk => ?_, fun k l r s hkl hk hl g hg e => ?_⟩, h2.bas, h2.bel⟩
  · rcases key k r hk with ⟨_, hk⟩ | ⟨rfl, _⟩
    · exact h2.held.own k r hk
    · exact own_base ho h.bas
  · rcases key k r hk with ⟨_, hk⟩ | ⟨rfl, h1⟩
    · rcases key l s hl with ⟨_, hl⟩ | ⟨rfl, h3⟩
      · exact h.held.ne k l r s hkl hk hl g hg e
      · have := hlt k r hk g hg
        have := hge g e
        omega
    · rcases key l s hl with ⟨_, hl⟩ | ⟨rfl, h3⟩
      · have := hlt l s hl g e
        have := hge g hg
        omega
      · omega
theorem Hx.far (h : Hx w0 w base rs) {g : Nat} {t : TypeId} {cs : Array Value} (hk : Blk w g t cs) (ht : ∀ r ∈ rs, r.t ≠ t) (hb : base ≤ g) (i : Nat) (u : Value) : Hx w0 (w.setCell ⟨g, i, none⟩ u) base rs :=
  ⟨h.held.far hk ht i u, by simpa using h.bas, h.bel.setCell hb u⟩
theorem own_zeros (N : Nat) (t : TypeId) (W : World) (hN : N ≤ maxLen) : (W.alloc (.cells (ivs (List.replicate N 0)) t)).ownsRow W.heap.size t 1 (.slice (some ⟨W.heap.size, 0, none⟩) N N) N (lvs (List.replicate N 0)) := by
  exact own_of_block (World.alloc_heap_new W _) (Nat.le_refl _) hN (by simp)
end
/-- The first state's struct laid. -/
theorem beg_put {w0 w : World} {base gP AX cX AE cE AH cH : _} {M N : Nat} {X E H : List Int} {x y z : Value} (h : Hx w0 w base (pstR M N N ⟨AX, cX, AE, cE, AH, cH⟩ X E H)) (hb : base ≤ gP) (hp : Blk w gP 29 #[x, y, z]) :
    Hx w0 (((w.setCell ⟨gP, 0, none⟩ (.slice AX M cX)).setCell ⟨gP, 1, none⟩ (.slice AE N cE)).setCell ⟨gP, 2, none⟩ (.slice AH N cH)) base (pstR M N N ⟨AX, cX, AE, cE, AH, cH⟩ X E H) ∧
      Blk (((w.setCell ⟨gP, 0, none⟩ (.slice AX M cX)).setCell ⟨gP, 1, none⟩ (.slice AE N cE)).setCell ⟨gP, 2, none⟩ (.slice AH N cH)) gP 29 #[.slice AX M cX, .slice AE N cE, .slice AH N cH] := by
  have ht : ∀ r ∈ pstR M N N ⟨AX, cX, AE, cE, AH, cH⟩ X E H, r.t ≠ 29 := by
    intro r hr
    simp only [pstR, List.mem_cons, List.not_mem_nil, or_false] at hr
    rcases hr with rfl | rfl | rfl
    · exact (show (2 : TypeId) ≠ 29 by decide)
    · exact (show (2 : TypeId) ≠ 29 by decide)
    · exact (show (3 : TypeId) ≠ 29 by decide)
  exact ⟨((h.far hp ht hb 0 _).far (hp.set 0 _) ht hb 1 _).far ((hp.set 0 _).set 1 _) ht hb 2 _, ((hp.set 0 _).set 1 _).set 2 _⟩

/-- Rows below the loop's blocks. -/
def HxB (w0 : World) (base B : Nat) (rs : List Rw) (W : World) : Prop := Hx w0 W base rs ∧ (∀ r ∈ rs, ∀ g, r.v.ownBlock = some g → g < B) ∧ base ≤ B
theorem hxB_own {β : Type} {w0 : World} {base B : Nat} (f : β → List Rw) : OwnFrom B (fun s W => HxB w0 base B (f s) W) := fun s W W' row hs hg hr => by
  obtain ⟨h, hlt, hb⟩ := hs
  refine ⟨⟨h.held.grown hg fun g e i r hi e' => ?_, Nat.le_trans h.bas hg.size, h.bel.grown hg h.bas fun k e => ?_⟩, hlt, hb⟩
  · have := hlt r (List.mem_of_getElem? hi) g e'
    have := (hr g e).1
    omega
  · have := (hr k e).1
    omega
theorem hx_lt {w0 w : World} {base : Nat} {rs : List Rw} (h : Hx w0 w base rs) : ∀ r ∈ rs, ∀ g, r.v.ownBlock = some g → base ≤ g ∧ g < w.heap.size := fun r hr g hg => by
  obtain ⟨i, hi⟩ := List.getElem?_of_mem hr
  exact (h.held.own i r hi).lt g hg
theorem own_some {w : World} {base n c : Nat} {A : Option Addr} {t : TypeId} {xs : List Value} (h : w.ownsRow base t 1 (.slice A n c) n xs) (hn : 0 < n) : ∃ g, A = some ⟨g, 0, none⟩ := by
  rcases h.2 with ⟨h0, _⟩ | ⟨g', cap, cur, hv, _⟩
  · injection h0 with _ h1
    omega
  · injection hv with hA
    exact ⟨g', hA⟩

/-- What a move does stays within the numbers. -/
theorem move_fit {N M s t : Nat} {fst hd rv ai : Nat → Nat} {cp : Nat → Int} {bk : Nat → Bool} {X E : List Int} (hG : PNet N M s t fst hd rv ai cp bk) (hb : Bal M rv cp X) (hE : E.length = N) (hx : ∀ v, v < N → hOf E v = exT M hd rv cp X v)
    {a : Nat} (ha : a < M) {d : Int} (h0 : 0 ≤ d) (h1 : d ≤ hOf X a) : InR (hOf X a - d) ∧ InR (hOf X (rv a) + d) ∧ InR (hOf E (hd (rv a)) - d) ∧ InR (hOf E (hd a) + d) := by
  have hr := hG.g.rvl a ha
  have b1 := hb.le hG ha
  have hb' := bal_mv hb hG ha h0 h1
  have b2 := hb'.le hG hr
  have e2 := mvX_at hG hb.1 ha d (rv a)
  rw [if_neg (hG.rne ha), if_pos rfl] at e2
  rw [e2] at b2
  have hx' := exc_mv hb.1 hE hG hx ha d
  have b3 := hG.big _ hb' _ (hG.mN ha)
  have b4 := hG.big _ hb' _ (hG.g.hdl a ha)
  rw [← hx' _ (hG.mN ha), mvE_at hG hE ha, if_neg (hG.nol a ha), if_pos rfl] at b3
  rw [← hx' _ (hG.g.hdl a ha), mvE_at hG hE ha, if_pos rfl, if_neg (fun e => hG.nol a ha e.symm)] at b4
  unfold maxSum at *
  unfold InR
  omega
/-- A block of another type lies elsewhere. -/
theorem own_apart {w : World} {base n c g gP : Nat} {t tp : TypeId} {xs : List Value} {cs : Array Value} (h : w.ownsRow base t 1 (.slice (some ⟨g, 0, none⟩) n c) n xs) (hp : Blk w gP tp cs) (ht : t ≠ tp) : gP ≠ g := fun e => by
  obtain ⟨cur, hk⟩ := own_blk h
  subst e
  have h2 := hk.symm.trans hp
  injection h2 with h2
  injection h2 with _ h3
  exact ht h3
/-- The call returned this state, a number and an error. -/
def RetPush (d c : Int) (X E H : List Int) (w : World) (e : Ending) (w' : World) : Prop := ∃ Q, e = .returned (.tuple #[preW X.length E.length H.length Q, .int .i64 d, .int .i64 c]) ∧ Hx w w' w.heap.size (pstR X.length E.length H.length Q X E H)
/-- The call returned this state and an error. -/
def RetLift (c : Int) (X E H : List Int) (w : World) (e : Ending) (w' : World) : Prop := ∃ Q, e = .returned (.tuple #[preW X.length E.length H.length Q, .int .i64 c]) ∧ Hx w w' w.heap.size (pstR X.length E.length H.length Q X E H)
theorem nil_st {w w' : World} {base : Nat} (h : Below base w w') (hb : base ≤ w'.heap.size) : Hx w w' base (pstR 0 0 0 ⟨none, 0, none, 0, none, 0⟩ [] [] []) := by
  have h0 : Hx w w' base [] := ⟨⟨fun i r hi => by simp at hi, fun i j r s _ hi => by simp at hi⟩, hb, h⟩
  exact ((h0.nil 2).nil 2).nil 3

end Go.Proofs.Ytgjokddcaadjdaa

/-! Hxg -/
namespace Go.Proofs.Ytgjokddcaadjdaa
open Go.RowKit Go.Shelf
set_option maxRecDepth 100000

theorem Blk.full3 {w : World} {g : Nat} {t : TypeId} {x y z : Value} (h : Blk w g t #[x, y, z]) : (w.cell? ⟨g, 0, none⟩ = some x ∧ w.cell? ⟨g, 1, none⟩ = some y ∧ w.cell? ⟨g, 2, none⟩ = some z) ∧ (w.frozen? ⟨g, 0, none⟩ = false ∧ w.frozen? ⟨g, 1, none⟩ = false ∧ w.frozen? ⟨g, 2, none⟩ = false) ∧ g < w.heap.size := by
  have p0 := h.cell 0; have p1 := h.cell 1; have p2 := h.cell 2
  simp only [List.getElem?_toArray, List.getElem?_cons_zero, List.getElem?_cons_succ] at p0 p1 p2
  exact ⟨⟨p0, p1, p2⟩, ⟨h.frozen 0, h.frozen 1, h.frozen 2⟩, h.lt⟩
/-- A struct of three stored. -/
abbrev put3 (w : World) (g : Nat) (x y z : Value) : World := ((w.setCell ⟨g, 0, none⟩ x).setCell ⟨g, 1, none⟩ y).setCell ⟨g, 2, none⟩ z
theorem Blk.put3 {w : World} {g : Nat} {t : TypeId} {a b c x y z : Value} (h : Blk w g t #[a, b, c]) : Blk (put3 w g x y z) g t #[x, y, z] := ((h.set 0 x).set 1 y).set 2 z
theorem Blk.far3 {w : World} {g k : Nat} {t : TypeId} {cs : Array Value} {x y z : Value} (h : Blk w k t cs) (hk : k ≠ g) : Blk (Proofs.Ytgjokddcaadjdaa.put3 w g x y z) k t cs := ((h.far (p := ⟨g, 0, none⟩) hk _).far (p := ⟨g, 1, none⟩) hk _).far (p := ⟨g, 2, none⟩) hk _
theorem below_put3 {w w' : World} {B g : Nat} {x y z : Value} (h : Below B w w') (hg : B ≤ g) : Below B w (Proofs.Ytgjokddcaadjdaa.put3 w' g x y z) := ((h.setCell (p := ⟨g, 0, none⟩) hg _).setCell (p := ⟨g, 1, none⟩) hg _).setCell (p := ⟨g, 2, none⟩) hg _
theorem Hx.put3 {w0 w : World} {base g : Nat} {rs : List Rw} {t : TypeId} {cs : Array Value} {x y z : Value} (h : Hx w0 w base rs) (hk : Blk w g t cs) (ht : ∀ r ∈ rs, r.t ≠ t) (hb : base ≤ g) : Hx w0 (Proofs.Ytgjokddcaadjdaa.put3 w g x y z) base rs :=
  ((h.far hk ht hb 0 _).far (hk.set 0 _) ht hb 1 _).far ((hk.set 0 _).set 1 _) ht hb 2 _
theorem pst_ne {nX nE nH : Nat} {Q : PreS} {X E H : List Int} : ∀ r ∈ pstR nX nE nH Q X E H, r.t ≠ 29 := by
  intro r hr
  simp only [pstR, List.mem_cons, List.not_mem_nil, or_false] at hr
  rcases hr with rfl | rfl | rfl
  · exact (show (2 : TypeId) ≠ 29 by decide)
  · exact (show (2 : TypeId) ≠ 29 by decide)
  · exact (show (3 : TypeId) ≠ 29 by decide)

end Go.Proofs.Ytgjokddcaadjdaa
