/- Layer 5: the chapter's examples ('awake'). -/
import Derived.Test.YtanifbofjecpmaaLeftg
import Derived.Test.YtanifbofjecpmaaDrows
import Derived.Test.YtanifbofjecpmaaLongc
namespace Go.Proofs.Ytanifbofjecpmaa
open Go.RowKit
set_option maxRecDepth 100000

/-- Distances by what can be looked at. -/
theorem dist_cert {N M t : Nat} {hd rv : Nat → Nat} {p : Nat → Bool} {d : Nat → Nat} (h1 : ∀ v, v < N → d v ≤ N) (h2 : d t = 0) (h3 : ∀ a, a < M → p a = true → d (hd a) ≤ d (hd (rv a)) + 1)
    (h4 : ∀ v, v < N → d v < N → v ≠ t → ∃ a, a < M ∧ hd a = v ∧ p a = true ∧ d v = d (hd (rv a)) + 1) (h5 : ∀ a, a < M → hd (rv a) < N) : IsDist (Lk M hd rv p) N t d :=
  ⟨h1, h2, fun u v _ _ ⟨a, ha, e1, e2, hp⟩ => by
    have := h3 a ha hp
    rw [e1, e2] at this
    exact this, fun v hv hlt hne => by
    obtain ⟨a, ha, e1, hp, e2⟩ := h4 v hv hlt hne
    exact ⟨hd (rv a), h5 a ha, ⟨a, ha, rfl, e1, hp⟩, e2⟩⟩

def exArcs : List ArcN := [⟨0, 1, 1⟩, ⟨1, 2, 1⟩, ⟨0, 2, 1⟩]
def exH : List Int := [1, 2, 0, 2, 1, 0]
def exR : List Int := [2, 5, 0, 4, 3, 1]
def exA : List Int := [1, 1, 0, 1, 0, 0]
def exB : List Int := [1, 0, 0, 1, 0, 1]
theorem ex_check : checkF (4 : Nat) 0 2 exArcs = 0 := by decide +kernel
theorem ex_first : firstOf exArcs 4 = 6 := by decide +kernel
theorem ex_inc : Inc exArcs 0 0 1 false 1 ∧ Inc exArcs 2 0 2 false 1 ∧ Inc exArcs 0 1 0 true 0 ∧ Inc exArcs 1 1 2 false 1 ∧ Inc exArcs 1 2 1 true 0 ∧ Inc exArcs 2 2 0 true 0 :=
  ⟨⟨by decide, _, rfl, .inl ⟨rfl, rfl, rfl, rfl⟩⟩, ⟨by decide, _, rfl, .inl ⟨rfl, rfl, rfl, rfl⟩⟩, ⟨by decide, _, rfl, .inr ⟨rfl, rfl, rfl, rfl⟩⟩, ⟨by decide, _, rfl, .inl ⟨rfl, rfl, rfl, rfl⟩⟩, ⟨by decide, _, rfl, .inr ⟨rfl, rfl, rfl, rfl⟩⟩, ⟨by decide, _, rfl, .inr ⟨rfl, rfl, rfl, rfl⟩⟩⟩
theorem ex_pos : posOf exArcs 0 0 = 0 ∧ posOf exArcs 2 0 = 1 ∧ posOf exArcs 0 1 = 2 ∧ posOf exArcs 1 1 = 3 ∧ posOf exArcs 1 2 = 4 ∧ posOf exArcs 2 2 = 5 := by decide +kernel
theorem six_is {L : List Int} {x0 x1 x2 x3 x4 x5 : Int} (hl : L.length = 6) (h0 : L[0]? = some x0) (h1 : L[1]? = some x1) (h2 : L[2]? = some x2) (h3 : L[3]? = some x3) (h4 : L[4]? = some x4) (h5 : L[5]? = some x5) : L = [x0, x1, x2, x3, x4, x5] := by
  apply List.ext_getElem?
  intro i
  match i with
  | 0 => rw [h0]; rfl
  | 1 => rw [h1]; rfl
  | 2 => rw [h2]; rfl
  | 3 => rw [h3]; rfl
  | 4 => rw [h4]; rfl
  | 5 => rw [h5]; rfl
  | i + 6 => rw [List.getElem?_eq_none (by omega)]; simp
theorem ex_rows {F H R C Ai : List Int} {B : List Bool} (h : CsrL 4 exArcs F H R C Ai B) : H = exH ∧ R = exR := by
  obtain ⟨i0, i1, i2, i3, i4, i5⟩ := ex_inc
  obtain ⟨p0, p1, p2, p3, p4, p5⟩ := ex_pos
  have hf := ex_first
  have e := fun (i : Nat) (v u : Int) (b : Bool) (c : Int) (hI : Inc exArcs i v u b c) (hv : 0 ≤ v) (hp : posOf exArcs i v < 6) => (h.ent.ent i v u b c hI hv (by rw [hf]; exact hp)).1
  have r := fun (i : Nat) (v u : Int) (b : Bool) (c : Int) (hI : Inc exArcs i v u b c) (hv : 0 ≤ v) (hp : posOf exArcs i v < 6) => h.rev.ent i v u b c hI hv (by rw [hf]; exact hp)
  have hl := h.ent.lH
  have hr := h.rev.len
  rw [hf] at hl hr
  constructor
  · have q0 := e _ _ _ _ _ i0 (by omega) (by rw [p0]; omega); have q1 := e _ _ _ _ _ i1 (by omega) (by rw [p1]; omega); have q2 := e _ _ _ _ _ i2 (by omega) (by rw [p2]; omega)
    have q3 := e _ _ _ _ _ i3 (by omega) (by rw [p3]; omega); have q4 := e _ _ _ _ _ i4 (by omega) (by rw [p4]; omega); have q5 := e _ _ _ _ _ i5 (by omega) (by rw [p5]; omega)
    rw [p0] at q0; rw [p1] at q1; rw [p2] at q2; rw [p3] at q3; rw [p4] at q4; rw [p5] at q5
    exact six_is hl q0 q1 q2 q3 q4 q5
  · have q0 := r _ _ _ _ _ i0 (by omega) (by rw [p0]; omega); have q1 := r _ _ _ _ _ i1 (by omega) (by rw [p1]; omega); have q2 := r _ _ _ _ _ i2 (by omega) (by rw [p2]; omega)
    have q3 := r _ _ _ _ _ i3 (by omega) (by rw [p3]; omega); have q4 := r _ _ _ _ _ i4 (by omega) (by rw [p4]; omega); have q5 := r _ _ _ _ _ i5 (by omega) (by rw [p5]; omega)
    rw [p0, p2] at q0; rw [p1, p5] at q1; rw [p2, p0] at q2; rw [p3, p4] at q3; rw [p4, p3] at q4; rw [p5, p1] at q5
    exact six_is hr q0 q1 q2 q3 q4 q5
theorem ex_res {f X : List Int} {x0 x1 x2 : Int} (h : ResOf exArcs f (firstOf exArcs 4) X) (h0 : f[0]? = some x0) (h1 : f[1]? = some x1) (h2 : f[2]? = some x2) : X = [1 - x0, 1 - x2, x0, 1 - x1, x1, x2] := by
  obtain ⟨i0, i1, i2, i3, i4, i5⟩ := ex_inc
  obtain ⟨p0, p1, p2, p3, p4, p5⟩ := ex_pos
  have hl := h.len
  rw [ex_first] at hl
  have q0 := h.ent _ _ _ _ _ _ i0 h0; have q1 := h.ent _ _ _ _ _ _ i1 h2; have q2 := h.ent _ _ _ _ _ _ i2 h0
  have q3 := h.ent _ _ _ _ _ _ i3 h1; have q4 := h.ent _ _ _ _ _ _ i4 h1; have q5 := h.ent _ _ _ _ _ _ i5 h2
  rw [p0] at q0; rw [p1] at q1; rw [p2] at q2; rw [p3] at q3; rw [p4] at q4; rw [p5] at q5
  exact six_is hl q0 q1 q2 q3 q4 q5
theorem ex_within {L f : List Int} {y : Int} (hw : WithinX exArcs L exArcs.length f) (hL : (L = [] ∧ y = 0) ∨ (L = [0, 0, 1] ∧ y = 1)) : f[0]? = some 0 ∧ f[1]? = some 0 ∧ f[2]? = some y := by
  have hl : f.length = 3 := hw.base.len
  have key : ∀ (i : Nat) (a : ArcN) (z : Int), i < 3 → exArcs[i]? = some a → ((L = [] ∧ z = 0) ∨ (L[i]? = some z ∧ 0 ≤ z ∧ z ≤ a.cap ∧ a.frm ≠ a.to)) → f[i]? = some z := by
    intro i a z hi ha hz
    obtain ⟨x, hx⟩ : ∃ x, f[i]? = some x := ⟨_, List.getElem?_eq_getElem (by omega)⟩
    obtain ⟨g1, g2⟩ := hw.told i a x hi ha hx
    rw [hx]
    rcases hz with ⟨rfl, rfl⟩ | ⟨h1, h2, h3, h4⟩
    · rw [g1 (by simp)]
    · rw [g2 z h1 h2 h3 h4]
  rcases hL with ⟨rfl, rfl⟩ | ⟨rfl, rfl⟩
  · exact ⟨key 0 _ 0 (by omega) rfl (.inl ⟨rfl, rfl⟩), key 1 _ 0 (by omega) rfl (.inl ⟨rfl, rfl⟩), key 2 _ 0 (by omega) rfl (.inl ⟨rfl, rfl⟩)⟩
  · exact ⟨key 0 _ 0 (by omega) rfl (.inr ⟨rfl, by decide, by decide, by decide⟩), key 1 _ 0 (by omega) rfl (.inr ⟨rfl, by decide, by decide, by decide⟩), key 2 _ 1 (by omega) rfl (.inr ⟨rfl, by decide, by decide, by decide⟩)⟩

/-- What the examples ask of Left. -/
def ExOk (X0 : List Int) (M : Nat) (_ hd rv : Nat → Nat) (X : List Int) : Prop := M = 6 ∧ hd = hdOf exH ∧ rv = hdOf exR ∧ X = X0

def exD (l : List Nat) (v : Nat) : Nat := (l[v]?).getD 4
theorem tab_same {N : Nat} {d d' : Nat → Nat} (h : ∀ v, v < N → d v = d' v) : (tab N fun v => (d v : Int)) = tab N fun v => (d' v : Int) := tab_congr fun v hv => by rw [h v hv]
theorem ex_to1 : IsDist (Lk 6 (hdOf exH) (hdOf exR) fun a => opn exA (hdOf exR a)) 4 2 (exD [1, 1, 0, 4]) := dist_cert (by decide) (by decide) (by decide) (by decide) (by decide)
theorem ex_from1 : IsDist (Lk 6 (hdOf exH) (hdOf exR) (opn exA)) 4 1 (exD [4, 0, 1, 4]) := dist_cert (by decide) (by decide) (by decide) (by decide) (by decide)
theorem ex_to2 : IsDist (Lk 6 (hdOf exH) (hdOf exR) fun a => opn exB (hdOf exR a)) 4 2 (exD [2, 1, 0, 4]) := dist_cert (by decide) (by decide) (by decide) (by decide) (by decide)
theorem ex_from2 : IsDist (Lk 6 (hdOf exH) (hdOf exR) (opn exB)) 4 2 (exD [1, 2, 0, 4]) := dist_cert (by decide) (by decide) (by decide) (by decide) (by decide)
theorem ex_told {R : Nat → Nat → Prop} {t : Nat} {d d' : Nat → Nat} (h : IsDist R 4 t d) (h' : IsDist R 4 t d') {l : List Int} (hl : (tab 4 fun v => (d' v : Int)) = l) : decide ((tab 4 fun v => (d v : Int)) = l) = true :=
  decide_eq_true (by rw [← hl]; exact tab_same (h.same h' fun _ _ _ _ => Iff.rfl))
theorem rowK_same {d d' : Nat → Nat} {n k : Nat} (h : ∀ v, v < n → d v = d' v) : rowK d n k = rowK d' n k := by
  unfold rowK
  apply List.filter_congr
  intro v hv
  rw [h v (by simpa using hv)]
theorem ex_rowsL {d : Nat → Nat} {L : List (List Nat)} (h : IsDist (Lk 6 (hdOf exH) (hdOf exR) fun a => opn exA (hdOf exR a)) 4 2 d) (hR : RowsTo 4 d 4 L) : L = [[2], [0, 1]] := by
  have hs := h.same ex_to1 fun _ _ _ _ => Iff.rfl
  have d0 : d 0 = 1 := (hs 0 (by omega)).trans (by decide)
  have d1 : d 1 = 1 := (hs 1 (by omega)).trans (by decide)
  have d2 : d 2 = 0 := (hs 2 (by omega)).trans (by decide)
  have d3 : d 3 = 4 := (hs 3 (by omega)).trans (by decide)
  have h1 := hR.top 0 (by omega) (by omega)
  have h2 : L.length = 2 := by
    rcases Nat.lt_or_ge 2 L.length with hc | hc
    · obtain ⟨u, hu, hlt, hle⟩ := hR.low 2 hc
      match u, hu with
      | 0, _ => omega
      | 1, _ => omega
      | 2, _ => omega
      | 3, _ => omega
    · omega
  obtain ⟨r0, e0⟩ : ∃ r, L[0]? = some r := ⟨_, List.getElem?_eq_getElem (by omega)⟩
  obtain ⟨r1, e1⟩ : ∃ r, L[1]? = some r := ⟨_, List.getElem?_eq_getElem (by omega)⟩
  have q0 := (hR.ent 0 r0 e0).trans (rowK_same hs)
  have q1 := (hR.ent 1 r1 e1).trans (rowK_same hs)
  rw [show rowK (exD [1, 1, 0, 4]) 4 0 = [2] by decide] at q0
  rw [show rowK (exD [1, 1, 0, 4]) 4 1 = [0, 1] by decide] at q1
  subst q0; subst q1
  apply List.ext_getElem?
  intro i
  match i with
  | 0 => rw [e0]; rfl
  | 1 => rw [e1]; rfl
  | i + 2 => rw [List.getElem?_eq_none (by omega)]; simp


/-- Rows just laid. -/
theorem rows_laid {w : World} {b0 b1 b2 x : Nat} (h0 : Blk w b0 3 #[.int .i64 2]) (h1 : Blk w b1 3 #[.int .i64 0, .int .i64 1]) (h2 : Blk w b2 27 #[.slice (some ⟨b0, 0, none⟩) 1 1, .slice (some ⟨b1, 0, none⟩) 2 2]) (hx : w.heap.size = x) : RowsAt w x (some ⟨b2, 0, none⟩) 2 [[2], [0, 1]] := by
  subst hx
  refine ⟨rfl, fun _ => ⟨b2, 0, rfl, h2.lt, fun k l hl => ?_⟩⟩
  match k, hl with
  | 0, hl =>
    simp at hl; subst hl
    exact ⟨_, 1, h2.cell 0, Blk.ints (L := [2]) h0 rfl⟩
  | 1, hl =>
    simp at hl; subst hl
    exact ⟨_, 2, h2.cell 1, Blk.ints (L := [0, 1]) h1 rfl⟩
  | k + 2, hl => simp at hl


end Go.Proofs.Ytanifbofjecpmaa
