/- Layer 5: the chapter's examples ('awake'). -/
import Derived.Test.YtdbfngamplkjeaaLeftg
import Derived.Test.YtdbfngamplkjeaaDrows
import Derived.Test.YtdbfngamplkjeaaIntc
namespace Go.Proofs.Ytdbfngamplkjeaa
open Go.RowKit
set_option maxRecDepth 100000

/-- Distances by what can be looked at. -/
theorem dist_cert {N M t : Nat} {hd rv : Nat → Nat} {p : Nat → Bool} {d : Nat → Nat} (h1 : ∀ v, v < N → d v ≤ N) (h2 : d t = 0) (h3 : ∀ a, a < M → p a = true → d (hd a) ≤ d (hd (rv a)) + 1)
    (h4 : ∀ v, v < N → d v < N → v ≠ t → ∃ a, a < M ∧ hd a = v ∧ p a = true ∧ d v = d (hd (rv a)) + 1) (h5 : ∀ a, a < M → hd (rv a) < N) : IsDist (Lk M hd rv p) N t d :=
  ⟨h1, h2, fun u v _ _ ⟨a, ha, e1, e2, hp⟩ => by
    have := h3 a ha hp
    rw [e1, e2] at this
    exact this, fun v hv hlt hne => by
    obtain ⟨a, ha, e1, hp, e2⟩ := h4 v hv hlt hne
    exact ⟨hd (rv a), h5 a ha, ⟨a, ha, rfl, e1, hp⟩, e2⟩⟩

def exArcs : List ArcN := [⟨0, 1, 1⟩, ⟨1, 2, 1⟩, ⟨0, 2, 1⟩]
def exH : List Int := [1, 2, 0, 2, 1, 0]
def exR : List Int := [2, 5, 0, 4, 3, 1]
def exA : List Int := [1, 1, 0, 1, 0, 0]
def exB : List Int := [1, 0, 0, 1, 0, 1]
theorem ex_check : checkF (4 : Nat) 0 2 exArcs = 0 := by decide +kernel
theorem ex_first : firstOf exArcs 4 = 6 := by decide +kernel
theorem ex_inc : Inc exArcs 0 0 1 false 1 ∧ Inc exArcs 2 0 2 false 1 ∧ Inc exArcs 0 1 0 true 0 ∧ Inc exArcs 1 1 2 false 1 ∧ Inc exArcs 1 2 1 true 0 ∧ Inc exArcs 2 2 0 true 0 :=
  ⟨⟨by decide, _, rfl, .inl ⟨rfl, rfl, rfl, rfl⟩⟩, ⟨by decide, _, rfl, .inl ⟨rfl, rfl, rfl, rfl⟩⟩, ⟨by decide, _, rfl, .inr ⟨rfl, rfl, rfl, rfl⟩⟩, ⟨by decide, _, rfl, .inl ⟨rfl, rfl, rfl, rfl⟩⟩, ⟨by decide, _, rfl, .inr ⟨rfl, rfl, rfl, rfl⟩⟩, ⟨by decide, _, rfl, .inr ⟨rfl, rfl, rfl, rfl⟩⟩⟩
theorem ex_pos : posOf exArcs 0 0 = 0 ∧ posOf exArcs 2 0 = 1 ∧ posOf exArcs 0 1 = 2 ∧ posOf exArcs 1 1 = 3 ∧ posOf exArcs 1 2 = 4 ∧ posOf exArcs 2 2 = 5 := by decide +kernel
theorem six_is {L : List Int} {x0 x1 x2 x3 x4 x5 : Int} (hl : L.length = 6) (h0 : L[0]? = some x0) (h1 : L[1]? = some x1) (h2 : L[2]? = some x2) (h3 : L[3]? = some x3) (h4 : L[4]? = some x4) (h5 : L[5]? = some x5) : L = [x0, x1, x2, x3, x4, x5] := by
  apply List.ext_getElem?
  intro i
  match i with
  | 0 => rw [h0]; rfl
  | 1 => rw [h1]; rfl
  | 2 => rw [h2]; rfl
  | 3 => rw [h3]; rfl
  | 4 => rw [h4]; rfl
  | 5 => rw [h5]; rfl
  | i + 6 => rw [List.getElem?_eq_none (by omega)]; simp
theorem ex_rows {F H R C Ai : List Int} {B : List Bool} (h : CsrL 4 exArcs F H R C Ai B) : H = exH ∧ R = exR := by
  obtain ⟨i0, i1, i2, i3, i4, i5⟩ := ex_inc
  obtain ⟨p0, p1, p2, p3, p4, p5⟩ := ex_pos
  have hf := ex_first
  have e := fun (i : Nat) (v u : Int) (b : Bool) (c : Int) (hI : Inc exArcs i v u b c) (hv : 0 ≤ v) (hp : posOf exArcs i v < 6) => (h.ent.ent i v u b c hI hv (by rw [hf]; exact hp)).1
  have r := fun (i : Nat) (v u : Int) (b : Bool) (c : Int) (hI : Inc exArcs i v u b c) (hv : 0 ≤ v) (hp : posOf exArcs i v < 6) => h.rev.ent i v u b c hI hv (by rw [hf]; exact hp)
  have hl := h.ent.lH
  have hr := h.rev.len
  rw [hf] at hl hr
  constructor
  · have q0 := e _ _ _ _ _ i0 (by omega) (by rw [p0]; omega); have q1 := e _ _ _ _ _ i1 (by omega) (by rw [p1]; omega); have q2 := e _ _ _ _ _ i2 (by omega) (by rw [p2]; omega)
    have q3 := e _ _ _ _ _ i3 (by omega) (by rw [p3]; omega); have q4 := e _ _ _ _ _ i4 (by omega) (by rw [p4]; omega); have q5 := e _ _ _ _ _ i5 (by omega) (by rw [p5]; omega)
    rw [p0] at q0; rw [p1] at q1; rw [p2] at q2; rw [p3] at q3; rw [p4] at q4; rw [p5] at q5
    exact six_is hl q0 q1 q2 q3 q4 q5
  · have q0 := r _ _ _ _ _ i0 (by omega) (by rw [p0]; omega); have q1 := r _ _ _ _ _ i1 (by omega) (by rw [p1]; omega); have q2 := r _ _ _ _ _ i2 (by omega) (by rw [p2]; omega)
    have q3 := r _ _ _ _ _ i3 (by omega) (by rw [p3]; omega); have q4 := r _ _ _ _ _ i4 (by omega) (by rw [p4]; omega); have q5 := r _ _ _ _ _ i5 (by omega) (by rw [p5]; omega)
    rw [p0, p2] at q0; rw [p1, p5] at q1; rw [p2, p0] at q2; rw [p3, p4] at q3; rw [p4, p3] at q4; rw [p5, p1] at q5
    exact six_is hr q0 q1 q2 q3 q4 q5
theorem ex_res {f X : List Int} {x0 x1 x2 : Int} (h : ResOf exArcs f (firstOf exArcs 4) X) (h0 : f[0]? = some x0) (h1 : f[1]? = some x1) (h2 : f[2]? = some x2) : X = [1 - x0, 1 - x2, x0, 1 - x1, x1, x2] := by
  obtain ⟨i0, i1, i2, i3, i4, i5⟩ := ex_inc
  obtain ⟨p0, p1, p2, p3, p4, p5⟩ := ex_pos
  have hl := h.len
  rw [ex_first] at hl
  have q0 := h.ent _ _ _ _ _ _ i0 h0; have q1 := h.ent _ _ _ _ _ _ i1 h2; have q2 := h.ent _ _ _ _ _ _ i2 h0
  have q3 := h.ent _ _ _ _ _ _ i3 h1; have q4 := h.ent _ _ _ _ _ _ i4 h1; have q5 := h.ent _ _ _ _ _ _ i5 h2
  rw [p0] at q0; rw [p1] at q1; rw [p2] at q2; rw [p3] at q3; rw [p4] at q4; rw [p5] at q5
  exact six_is hl q0 q1 q2 q3 q4 q5
theorem ex_within {L f : List Int} {y : Int} (hw : WithinX exArcs L exArcs.length f) (hL : (L = [] ∧ y = 0) ∨ (L = [0, 0, 1] ∧ y = 1)) : f[0]? = some 0 ∧ f[1]? = some 0 ∧ f[2]? = some y := by
  have hl : f.length = 3 := hw.base.len
  have key : ∀ (i : Nat) (a : ArcN) (z : Int), i < 3 → exArcs[i]? = some a → ((L = [] ∧ z = 0) ∨ (L[i]? = some z ∧ 0 ≤ z ∧ z ≤ a.cap ∧ a.frm ≠ a.to)) → f[i]? = some z := by
    intro i a z hi ha hz
    obtain ⟨x, hx⟩ : ∃ x, f[i]? = some x := ⟨_, List.getElem?_eq_getElem (by omega)⟩
    obtain ⟨g1, g2⟩ := hw.told i a x hi ha hx
    rw [hx]
    rcases hz with ⟨rfl, rfl⟩ | ⟨h1, h2, h3, h4⟩
    · rw [g1 (by simp)]
    · rw [g2 z h1 h2 h3 h4]
  rcases hL with ⟨rfl, rfl⟩ | ⟨rfl, rfl⟩
  · exact ⟨key 0 _ 0 (by omega) rfl (.inl ⟨rfl, rfl⟩), key 1 _ 0 (by omega) rfl (.inl ⟨rfl, rfl⟩), key 2 _ 0 (by omega) rfl (.inl ⟨rfl, rfl⟩)⟩
  · exact ⟨key 0 _ 0 (by omega) rfl (.inr ⟨rfl, by decide, by decide, by decide⟩), key 1 _ 0 (by omega) rfl (.inr ⟨rfl, by decide, by decide, by decide⟩), key 2 _ 1 (by omega) rfl (.inr ⟨rfl, by decide, by decide, by decide⟩)⟩

/-- What the examples ask of Left. -/
def ExOk (X0 : List Int) (M : Nat) (_ hd rv : Nat → Nat) (X : List Int) : Prop := M = 6 ∧ hd = hdOf exH ∧ rv = hdOf exR ∧ X = X0
theorem left_ex (A : Option Addr) (c : Nat) (AL : Option Addr) (nl cl : Nat) (L X0 : List Int) (w : World) (hA : Arcs w w.heap.size A 3 exArcs) (hL : Ints w w.heap.size AL nl L) (hX : (L = [] ∧ X0 = exA) ∨ (L = [0, 0, 1] ∧ X0 = exB)) :
    Calls Try.prog 9 #[.agg #[.int .i64 4, .int .i64 0, .int .i64 2, .slice A 3 c], .slice AL nl cl] w (RetGrid 4 0 2 (ExOk X0) w) := by
  have hLR : ∀ x ∈ L, InR x := by
    rcases hX with ⟨rfl, _⟩ | ⟨rfl, _⟩ <;> simp [InR]
  refine (left_good 4 0 2 A 3 c exArcs AL nl cl L w hA ex_check hL hLR (by decide)).mono fun e w' h => h.grid (ends_in ex_check).2.2.2.1 fun F H R C Ai B f X hc hr hw => ?_
  obtain ⟨rfl, rfl⟩ := ex_rows hc
  refine ⟨ex_first, rfl, rfl, ?_⟩
  rcases hX with ⟨rfl, rfl⟩ | ⟨rfl, rfl⟩
  · obtain ⟨h0, h1, h2⟩ := ex_within hw (.inl ⟨rfl, rfl⟩)
    rw [ex_res hr h0 h1 h2]; rfl
  · obtain ⟨h0, h1, h2⟩ := ex_within hw (.inr ⟨rfl, rfl⟩)
    rw [ex_res hr h0 h1 h2]; rfl

def exD (l : List Nat) (v : Nat) : Nat := (l[v]?).getD 4
theorem tab_same {N : Nat} {d d' : Nat → Nat} (h : ∀ v, v < N → d v = d' v) : (tab N fun v => (d v : Int)) = tab N fun v => (d' v : Int) := tab_congr fun v hv => by rw [h v hv]
theorem ex_to1 : IsDist (Lk 6 (hdOf exH) (hdOf exR) fun a => opn exA (hdOf exR a)) 4 2 (exD [1, 1, 0, 4]) := dist_cert (by decide) (by decide) (by decide) (by decide) (by decide)
theorem ex_from1 : IsDist (Lk 6 (hdOf exH) (hdOf exR) (opn exA)) 4 1 (exD [4, 0, 1, 4]) := dist_cert (by decide) (by decide) (by decide) (by decide) (by decide)
theorem ex_to2 : IsDist (Lk 6 (hdOf exH) (hdOf exR) fun a => opn exB (hdOf exR a)) 4 2 (exD [2, 1, 0, 4]) := dist_cert (by decide) (by decide) (by decide) (by decide) (by decide)
theorem ex_from2 : IsDist (Lk 6 (hdOf exH) (hdOf exR) (opn exB)) 4 2 (exD [1, 2, 0, 4]) := dist_cert (by decide) (by decide) (by decide) (by decide) (by decide)
theorem ex_told {R : Nat → Nat → Prop} {t : Nat} {d d' : Nat → Nat} (h : IsDist R 4 t d) (h' : IsDist R 4 t d') {l : List Int} (hl : (tab 4 fun v => (d' v : Int)) = l) : decide ((tab 4 fun v => (d v : Int)) = l) = true :=
  decide_eq_true (by rw [← hl]; exact tab_same (h.same h' fun _ _ _ _ => Iff.rfl))
theorem rowK_same {d d' : Nat → Nat} {n k : Nat} (h : ∀ v, v < n → d v = d' v) : rowK d n k = rowK d' n k := by
  unfold rowK
  apply List.filter_congr
  intro v hv
  rw [h v (by simpa using hv)]
theorem ex_rowsL {d : Nat → Nat} {L : List (List Nat)} (h : IsDist (Lk 6 (hdOf exH) (hdOf exR) fun a => opn exA (hdOf exR a)) 4 2 d) (hR : RowsTo 4 d 4 L) : L = [[2], [0, 1]] := by
  have hs := h.same ex_to1 fun _ _ _ _ => Iff.rfl
  have d0 : d 0 = 1 := (hs 0 (by omega)).trans (by decide)
  have d1 : d 1 = 1 := (hs 1 (by omega)).trans (by decide)
  have d2 : d 2 = 0 := (hs 2 (by omega)).trans (by decide)
  have d3 : d 3 = 4 := (hs 3 (by omega)).trans (by decide)
  have h1 := hR.top 0 (by omega) (by omega)
  have h2 : L.length = 2 := by
    rcases Nat.lt_or_ge 2 L.length with hc | hc
    · obtain ⟨u, hu, hlt, hle⟩ := hR.low 2 hc
      match u, hu with
      | 0, _ => omega
      | 1, _ => omega
      | 2, _ => omega
      | 3, _ => omega
    · omega
  obtain ⟨r0, e0⟩ : ∃ r, L[0]? = some r := ⟨_, List.getElem?_eq_getElem (by omega)⟩
  obtain ⟨r1, e1⟩ : ∃ r, L[1]? = some r := ⟨_, List.getElem?_eq_getElem (by omega)⟩
  have q0 := (hR.ent 0 r0 e0).trans (rowK_same hs)
  have q1 := (hR.ent 1 r1 e1).trans (rowK_same hs)
  rw [show rowK (exD [1, 1, 0, 4]) 4 0 = [2] by decide] at q0
  rw [show rowK (exD [1, 1, 0, 4]) 4 1 = [0, 1] by decide] at q1
  subst q0; subst q1
  apply List.ext_getElem?
  intro i
  match i with
  | 0 => rw [e0]; rfl
  | 1 => rw [e1]; rfl
  | i + 2 => rw [List.getElem?_eq_none (by omega)]; simp

set_option maxHeartbeats 2000000 in
theorem lrows_yes (A B : Option Addr) (n c d : Nat) (L : List (List Nat)) (w : World) (hA : RowsAt w w.heap.size A n L) (hB : RowsAt w w.heap.size B n L) (hn : n ≤ 1000000) (hl : ∀ l ∈ L, l.length ≤ 1000000) :
    Calls Try.prog 18 #[.slice A n c, .slice B n d] w fun e w' => e = .returned (.bool true) ∧ ∃ q, w' = w.drewN q := by
  have HA := Lib.hid hA; have HB := Lib.hid hB; have HL := Lib.hid hl
  clear hA hB hl
  go_enter Try.func18, Try.ntmps18
  go_wp2_with fail
  go_loopw [5, 13] (fun _ i wr => ∃ k : Nat, k ≤ n ∧ i = .int .i64 k ∧ (∃ q, wr = w.drewN q) ∧ Below w.heap.size w wr ∧ w.heap.size = wr.heap.size) (fun _ i _ => n - (intOf i).toNat)
  case atStart => exact ⟨0, Nat.zero_le _, rfl, ⟨0, rfl⟩, Below.refl _ _, rfl⟩
  case round =>
    obtain ⟨k, hk, rfl, hq, Bw, hsz⟩ := hrel
    have HQ := Lib.hid hq; have HSZ := Lib.hid hsz
    clear hq hsz
    by_cases hlt : k < n
    · obtain ⟨bA, oA, rfl, hbA, hA2⟩ := (HA.out.below Bw).2 (by omega)
      obtain ⟨bB, oB, rfl, hbB, hB2⟩ := (HB.out.below Bw).2 (by omega)
      obtain ⟨l, hl⟩ : ∃ l, L[k]? = some l := ⟨_, List.getElem?_eq_getElem (by rw [HA.out.1]; exact hlt)⟩
      obtain ⟨A1, c1, ca, iA⟩ := hA2 k l hl
      obtain ⟨B1, d1, cb, iB⟩ := hB2 k l hl
      have hll := HL.out l (mem_at hl)
      have HI := Lib.hid fun q => ints_draw A1 B1 l.length l.length c1 d1 (l.map fun v : Nat => (v : Int)) (l.map fun v : Nat => (v : Int)) (wr.drewN q) (by rw [HSZ.out] at iA; exact iA) (by rw [HSZ.out] at iB; exact iB) (by omega) (by omega)
      have hzr := Bw.size
      have hBw := Lib.hid Bw
      clear hA2 hB2 hl iA iB Bw
      have HI2 := Lib.hid fun q => (HI.out q).mono fun e w' (h : e = .returned (.bool (decide ((l.map fun v : Nat => (v : Int)) = (l.map fun v : Nat => (v : Int))))) ∧ ∃ q', w' = (wr.drewN q).drewN q') => And.intro (h.1.trans (by rw [decide_eq_true rfl])) h.2
      clear HI
      go_wp2_with fail
      go_quiet ((go_at_call 13; exact Calls.quiet_of (HI2.out _)))
      go_wp2_with fail
      go_roundw
      case rel =>
        obtain ⟨q, hq⟩ := HQ.out
        exact ⟨k + 1, by omega, by go_num, ⟨q + _, by rw [hq, World.drewN_drewN]⟩, below_drewN' hBw.out _, HSZ.out⟩
      case measure => simp [intOf]; omega
    · go_wp2_with fail
      go_ret
      exact ⟨rfl, HQ.out⟩

/-- Rows just laid. -/
theorem rows_laid {w : World} {b0 b1 b2 x : Nat} (h0 : Blk w b0 3 #[.int .i64 2]) (h1 : Blk w b1 3 #[.int .i64 0, .int .i64 1]) (h2 : Blk w b2 26 #[.slice (some ⟨b0, 0, none⟩) 1 1, .slice (some ⟨b1, 0, none⟩) 2 2]) (hx : w.heap.size = x) : RowsAt w x (some ⟨b2, 0, none⟩) 2 [[2], [0, 1]] := by
  subst hx
  refine ⟨rfl, fun _ => ⟨b2, 0, rfl, h2.lt, fun k l hl => ?_⟩⟩
  match k, hl with
  | 0, hl =>
    simp at hl; subst hl
    exact ⟨_, 1, h2.cell 0, Blk.ints (L := [2]) h0 rfl⟩
  | 1, hl =>
    simp at hl; subst hl
    exact ⟨_, 2, h2.cell 1, Blk.ints (L := [0, 1]) h1 rfl⟩
  | k + 2, hl => simp at hl

set_option maxHeartbeats 8000000 in
theorem awake5_any (w : World) : Calls Try.prog 21 #[] w fun e w' => e = .returned (.bool true) ∧ Below w.heap.size w w' := by
  go_enter Try.func21, Try.ntmps21
  go_wp2_with fail
  have N1 : Blk ((w.alloc (.cells #[.int .i64 0, .int .i64 1, .int .i64 1, .int .i64 1, .int .i64 2, .int .i64 1, .int .i64 0, .int .i64 2, .int .i64 1] 57)).alloc (.cells #[.int .i64 4, .int .i64 0, .int .i64 2, .slice (some ⟨w.heap.size, 0, none⟩) 3 3] 24)) (w.heap.size + 1) 24 #[.int .i64 4, .int .i64 0, .int .i64 2, .slice (some ⟨w.heap.size, 0, none⟩) 3 3] := Blk.new (by simp)
  have a1 : Arcs (w.alloc (.cells (exArcs.flatMap arcCells).toArray 57)) (w.alloc (.cells (exArcs.flatMap arcCells).toArray 57)).heap.size (some ⟨w.heap.size, 0, none⟩) 3 exArcs := arcs_new rfl rfl (by simp [maxLen])
  have a1' : Arcs ((w.alloc (.cells #[.int .i64 0, .int .i64 1, .int .i64 1, .int .i64 1, .int .i64 2, .int .i64 1, .int .i64 0, .int .i64 2, .int .i64 1] 57)).alloc (.cells #[.int .i64 4, .int .i64 0, .int .i64 2, .slice (some ⟨w.heap.size, 0, none⟩) 3 3] 24)) ((w.alloc (.cells #[.int .i64 0, .int .i64 1, .int .i64 1, .int .i64 1, .int .i64 2, .int .i64 1, .int .i64 0, .int .i64 2, .int .i64 1] 57)).alloc (.cells #[.int .i64 4, .int .i64 0, .int .i64 2, .slice (some ⟨w.heap.size, 0, none⟩) 3 3] 24)).heap.size (some ⟨w.heap.size, 0, none⟩) 3 exArcs := a1.onAlloc _
  have B1 : Below w.heap.size w ((w.alloc (.cells #[.int .i64 0, .int .i64 1, .int .i64 1, .int .i64 1, .int .i64 2, .int .i64 1, .int .i64 0, .int .i64 2, .int .i64 1] 57)).alloc (.cells #[.int .i64 4, .int .i64 0, .int .i64 2, .slice (some ⟨w.heap.size, 0, none⟩) 3 3] 24)) := (below_alloc _).alloc (by simp) _
  generalize ((w.alloc (.cells #[.int .i64 0, .int .i64 1, .int .i64 1, .int .i64 1, .int .i64 2, .int .i64 1, .int .i64 0, .int .i64 2, .int .i64 1] 57)).alloc (.cells #[.int .i64 4, .int .i64 0, .int .i64 2, .slice (some ⟨w.heap.size, 0, none⟩) 3 3] 24)) = w1 at *
  clear a1
  refine (left_ex (some ⟨w.heap.size, 0, none⟩) 3 none 0 0 [] exA w1 a1' RdBy.empty (.inl ⟨rfl, rfl⟩)).mono ?_
  rintro e w2 ⟨M, K, fst, hd, rv, AX, cX, X, rfl, hG, G2, X2, ⟨rfl, rfl, rfl, rfl⟩, B2⟩
  have N2 := N1.below B2 N1.lt
  have a2 := a1'.on B2
  have Bw2 := below_step B1 B2
  have HG := Lib.hid hG
  clear N1 a1' B1 B2 hG
  dsimp only [csrW]
  obtain ⟨r0, r1, r2, r3⟩ := N2.at4
  have hz2 := N2.lt
  go_wp2_with fail
  have C3 : Blk ((w2.alloc (.cells #[.int .i64 4, .int .i64 0, .int .i64 2, .slice K.AF (4 + 1) K.cF, .slice K.AH 6 K.cH, .slice K.AR 6 K.cR, .slice K.AC 6 K.cC, .slice K.AA 6 K.cA, .slice K.AB 6 K.cB] 29)).alloc (.cells #[.int .i64 0, .int .i64 0, .int .i64 1] 2)) w2.heap.size 29 #[.int .i64 4, .int .i64 0, .int .i64 2, .slice K.AF (4 + 1) K.cF, .slice K.AH 6 K.cH, .slice K.AR 6 K.cR, .slice K.AC 6 K.cC, .slice K.AA 6 K.cA, .slice K.AB 6 K.cB] := (Blk.new rfl).alloc _
  have L3 : Blk ((w2.alloc (.cells #[.int .i64 4, .int .i64 0, .int .i64 2, .slice K.AF (4 + 1) K.cF, .slice K.AH 6 K.cH, .slice K.AR 6 K.cR, .slice K.AC 6 K.cC, .slice K.AA 6 K.cA, .slice K.AB 6 K.cB] 29)).alloc (.cells #[.int .i64 0, .int .i64 0, .int .i64 1] 2)) (w2.heap.size + 1) 2 (ivs [0, 0, 1]) := Blk.new (by simp)
  have a3 := (a2.onAlloc (.cells #[.int .i64 4, .int .i64 0, .int .i64 2, .slice K.AF (4 + 1) K.cF, .slice K.AH 6 K.cH, .slice K.AR 6 K.cR, .slice K.AC 6 K.cC, .slice K.AA 6 K.cA, .slice K.AB 6 K.cB] 29)).onAlloc (.cells #[.int .i64 0, .int .i64 0, .int .i64 1] 2)
  have G3 := (G2.onAlloc (.cells #[.int .i64 4, .int .i64 0, .int .i64 2, .slice K.AF (4 + 1) K.cF, .slice K.AH 6 K.cH, .slice K.AR 6 K.cR, .slice K.AC 6 K.cC, .slice K.AA 6 K.cA, .slice K.AB 6 K.cB] 29)).onAlloc (.cells #[.int .i64 0, .int .i64 0, .int .i64 1] 2)
  have X3 := (X2.onAlloc (.cells #[.int .i64 4, .int .i64 0, .int .i64 2, .slice K.AF (4 + 1) K.cF, .slice K.AH 6 K.cH, .slice K.AR 6 K.cR, .slice K.AC 6 K.cC, .slice K.AA 6 K.cA, .slice K.AB 6 K.cB] 29)).onAlloc (.cells #[.int .i64 0, .int .i64 0, .int .i64 1] 2)
  have Bw3 := (Bw2.alloc Bw2.size (.cells #[.int .i64 4, .int .i64 0, .int .i64 2, .slice K.AF (4 + 1) K.cF, .slice K.AH 6 K.cH, .slice K.AR 6 K.cR, .slice K.AC 6 K.cC, .slice K.AA 6 K.cA, .slice K.AB 6 K.cB] 29)).alloc (by have := Bw2.size; simp; omega) (.cells #[.int .i64 0, .int .i64 0, .int .i64 1] 2)
  generalize ((w2.alloc (.cells #[.int .i64 4, .int .i64 0, .int .i64 2, .slice K.AF (4 + 1) K.cF, .slice K.AH 6 K.cH, .slice K.AR 6 K.cR, .slice K.AC 6 K.cC, .slice K.AA 6 K.cA, .slice K.AB 6 K.cB] 29)).alloc (.cells #[.int .i64 0, .int .i64 0, .int .i64 1] 2)) = w3 at *
  clear a2 G2 X2 Bw2 N2 r0 r1 r2 r3
  refine (left_ex (some ⟨w.heap.size, 0, none⟩) 3 _ 3 3 [0, 0, 1] exB w3 a3 (L3.ints rfl) (.inr ⟨rfl, rfl⟩)).mono ?_
  rintro e w4 ⟨M', K', fst', hd', rv', AY, cY, Y, rfl, -, -, Y4, ⟨rfl, -, -, rfl⟩, B4⟩
  have C4 := C3.below B4 C3.lt
  have G4 := G3.on B4
  have X4 := X3.on B4
  have Bw4 := below_step Bw3 B4
  clear C3 L3 a3 G3 X3 Bw3 B4
  dsimp only [csrW]
  obtain ⟨a0, a1, a2, a3, a4, a5, a6, a7, a8⟩ := C4.at9
  have hz4 := C4.lt
  go_wp2_with fail
  have C5 := C4.alloc (.cells #[.int .i64 4, .int .i64 0, .int .i64 2, .slice K'.AF (4 + 1) K'.cF, .slice K'.AH 6 K'.cH, .slice K'.AR 6 K'.cR, .slice K'.AC 6 K'.cC, .slice K'.AA 6 K'.cA, .slice K'.AB 6 K'.cB] 29)
  have G5 := G4.onAlloc (.cells #[.int .i64 4, .int .i64 0, .int .i64 2, .slice K'.AF (4 + 1) K'.cF, .slice K'.AH 6 K'.cH, .slice K'.AR 6 K'.cR, .slice K'.AC 6 K'.cC, .slice K'.AA 6 K'.cA, .slice K'.AB 6 K'.cB] 29)
  have X5 := X4.onAlloc (.cells #[.int .i64 4, .int .i64 0, .int .i64 2, .slice K'.AF (4 + 1) K'.cF, .slice K'.AH 6 K'.cH, .slice K'.AR 6 K'.cR, .slice K'.AC 6 K'.cC, .slice K'.AA 6 K'.cA, .slice K'.AB 6 K'.cB] 29)
  have Y5 := Y4.onAlloc (.cells #[.int .i64 4, .int .i64 0, .int .i64 2, .slice K'.AF (4 + 1) K'.cF, .slice K'.AH 6 K'.cH, .slice K'.AR 6 K'.cR, .slice K'.AC 6 K'.cC, .slice K'.AA 6 K'.cA, .slice K'.AB 6 K'.cB] 29)
  have Bw5 := Bw4.alloc Bw4.size (.cells #[.int .i64 4, .int .i64 0, .int .i64 2, .slice K'.AF (4 + 1) K'.cF, .slice K'.AH 6 K'.cH, .slice K'.AR 6 K'.cR, .slice K'.AC 6 K'.cC, .slice K'.AA 6 K'.cA, .slice K'.AB 6 K'.cB] 29)
  generalize w4.alloc (.cells #[.int .i64 4, .int .i64 0, .int .i64 2, .slice K'.AF (4 + 1) K'.cF, .slice K'.AH 6 K'.cH, .slice K'.AR 6 K'.cR, .slice K'.AC 6 K'.cC, .slice K'.AA 6 K'.cA, .slice K'.AB 6 K'.cB] 29) = w5 at *
  clear C4 G4 X4 Y4 Bw4 a0 a1 a2 a3 a4 a5 a6 a7 a8 hz4
  refine (to_dist 4 6 0 2 K fst _ _ AX cX exA 2 _ HG.out G5 X5 (by omega) (by omega) (by omega)).mono ?_
  rintro e w6 ⟨g5, d5, rfl, D5, hD5, -, B6⟩
  have C6 := C5.below B6 C5.lt
  have G6 := G5.on B6
  have X6 := X5.on B6
  have Y6 := Y5.on B6
  have Bw6 := below_step Bw5 B6
  clear C5 G5 X5 Y5 Bw5 B6
  go_wp2_with fail
  have N6 : Blk (w6.alloc (.cells #[.int .i64 1, .int .i64 1, .int .i64 0, .int .i64 4] 3)) w6.heap.size 3 (ivs [1, 1, 0, 4]) := Blk.new rfl
  refine (ints_is (n := 4) (m := 4) _ _ (D5.onAlloc _) (N6.ints rfl) (by omega) (by omega) (v := true) (ex_told hD5 ex_to1 (by decide))).mono ?_
  rintro e w7 ⟨rfl, B7⟩
  clear N6 D5 hD5
  have C7 := (C6.alloc (.cells #[.int .i64 1, .int .i64 1, .int .i64 0, .int .i64 4] 3)).below B7 (C6.alloc _).lt
  have G7 := (G6.onAlloc (.cells #[.int .i64 1, .int .i64 1, .int .i64 0, .int .i64 4] 3)).on B7
  have X7 := (X6.onAlloc (.cells #[.int .i64 1, .int .i64 1, .int .i64 0, .int .i64 4] 3)).on B7
  have Y7 := (Y6.onAlloc (.cells #[.int .i64 1, .int .i64 1, .int .i64 0, .int .i64 4] 3)).on B7
  have Bw7 := below_step (Bw6.alloc Bw6.size (.cells #[.int .i64 1, .int .i64 1, .int .i64 0, .int .i64 4] 3)) B7
  clear C6 G6 X6 Y6 Bw6 B7
  obtain ⟨a0, a1, a2, a3, a4, a5, a6, a7, a8⟩ := C7.at9
  have hz7 := C7.lt
  go_wp2_with fail
  clear a0 a1 a2 a3 a4 a5 a6 a7 a8 hz7
  refine (from_dist 4 6 0 2 K fst _ _ AX cX exA 1 _ HG.out G7 X7 (by omega) (by omega) (by omega)).mono ?_
  rintro e w8 ⟨g7, d7, rfl, D7, hD7, -, B8⟩
  have C8 := C7.below B8 C7.lt
  have G8 := G7.on B8
  have X8 := X7.on B8
  have Y8 := Y7.on B8
  have Bw8 := below_step Bw7 B8
  clear C7 G7 X7 Y7 Bw7 B8
  go_wp2_with fail
  have N8 : Blk (w8.alloc (.cells #[.int .i64 4, .int .i64 0, .int .i64 1, .int .i64 4] 3)) w8.heap.size 3 (ivs [4, 0, 1, 4]) := Blk.new rfl
  refine (ints_is (n := 4) (m := 4) _ _ (D7.onAlloc _) (N8.ints rfl) (by omega) (by omega) (v := true) (ex_told hD7 ex_from1 (by decide))).mono ?_
  rintro e w9 ⟨rfl, B9⟩
  clear N8 D7 hD7
  have C9 := (C8.alloc (.cells #[.int .i64 4, .int .i64 0, .int .i64 1, .int .i64 4] 3)).below B9 (C8.alloc _).lt
  have G9 := (G8.onAlloc (.cells #[.int .i64 4, .int .i64 0, .int .i64 1, .int .i64 4] 3)).on B9
  have X9 := (X8.onAlloc (.cells #[.int .i64 4, .int .i64 0, .int .i64 1, .int .i64 4] 3)).on B9
  have Y9 := (Y8.onAlloc (.cells #[.int .i64 4, .int .i64 0, .int .i64 1, .int .i64 4] 3)).on B9
  have Bw9 := below_step (Bw8.alloc Bw8.size (.cells #[.int .i64 4, .int .i64 0, .int .i64 1, .int .i64 4] 3)) B9
  clear C8 G8 X8 Y8 Bw8 B9
  obtain ⟨a0, a1, a2, a3, a4, a5, a6, a7, a8⟩ := C9.at9
  have hz9 := C9.lt
  go_wp2_with fail
  clear a0 a1 a2 a3 a4 a5 a6 a7 a8 hz9
  refine (to_dist 4 6 0 2 K fst _ _ AY cY exB 2 _ HG.out G9 Y9 (by omega) (by omega) (by omega)).mono ?_
  rintro e w10 ⟨g9, d9, rfl, D9, hD9, -, B10⟩
  have C10 := C9.below B10 C9.lt
  have G10 := G9.on B10
  have X10 := X9.on B10
  have Y10 := Y9.on B10
  have Bw10 := below_step Bw9 B10
  clear C9 G9 X9 Y9 Bw9 B10
  go_wp2_with fail
  have N10 : Blk (w10.alloc (.cells #[.int .i64 2, .int .i64 1, .int .i64 0, .int .i64 4] 3)) w10.heap.size 3 (ivs [2, 1, 0, 4]) := Blk.new rfl
  refine (ints_is (n := 4) (m := 4) _ _ (D9.onAlloc _) (N10.ints rfl) (by omega) (by omega) (v := true) (ex_told hD9 ex_to2 (by decide))).mono ?_
  rintro e w11 ⟨rfl, B11⟩
  clear N10 D9 hD9
  have C11 := (C10.alloc (.cells #[.int .i64 2, .int .i64 1, .int .i64 0, .int .i64 4] 3)).below B11 (C10.alloc _).lt
  have G11 := (G10.onAlloc (.cells #[.int .i64 2, .int .i64 1, .int .i64 0, .int .i64 4] 3)).on B11
  have X11 := (X10.onAlloc (.cells #[.int .i64 2, .int .i64 1, .int .i64 0, .int .i64 4] 3)).on B11
  have Y11 := (Y10.onAlloc (.cells #[.int .i64 2, .int .i64 1, .int .i64 0, .int .i64 4] 3)).on B11
  have Bw11 := below_step (Bw10.alloc Bw10.size (.cells #[.int .i64 2, .int .i64 1, .int .i64 0, .int .i64 4] 3)) B11
  clear C10 G10 X10 Y10 Bw10 B11
  obtain ⟨a0, a1, a2, a3, a4, a5, a6, a7, a8⟩ := C11.at9
  have hz11 := C11.lt
  go_wp2_with fail
  clear a0 a1 a2 a3 a4 a5 a6 a7 a8 hz11
  refine (from_dist 4 6 0 2 K fst _ _ AY cY exB 2 _ HG.out G11 Y11 (by omega) (by omega) (by omega)).mono ?_
  rintro e w12 ⟨g11, d11, rfl, D11, hD11, -, B12⟩
  have C12 := C11.below B12 C11.lt
  have G12 := G11.on B12
  have X12 := X11.on B12
  have Y12 := Y11.on B12
  have Bw12 := below_step Bw11 B12
  clear C11 G11 X11 Y11 Bw11 B12
  go_wp2_with fail
  have N12 : Blk (w12.alloc (.cells #[.int .i64 1, .int .i64 2, .int .i64 0, .int .i64 4] 3)) w12.heap.size 3 (ivs [1, 2, 0, 4]) := Blk.new rfl
  refine (ints_is (n := 4) (m := 4) _ _ (D11.onAlloc _) (N12.ints rfl) (by omega) (by omega) (v := true) (ex_told hD11 ex_from2 (by decide))).mono ?_
  rintro e w13 ⟨rfl, B13⟩
  clear N12 D11 hD11
  have C13 := (C12.alloc (.cells #[.int .i64 1, .int .i64 2, .int .i64 0, .int .i64 4] 3)).below B13 (C12.alloc _).lt
  have G13 := (G12.onAlloc (.cells #[.int .i64 1, .int .i64 2, .int .i64 0, .int .i64 4] 3)).on B13
  have X13 := (X12.onAlloc (.cells #[.int .i64 1, .int .i64 2, .int .i64 0, .int .i64 4] 3)).on B13
  have Y13 := (Y12.onAlloc (.cells #[.int .i64 1, .int .i64 2, .int .i64 0, .int .i64 4] 3)).on B13
  have Bw13 := below_step (Bw12.alloc Bw12.size (.cells #[.int .i64 1, .int .i64 2, .int .i64 0, .int .i64 4] 3)) B13
  clear C12 G12 X12 Y12 Bw12 B13
  obtain ⟨a0, a1, a2, a3, a4, a5, a6, a7, a8⟩ := C13.at9
  have hz13 := C13.lt
  go_wp2_with fail
  clear a0 a1 a2 a3 a4 a5 a6 a7 a8 hz13
  refine (rows_good 4 6 0 2 K fst _ _ AX cX exA 2 _ HG.out G13 X13 (by omega) (by omega) (by omega)).mono ?_
  rintro e w14 ⟨AR, nR, cR, L, d, rfl, hD, hR, RA, B14⟩
  obtain rfl := ex_rowsL hD hR
  obtain rfl : nR = 2 := RA.1.symm
  have Bw14 := below_step Bw13 B14
  clear C13 G13 X13 Y13 Bw13 B14 hD hR HG
  go_wp2_with fail
  have hl2 := rows_laid (w := ((w14.alloc (.cells #[.int .i64 2] 3)).alloc (.cells #[.int .i64 0, .int .i64 1] 3)).alloc (.cells #[.slice (some ⟨w14.heap.size, 0, none⟩) 1 1, .slice (some ⟨w14.heap.size + 1, 0, none⟩) 2 2] 26)) (b0 := w14.heap.size) (b1 := w14.heap.size + 1) (b2 := w14.heap.size + 1 + 1) (((Blk.new rfl).alloc _).alloc _) ((Blk.new (by simp)).alloc _) (Blk.new (by simp)) rfl
  have Bz : Below w14.heap.size w14 (((w14.alloc (.cells #[.int .i64 2] 3)).alloc (.cells #[.int .i64 0, .int .i64 1] 3)).alloc (.cells #[.slice (some ⟨w14.heap.size, 0, none⟩) 1 1, .slice (some ⟨w14.heap.size + 1, 0, none⟩) 2 2] 26)) := ((below_alloc _).alloc (by simp) _).alloc (by simp; omega) _
  refine (lrows_yes AR _ 2 cR 2 [[2], [0, 1]] _ (RA.on Bz) hl2 (by omega) (by simp)).mono ?_
  rintro e w15 ⟨rfl, q, hq⟩
  subst hq
  have Bt := below_drewN' (below_step Bw14 Bz) q
  clear RA Bz hl2 Bw14
  have hBt := Lib.hid Bt
  clear Bt
  go_wp2_with fail
  go_ret
  exact ⟨rfl, hBt.out⟩

end Go.Proofs.Ytdbfngamplkjeaa
