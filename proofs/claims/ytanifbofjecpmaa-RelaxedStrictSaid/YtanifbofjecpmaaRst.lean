/- Layer 9: Strict: which moves the machine of layer 7 could make. -/
import Derived.Test.YtanifbofjecpmaaRlc
namespace Go.Proofs.Ytanifbofjecpmaa
open Go.RowKit Go.Shelf
set_option maxRecDepth 100000

/-! Plainly. -/
/-- The lowest end of the first k residual arcs of u of which something is left. -/
def lowO (fst hd : Nat → Nat) (X H : List Int) (u : Nat) : Nat → Option Int
  | 0 => none
  | k + 1 => if 0 < hOf X (fst u + k) then (match lowO fst hd X H u k with
      | none => some (hOf H (hd (fst u + k)))
      | some l => if hOf H (hd (fst u + k)) < l then some (hOf H (hd (fst u + k))) else some l) else lowO fst hd X H u k
def strP (hd : Nat → Nat) (X E H : List Int) (e : EvS) : Bool := decide (hOf H (hd e.arc.toNat) = e.h - 1) && decide (e.d = min (hOf E e.u.toNat) (hOf X e.arc.toNat))
def strO (y h : Int) : Option Int → Bool
  | none => false
  | some l => decide (0 < y) && decide (h = l + 1)
def strL (fst hd : Nat → Nat) (X E H : List Int) (e : EvS) : Bool := strO (hOf E e.u.toNat) e.h (lowO fst hd X H e.u.toNat (fst (e.u.toNat + 1) - fst e.u.toNat))
/-- Is a move strict? -/
def strB (N s t : Nat) (fst hd : Nat → Nat) (X E H : List Int) (e : EvS) : Bool := decide (legI N s t fst X E H e = 0) && (if e.what = 1 then strP hd X E H e else strL fst hd X E H e)
theorem low_in {fst hd : Nat → Nat} {X H : List Int} {u : Nat} {B : Int} (hB : 0 ≤ B) (h : ∀ a, hOf H (hd a) ≤ B ∧ -B ≤ hOf H (hd a)) : ∀ k l, lowO fst hd X H u k = some l → -B ≤ l ∧ l ≤ B
  | 0, _, h0 => by cases h0
  | k + 1, l, h0 => by
    have ih := low_in (fst := fst) (X := X) (u := u) hB h k
    simp only [lowO] at h0
    have ha := h (fst u + k)
    split at h0
    · split at h0
      · cases h0; omega
      · next l' hl =>
        have := ih l' hl
        split at h0 <;> cases h0 <;> omega
    · exact ih l h0


set_option maxHeartbeats 4000000 in
theorem strictPush_is (g b N M s t u a : Nat) (K : CsrS) (Q : PreS) (fst hd rv : Nat → Nat) (X E H : List Int) (e : EvS) (w : World) (hG : Grid N M fst hd rv) (hI : GridIn w w.heap.size N M K fst hd rv) (hM : Mch w g b N M s t K M N N Q) (hQ : StIn w w.heap.size M N N Q X E H) (he : e.u = u) (hea : e.arc = a) (hu : u < N) (ha : a < M) (hh : -4611686018427387904 ≤ e.h ∧ e.h ≤ 4611686018427387904) (r : Bool) (hr : strP hd X E H e = r) :
    Calls Try.prog 43 #[.pointer (some ⟨g, 0, none⟩), evW e] w fun e' w' => e' = .returned (.bool r) ∧ Below w.heap.size w w' := by
  have hmost := fun W (hb : Below w.heap.size w W) => most_is g b N M s t u a K Q X E H e W (hM.below hb) (hQ.on hb) he hea hu ha
  have HMO := Lib.hid hmost
  obtain ⟨v, hv⟩ : ∃ v, hd a = v := ⟨_, rfl⟩
  have hvN : v < N := by rw [← hv]; exact hG.hdl a ha
  obtain ⟨bH, oH, hH⟩ := hI.iH.adr (by omega)
  obtain ⟨hbH, ch⟩ := tab_cell (hH ▸ hI.iH) ha
  obtain ⟨bV, oV, hV, hbV, cy⟩ := hOf_cel hQ.iH hvN
  have hr2 : (decide (hOf H v = e.h - 1) && decide (e.d = min (hOf E u) (hOf X a))) = r := by rw [← hr, ← hv]; unfold strP; rw [he, hea]; rfl
  have hbox := hM.box
  obtain ⟨AF, cF, AH, cH, AR, cR, AC, cC, AA, cA, AB, cB⟩ := K
  obtain ⟨AX, cX, AE, cE, AHH, cHH⟩ := Q
  obtain ⟨who, what, eu, arc, d0, h0, low⟩ := e
  dsimp only [evW] at hH hV he hea hh hbox HMO hr2 ⊢
  subst hH; subst hV; subst he; subst hea
  rw [hv] at ch
  obtain ⟨y, hy⟩ : ∃ y, hOf H v = y := ⟨_, rfl⟩
  rw [hy] at cy hr2
  obtain ⟨mn, hmn⟩ : ∃ mn, min (hOf E u) (hOf X a) = mn := ⟨_, rfl⟩
  rw [hmn] at HMO hr2
  have hw1 : IntKind.i64.wrap (h0 - 1) = h0 - 1 := wrap_in (by omega) (by omega)
  have hgl := hbox.lt
  obtain ⟨b1, i1⟩ : ∃ b1, decide (y = h0 - 1) = b1 := ⟨_, rfl⟩
  obtain ⟨b2, i2⟩ : ∃ b2, decide (d0 = mn) = b2 := ⟨_, rfl⟩
  rw [i1, i2] at hr2
  have j1 : (y == h0 - 1) = b1 := by rw [← i1]; rfl
  have j2 : (d0 == mn) = b2 := by rw [← i2]; rfl
  have HR := Lib.hid hr2
  clear hmost hG hI hM hQ hr hr2 hv hy hmn i1 i2 hh
  go_enter Try.func43, Try.ntmps43
  go_wp2_with fail
  obtain ⟨w1, hw1⟩ : ∃ w1, w.alloc (.cells #[.int .i64 who, .int .u8 what, .int .i64 (u : Int), .int .i64 (a : Int), .int .i64 d0, .int .i64 h0, .int .i64 low] 39) = w1 := ⟨_, rfl⟩
  have B1 : Below w.heap.size w w1 := by rw [← hw1]; exact below_alloc _
  have C1 : Blk w1 w.heap.size 39 #[.int .i64 who, .int .u8 what, .int .i64 (u : Int), .int .i64 (a : Int), .int .i64 d0, .int .i64 h0, .int .i64 low] := by rw [← hw1]; exact Blk.new rfl
  have M1 := hbox.below B1 hgl
  rw [hw1]
  clear hw1
  have hkeep : ∀ W', Below w1.heap.size w1 W' → Below w1.heap.size w1 W' ∧ W'.cell? ⟨g, 0, none⟩ = some (.int .i64 (N : Int)) ∧ W'.cell? ⟨g, 1, none⟩ = some (.int .i64 (s : Int)) ∧ W'.cell? ⟨g, 2, none⟩ = some (.int .i64 (t : Int)) ∧ W'.cell? ⟨g, 3, none⟩ = some (.slice AF (N + 1) cF) ∧ W'.cell? ⟨g, 4, none⟩ = some (.slice (some ⟨bH, oH, none⟩) M cH) ∧ W'.cell? ⟨g, 5, none⟩ = some (.slice AR M cR) ∧ W'.cell? ⟨g, 6, none⟩ = some (.slice AC M cC) ∧ W'.cell? ⟨g, 7, none⟩ = some (.slice AA M cA) ∧ W'.cell? ⟨g, 8, none⟩ = some (.slice AB M cB) ∧ W'.cell? ⟨g, 9, none⟩ = some (.slice AX M cX) ∧ W'.cell? ⟨g, 10, none⟩ = some (.slice AE N cE) ∧ W'.cell? ⟨g, 11, none⟩ = some (.slice (some ⟨bV, oV, none⟩) N cHH) ∧ W'.cell? ⟨g, 12, none⟩ = some (.map (some b)) ∧ W'.cell? ⟨w.heap.size, 0, none⟩ = some (.int .i64 who) ∧ W'.cell? ⟨w.heap.size, 1, none⟩ = some (.int .u8 what) ∧ W'.cell? ⟨w.heap.size, 2, none⟩ = some (.int .i64 (u : Int)) ∧ W'.cell? ⟨w.heap.size, 3, none⟩ = some (.int .i64 (a : Int)) ∧ W'.cell? ⟨w.heap.size, 4, none⟩ = some (.int .i64 d0) ∧ W'.cell? ⟨w.heap.size, 5, none⟩ = some (.int .i64 h0) ∧ W'.cell? ⟨w.heap.size, 6, none⟩ = some (.int .i64 low) ∧ W'.cell? ⟨bH, oH + a, none⟩ = some (.int .i64 (v : Int)) ∧ W'.cell? ⟨bV, oV + v, none⟩ = some (.int .i64 y) := fun W' hb => by
    obtain ⟨m0, m1, m2, m3, m4, m5, m6, m7, m8, m9, m10, m11, m12⟩ := (M1.below hb M1.lt).at13
    obtain ⟨e0, e1, e2, e3, e4, e5, e6⟩ := (C1.below hb C1.lt).at7
    have hbb := below_step B1 hb
    exact ⟨hb, m0, m1, m2, m3, m4, m5, m6, m7, m8, m9, m10, m11, m12, e0, e1, e2, e3, e4, e5, e6, (hbb.cell (p := ⟨bH, oH + a, none⟩) hbH).trans ch, (hbb.cell (p := ⟨bV, oV + v, none⟩) hbV).trans cy⟩
  have HKEEP := Lib.hid hkeep
  have HB1 := Lib.hid B1
  clear hkeep hbox B1 C1 M1 ch cy
  cases b1

  · skip
    refine wp_region_held_drew (S := fun W' => Below w1.heap.size w1 W' ∧ W'.cell? ⟨g, 0, none⟩ = some (.int .i64 (N : Int)) ∧ W'.cell? ⟨g, 1, none⟩ = some (.int .i64 (s : Int)) ∧ W'.cell? ⟨g, 2, none⟩ = some (.int .i64 (t : Int)) ∧ W'.cell? ⟨g, 3, none⟩ = some (.slice AF (N + 1) cF) ∧ W'.cell? ⟨g, 4, none⟩ = some (.slice (some ⟨bH, oH, none⟩) M cH) ∧ W'.cell? ⟨g, 5, none⟩ = some (.slice AR M cR) ∧ W'.cell? ⟨g, 6, none⟩ = some (.slice AC M cC) ∧ W'.cell? ⟨g, 7, none⟩ = some (.slice AA M cA) ∧ W'.cell? ⟨g, 8, none⟩ = some (.slice AB M cB) ∧ W'.cell? ⟨g, 9, none⟩ = some (.slice AX M cX) ∧ W'.cell? ⟨g, 10, none⟩ = some (.slice AE N cE) ∧ W'.cell? ⟨g, 11, none⟩ = some (.slice (some ⟨bV, oV, none⟩) N cHH) ∧ W'.cell? ⟨g, 12, none⟩ = some (.map (some b)) ∧ W'.cell? ⟨w.heap.size, 0, none⟩ = some (.int .i64 who) ∧ W'.cell? ⟨w.heap.size, 1, none⟩ = some (.int .u8 what) ∧ W'.cell? ⟨w.heap.size, 2, none⟩ = some (.int .i64 (u : Int)) ∧ W'.cell? ⟨w.heap.size, 3, none⟩ = some (.int .i64 (a : Int)) ∧ W'.cell? ⟨w.heap.size, 4, none⟩ = some (.int .i64 d0) ∧ W'.cell? ⟨w.heap.size, 5, none⟩ = some (.int .i64 h0) ∧ W'.cell? ⟨w.heap.size, 6, none⟩ = some (.int .i64 low) ∧ W'.cell? ⟨bH, oH + a, none⟩ = some (.int .i64 (v : Int)) ∧ W'.cell? ⟨bV, oV + v, none⟩ = some (.int .i64 y)) (by kernel_rfl) (HKEEP.out _ (Below.refl _ _).drew) (fun hS0 => ?_)
    refine tk (v := ?_) 0 5 rfl ?_ ?_
    rotate_left
    · (intro W hSw; obtain ⟨-, m0, m1, m2, m3, m4, m5, m6, m7, m8, m9, m10, m11, m12, e0, e1, e2, e3, e4, e5, e6, ch, cy⟩ := hSw; go_simp; try with_reducible rfl)
    simp only [Act.put, pa, pz, ps]
    refine tk (v := ?_) 1 6 rfl ?_ ?_
    rotate_left
    · (intro W hSw; obtain ⟨-, m0, m1, m2, m3, m4, m5, m6, m7, m8, m9, m10, m11, m12, e0, e1, e2, e3, e4, e5, e6, ch, cy⟩ := hSw; go_simp; try with_reducible rfl)
    simp only [Act.put, pa, pz, ps]
    refine tk (v := ?_) 2 7 rfl ?_ ?_
    rotate_left
    · (intro W hSw; obtain ⟨-, m0, m1, m2, m3, m4, m5, m6, m7, m8, m9, m10, m11, m12, e0, e1, e2, e3, e4, e5, e6, ch, cy⟩ := hSw; go_simp; try with_reducible rfl)
    simp only [Act.put, pa, pz, ps]
    refine tk (v := ?_) 3 8 rfl ?_ ?_
    rotate_left
    · (intro W hSw; obtain ⟨-, m0, m1, m2, m3, m4, m5, m6, m7, m8, m9, m10, m11, m12, e0, e1, e2, e3, e4, e5, e6, ch, cy⟩ := hSw; go_simp; try with_reducible rfl)
    simp only [Act.put, pa, pz, ps]
    refine tk (v := ?_) 4 9 rfl ?_ ?_
    rotate_left
    · (intro W hSw; obtain ⟨-, m0, m1, m2, m3, m4, m5, m6, m7, m8, m9, m10, m11, m12, e0, e1, e2, e3, e4, e5, e6, ch, cy⟩ := hSw; go_simp; try with_reducible rfl)
    simp only [Act.put, pa, pz, ps]
    refine tk (v := ?_) 5 10 rfl ?_ ?_
    rotate_left
    · (intro W hSw; obtain ⟨-, m0, m1, m2, m3, m4, m5, m6, m7, m8, m9, m10, m11, m12, e0, e1, e2, e3, e4, e5, e6, ch, cy⟩ := hSw; go_simp; try with_reducible rfl)
    simp only [Act.put, pa, pz, ps]
    refine tk (v := ?_) 6 11 rfl ?_ ?_
    rotate_left
    · (intro W hSw; obtain ⟨-, m0, m1, m2, m3, m4, m5, m6, m7, m8, m9, m10, m11, m12, e0, e1, e2, e3, e4, e5, e6, ch, cy⟩ := hSw; go_simp; try with_reducible rfl)
    simp only [Act.put, pa, pz, ps]
    refine tk (v := ?_) 7 12 rfl ?_ ?_
    rotate_left
    · (intro W hSw; obtain ⟨-, m0, m1, m2, m3, m4, m5, m6, m7, m8, m9, m10, m11, m12, e0, e1, e2, e3, e4, e5, e6, ch, cy⟩ := hSw; go_simp; try with_reducible rfl)
    simp only [Act.put, pa, pz, ps]
    refine tk (v := ?_) 8 13 rfl ?_ ?_
    rotate_left
    · (intro W hSw; obtain ⟨-, m0, m1, m2, m3, m4, m5, m6, m7, m8, m9, m10, m11, m12, e0, e1, e2, e3, e4, e5, e6, ch, cy⟩ := hSw; go_simp; try with_reducible rfl)
    simp only [Act.put, pa, pz, ps]
    refine tk (v := ?_) 9 14 rfl ?_ ?_
    rotate_left
    · (intro W hSw; obtain ⟨-, m0, m1, m2, m3, m4, m5, m6, m7, m8, m9, m10, m11, m12, e0, e1, e2, e3, e4, e5, e6, ch, cy⟩ := hSw; go_simp; try with_reducible rfl)
    simp only [Act.put, pa, pz, ps]
    refine tk (v := ?_) 10 15 rfl ?_ ?_
    rotate_left
    · (intro W hSw; obtain ⟨-, m0, m1, m2, m3, m4, m5, m6, m7, m8, m9, m10, m11, m12, e0, e1, e2, e3, e4, e5, e6, ch, cy⟩ := hSw; go_simp; try with_reducible rfl)
    simp only [Act.put, pa, pz, ps]
    refine tk (v := ?_) 11 16 rfl ?_ ?_
    rotate_left
    · (intro W hSw; obtain ⟨-, m0, m1, m2, m3, m4, m5, m6, m7, m8, m9, m10, m11, m12, e0, e1, e2, e3, e4, e5, e6, ch, cy⟩ := hSw; go_simp; try with_reducible rfl)
    simp only [Act.put, pa, pz, ps]
    refine tk (v := ?_) 12 17 rfl ?_ ?_
    rotate_left
    · (intro W hSw; obtain ⟨-, m0, m1, m2, m3, m4, m5, m6, m7, m8, m9, m10, m11, m12, e0, e1, e2, e3, e4, e5, e6, ch, cy⟩ := hSw; go_simp; try with_reducible rfl)
    simp only [Act.put, pa, pz, ps]
    refine tk (v := ?_) 13 18 rfl ?_ ?_
    rotate_left
    · (intro W hSw; obtain ⟨-, m0, m1, m2, m3, m4, m5, m6, m7, m8, m9, m10, m11, m12, e0, e1, e2, e3, e4, e5, e6, ch, cy⟩ := hSw; go_simp; try with_reducible rfl)
    simp only [Act.put, pa, pz, ps]
    refine tk (v := ?_) 14 19 rfl ?_ ?_
    rotate_left
    · (intro W hSw; obtain ⟨-, m0, m1, m2, m3, m4, m5, m6, m7, m8, m9, m10, m11, m12, e0, e1, e2, e3, e4, e5, e6, ch, cy⟩ := hSw; go_simp; try with_reducible rfl)
    simp only [Act.put, pa, pz, ps]
    refine tk (v := ?_) 15 20 rfl ?_ ?_
    rotate_left
    · (intro W hSw; obtain ⟨-, m0, m1, m2, m3, m4, m5, m6, m7, m8, m9, m10, m11, m12, e0, e1, e2, e3, e4, e5, e6, ch, cy⟩ := hSw; go_simp; try with_reducible rfl)
    simp only [Act.put, pa, pz, ps]
    refine tk (v := ?_) 16 21 rfl ?_ ?_
    rotate_left
    · (intro W hSw; obtain ⟨-, m0, m1, m2, m3, m4, m5, m6, m7, m8, m9, m10, m11, m12, e0, e1, e2, e3, e4, e5, e6, ch, cy⟩ := hSw; go_simp; try with_reducible rfl)
    simp only [Act.put, pa, pz, ps]
    refine tk (v := ?_) 17 22 rfl ?_ ?_
    rotate_left
    · (intro W hSw; obtain ⟨-, m0, m1, m2, m3, m4, m5, m6, m7, m8, m9, m10, m11, m12, e0, e1, e2, e3, e4, e5, e6, ch, cy⟩ := hSw; go_simp; try with_reducible rfl)
    simp only [Act.put, pa, pz, ps]
    refine tk (v := ?_) 18 23 rfl ?_ ?_
    rotate_left
    · (intro W hSw; obtain ⟨-, m0, m1, m2, m3, m4, m5, m6, m7, m8, m9, m10, m11, m12, e0, e1, e2, e3, e4, e5, e6, ch, cy⟩ := hSw; go_simp; try with_reducible rfl)
    simp only [Act.put, pa, pz, ps]
    refine tk (v := ?_) 19 24 rfl ?_ ?_
    rotate_left
    · (intro W hSw; obtain ⟨-, m0, m1, m2, m3, m4, m5, m6, m7, m8, m9, m10, m11, m12, e0, e1, e2, e3, e4, e5, e6, ch, cy⟩ := hSw; go_simp; try with_reducible rfl)
    simp only [Act.put, pa, pz, ps]
    refine tk (v := ?_) 20 25 rfl ?_ ?_
    rotate_left
    · (intro W hSw; obtain ⟨-, m0, m1, m2, m3, m4, m5, m6, m7, m8, m9, m10, m11, m12, e0, e1, e2, e3, e4, e5, e6, ch, cy⟩ := hSw; go_simp; try with_reducible rfl)
    simp only [Act.put, pa, pz, ps]
    first
      | (refine tk (v := ?_) 21 26 rfl ?_ ?_
         rotate_left
         · (intro W hSw; obtain ⟨-, m0, m1, m2, m3, m4, m5, m6, m7, m8, m9, m10, m11, m12, e0, e1, e2, e3, e4, e5, e6, ch, cy⟩ := hSw; go_simp; try with_reducible rfl))
      | (refine tu 21 26 rfl ?_)
    simp only [Act.put, pa, pz, ps]
    first
      | (refine tk (v := ?_) 22 27 rfl ?_ ?_
         rotate_left
         · (intro W hSw; obtain ⟨-, m0, m1, m2, m3, m4, m5, m6, m7, m8, m9, m10, m11, m12, e0, e1, e2, e3, e4, e5, e6, ch, cy⟩ := hSw; go_simp; try with_reducible rfl))
      | (refine tu 22 27 rfl ?_)
    simp only [Act.put, pa, pz, ps]
    first
      | (refine tk (v := ?_) 23 28 rfl ?_ ?_
         rotate_left
         · (intro W hSw; obtain ⟨-, m0, m1, m2, m3, m4, m5, m6, m7, m8, m9, m10, m11, m12, e0, e1, e2, e3, e4, e5, e6, ch, cy⟩ := hSw; go_simp; try with_reducible rfl))
      | (refine tu 23 28 rfl ?_)
    simp only [Act.put, pa, pz, ps]
    first
      | (refine tk (v := ?_) 24 29 rfl ?_ ?_
         rotate_left
         · (intro W hSw; obtain ⟨-, m0, m1, m2, m3, m4, m5, m6, m7, m8, m9, m10, m11, m12, e0, e1, e2, e3, e4, e5, e6, ch, cy⟩ := hSw; go_simp; try with_reducible rfl))
      | (refine tu 24 29 rfl ?_)
    simp only [Act.put, pa, pz, ps]
    refine wpAnyH_ready (rs := [25]) (by kernel_rfl) (by simp) ?_
    refine AllReadyH.cons rfl (fun K hK => ?_) AllReadyH.nil
    go_simp
    first
      | (go_at_call 74; ((with_reducible refine (HMO.out _ ?_).mono ?_); (first | exact below_step HB1.out hS0.1 | skip); rintro e W9 ⟨rfl, B9⟩); refine hK.out _ _ (HKEEP.out _ (below_step hS0.1 B9)) (fun hS26 => ?_))
      | (refine hK.out _ _ (by assumption) (fun hS26 => ?_))
    clear hK K
    try simp only [Act.put, pa, pz, ps]
    first
      | (refine tk (v := ?_) 26 31 rfl ?_ ?_
         rotate_left
         · (intro W hSw; obtain ⟨-, m0, m1, m2, m3, m4, m5, m6, m7, m8, m9, m10, m11, m12, e0, e1, e2, e3, e4, e5, e6, ch, cy⟩ := hSw; go_simp; try with_reducible rfl))
      | (refine tu 26 31 rfl ?_)
    simp only [Act.put, pa, pz, ps]
    refine tk (v := ?_) 27 32 rfl ?_ ?_
    rotate_left
    · (intro W hSw; obtain ⟨-, m0, m1, m2, m3, m4, m5, m6, m7, m8, m9, m10, m11, m12, e0, e1, e2, e3, e4, e5, e6, ch, cy⟩ := hSw; go_simp; try with_reducible rfl)
    simp only [Act.put, pa, pz, ps]
    refine tk (v := ?_) 28 4 rfl ?_ ?_
    rotate_left
    · (intro W hSw; obtain ⟨-, m0, m1, m2, m3, m4, m5, m6, m7, m8, m9, m10, m11, m12, e0, e1, e2, e3, e4, e5, e6, ch, cy⟩ := hSw; go_simp; try with_reducible rfl)
    simp only [Act.put, pa, pz, ps]
    refine wpAnyH_done (by kernel_rfl) ?_ _
    obtain ⟨hB, -⟩ := hS26
    go_wp2_with fail
    go_ret
    exact ⟨by rw [← HR.out]; simp, below_step HB1.out hB⟩

  · skip
    refine wp_region_held_drew (S := fun W' => Below w1.heap.size w1 W' ∧ W'.cell? ⟨g, 0, none⟩ = some (.int .i64 (N : Int)) ∧ W'.cell? ⟨g, 1, none⟩ = some (.int .i64 (s : Int)) ∧ W'.cell? ⟨g, 2, none⟩ = some (.int .i64 (t : Int)) ∧ W'.cell? ⟨g, 3, none⟩ = some (.slice AF (N + 1) cF) ∧ W'.cell? ⟨g, 4, none⟩ = some (.slice (some ⟨bH, oH, none⟩) M cH) ∧ W'.cell? ⟨g, 5, none⟩ = some (.slice AR M cR) ∧ W'.cell? ⟨g, 6, none⟩ = some (.slice AC M cC) ∧ W'.cell? ⟨g, 7, none⟩ = some (.slice AA M cA) ∧ W'.cell? ⟨g, 8, none⟩ = some (.slice AB M cB) ∧ W'.cell? ⟨g, 9, none⟩ = some (.slice AX M cX) ∧ W'.cell? ⟨g, 10, none⟩ = some (.slice AE N cE) ∧ W'.cell? ⟨g, 11, none⟩ = some (.slice (some ⟨bV, oV, none⟩) N cHH) ∧ W'.cell? ⟨g, 12, none⟩ = some (.map (some b)) ∧ W'.cell? ⟨w.heap.size, 0, none⟩ = some (.int .i64 who) ∧ W'.cell? ⟨w.heap.size, 1, none⟩ = some (.int .u8 what) ∧ W'.cell? ⟨w.heap.size, 2, none⟩ = some (.int .i64 (u : Int)) ∧ W'.cell? ⟨w.heap.size, 3, none⟩ = some (.int .i64 (a : Int)) ∧ W'.cell? ⟨w.heap.size, 4, none⟩ = some (.int .i64 d0) ∧ W'.cell? ⟨w.heap.size, 5, none⟩ = some (.int .i64 h0) ∧ W'.cell? ⟨w.heap.size, 6, none⟩ = some (.int .i64 low) ∧ W'.cell? ⟨bH, oH + a, none⟩ = some (.int .i64 (v : Int)) ∧ W'.cell? ⟨bV, oV + v, none⟩ = some (.int .i64 y)) (by kernel_rfl) (HKEEP.out _ (Below.refl _ _).drew) (fun hS0 => ?_)
    refine tk (v := ?_) 0 5 rfl ?_ ?_
    rotate_left
    · (intro W hSw; obtain ⟨-, m0, m1, m2, m3, m4, m5, m6, m7, m8, m9, m10, m11, m12, e0, e1, e2, e3, e4, e5, e6, ch, cy⟩ := hSw; go_simp; try with_reducible rfl)
    simp only [Act.put, pa, pz, ps]
    refine tk (v := ?_) 1 6 rfl ?_ ?_
    rotate_left
    · (intro W hSw; obtain ⟨-, m0, m1, m2, m3, m4, m5, m6, m7, m8, m9, m10, m11, m12, e0, e1, e2, e3, e4, e5, e6, ch, cy⟩ := hSw; go_simp; try with_reducible rfl)
    simp only [Act.put, pa, pz, ps]
    refine tk (v := ?_) 2 7 rfl ?_ ?_
    rotate_left
    · (intro W hSw; obtain ⟨-, m0, m1, m2, m3, m4, m5, m6, m7, m8, m9, m10, m11, m12, e0, e1, e2, e3, e4, e5, e6, ch, cy⟩ := hSw; go_simp; try with_reducible rfl)
    simp only [Act.put, pa, pz, ps]
    refine tk (v := ?_) 3 8 rfl ?_ ?_
    rotate_left
    · (intro W hSw; obtain ⟨-, m0, m1, m2, m3, m4, m5, m6, m7, m8, m9, m10, m11, m12, e0, e1, e2, e3, e4, e5, e6, ch, cy⟩ := hSw; go_simp; try with_reducible rfl)
    simp only [Act.put, pa, pz, ps]
    refine tk (v := ?_) 4 9 rfl ?_ ?_
    rotate_left
    · (intro W hSw; obtain ⟨-, m0, m1, m2, m3, m4, m5, m6, m7, m8, m9, m10, m11, m12, e0, e1, e2, e3, e4, e5, e6, ch, cy⟩ := hSw; go_simp; try with_reducible rfl)
    simp only [Act.put, pa, pz, ps]
    refine tk (v := ?_) 5 10 rfl ?_ ?_
    rotate_left
    · (intro W hSw; obtain ⟨-, m0, m1, m2, m3, m4, m5, m6, m7, m8, m9, m10, m11, m12, e0, e1, e2, e3, e4, e5, e6, ch, cy⟩ := hSw; go_simp; try with_reducible rfl)
    simp only [Act.put, pa, pz, ps]
    refine tk (v := ?_) 6 11 rfl ?_ ?_
    rotate_left
    · (intro W hSw; obtain ⟨-, m0, m1, m2, m3, m4, m5, m6, m7, m8, m9, m10, m11, m12, e0, e1, e2, e3, e4, e5, e6, ch, cy⟩ := hSw; go_simp; try with_reducible rfl)
    simp only [Act.put, pa, pz, ps]
    refine tk (v := ?_) 7 12 rfl ?_ ?_
    rotate_left
    · (intro W hSw; obtain ⟨-, m0, m1, m2, m3, m4, m5, m6, m7, m8, m9, m10, m11, m12, e0, e1, e2, e3, e4, e5, e6, ch, cy⟩ := hSw; go_simp; try with_reducible rfl)
    simp only [Act.put, pa, pz, ps]
    refine tk (v := ?_) 8 13 rfl ?_ ?_
    rotate_left
    · (intro W hSw; obtain ⟨-, m0, m1, m2, m3, m4, m5, m6, m7, m8, m9, m10, m11, m12, e0, e1, e2, e3, e4, e5, e6, ch, cy⟩ := hSw; go_simp; try with_reducible rfl)
    simp only [Act.put, pa, pz, ps]
    refine tk (v := ?_) 9 14 rfl ?_ ?_
    rotate_left
    · (intro W hSw; obtain ⟨-, m0, m1, m2, m3, m4, m5, m6, m7, m8, m9, m10, m11, m12, e0, e1, e2, e3, e4, e5, e6, ch, cy⟩ := hSw; go_simp; try with_reducible rfl)
    simp only [Act.put, pa, pz, ps]
    refine tk (v := ?_) 10 15 rfl ?_ ?_
    rotate_left
    · (intro W hSw; obtain ⟨-, m0, m1, m2, m3, m4, m5, m6, m7, m8, m9, m10, m11, m12, e0, e1, e2, e3, e4, e5, e6, ch, cy⟩ := hSw; go_simp; try with_reducible rfl)
    simp only [Act.put, pa, pz, ps]
    refine tk (v := ?_) 11 16 rfl ?_ ?_
    rotate_left
    · (intro W hSw; obtain ⟨-, m0, m1, m2, m3, m4, m5, m6, m7, m8, m9, m10, m11, m12, e0, e1, e2, e3, e4, e5, e6, ch, cy⟩ := hSw; go_simp; try with_reducible rfl)
    simp only [Act.put, pa, pz, ps]
    refine tk (v := ?_) 12 17 rfl ?_ ?_
    rotate_left
    · (intro W hSw; obtain ⟨-, m0, m1, m2, m3, m4, m5, m6, m7, m8, m9, m10, m11, m12, e0, e1, e2, e3, e4, e5, e6, ch, cy⟩ := hSw; go_simp; try with_reducible rfl)
    simp only [Act.put, pa, pz, ps]
    refine tk (v := ?_) 13 18 rfl ?_ ?_
    rotate_left
    · (intro W hSw; obtain ⟨-, m0, m1, m2, m3, m4, m5, m6, m7, m8, m9, m10, m11, m12, e0, e1, e2, e3, e4, e5, e6, ch, cy⟩ := hSw; go_simp; try with_reducible rfl)
    simp only [Act.put, pa, pz, ps]
    refine tk (v := ?_) 14 19 rfl ?_ ?_
    rotate_left
    · (intro W hSw; obtain ⟨-, m0, m1, m2, m3, m4, m5, m6, m7, m8, m9, m10, m11, m12, e0, e1, e2, e3, e4, e5, e6, ch, cy⟩ := hSw; go_simp; try with_reducible rfl)
    simp only [Act.put, pa, pz, ps]
    refine tk (v := ?_) 15 20 rfl ?_ ?_
    rotate_left
    · (intro W hSw; obtain ⟨-, m0, m1, m2, m3, m4, m5, m6, m7, m8, m9, m10, m11, m12, e0, e1, e2, e3, e4, e5, e6, ch, cy⟩ := hSw; go_simp; try with_reducible rfl)
    simp only [Act.put, pa, pz, ps]
    refine tk (v := ?_) 16 21 rfl ?_ ?_
    rotate_left
    · (intro W hSw; obtain ⟨-, m0, m1, m2, m3, m4, m5, m6, m7, m8, m9, m10, m11, m12, e0, e1, e2, e3, e4, e5, e6, ch, cy⟩ := hSw; go_simp; try with_reducible rfl)
    simp only [Act.put, pa, pz, ps]
    refine tk (v := ?_) 17 22 rfl ?_ ?_
    rotate_left
    · (intro W hSw; obtain ⟨-, m0, m1, m2, m3, m4, m5, m6, m7, m8, m9, m10, m11, m12, e0, e1, e2, e3, e4, e5, e6, ch, cy⟩ := hSw; go_simp; try with_reducible rfl)
    simp only [Act.put, pa, pz, ps]
    refine tk (v := ?_) 18 23 rfl ?_ ?_
    rotate_left
    · (intro W hSw; obtain ⟨-, m0, m1, m2, m3, m4, m5, m6, m7, m8, m9, m10, m11, m12, e0, e1, e2, e3, e4, e5, e6, ch, cy⟩ := hSw; go_simp; try with_reducible rfl)
    simp only [Act.put, pa, pz, ps]
    refine tk (v := ?_) 19 24 rfl ?_ ?_
    rotate_left
    · (intro W hSw; obtain ⟨-, m0, m1, m2, m3, m4, m5, m6, m7, m8, m9, m10, m11, m12, e0, e1, e2, e3, e4, e5, e6, ch, cy⟩ := hSw; go_simp; try with_reducible rfl)
    simp only [Act.put, pa, pz, ps]
    refine tk (v := ?_) 20 25 rfl ?_ ?_
    rotate_left
    · (intro W hSw; obtain ⟨-, m0, m1, m2, m3, m4, m5, m6, m7, m8, m9, m10, m11, m12, e0, e1, e2, e3, e4, e5, e6, ch, cy⟩ := hSw; go_simp; try with_reducible rfl)
    simp only [Act.put, pa, pz, ps]
    first
      | (refine tk (v := ?_) 21 26 rfl ?_ ?_
         rotate_left
         · (intro W hSw; obtain ⟨-, m0, m1, m2, m3, m4, m5, m6, m7, m8, m9, m10, m11, m12, e0, e1, e2, e3, e4, e5, e6, ch, cy⟩ := hSw; go_simp; try with_reducible rfl))
      | (refine tu 21 26 rfl ?_)
    simp only [Act.put, pa, pz, ps]
    first
      | (refine tk (v := ?_) 22 27 rfl ?_ ?_
         rotate_left
         · (intro W hSw; obtain ⟨-, m0, m1, m2, m3, m4, m5, m6, m7, m8, m9, m10, m11, m12, e0, e1, e2, e3, e4, e5, e6, ch, cy⟩ := hSw; go_simp; try with_reducible rfl))
      | (refine tu 22 27 rfl ?_)
    simp only [Act.put, pa, pz, ps]
    first
      | (refine tk (v := ?_) 23 28 rfl ?_ ?_
         rotate_left
         · (intro W hSw; obtain ⟨-, m0, m1, m2, m3, m4, m5, m6, m7, m8, m9, m10, m11, m12, e0, e1, e2, e3, e4, e5, e6, ch, cy⟩ := hSw; go_simp; try with_reducible rfl))
      | (refine tu 23 28 rfl ?_)
    simp only [Act.put, pa, pz, ps]
    first
      | (refine tk (v := ?_) 24 29 rfl ?_ ?_
         rotate_left
         · (intro W hSw; obtain ⟨-, m0, m1, m2, m3, m4, m5, m6, m7, m8, m9, m10, m11, m12, e0, e1, e2, e3, e4, e5, e6, ch, cy⟩ := hSw; go_simp; try with_reducible rfl))
      | (refine tu 24 29 rfl ?_)
    simp only [Act.put, pa, pz, ps]
    refine wpAnyH_ready (rs := [25]) (by kernel_rfl) (by simp) ?_
    refine AllReadyH.cons rfl (fun K hK => ?_) AllReadyH.nil
    go_simp
    first
      | (go_at_call 74; ((with_reducible refine (HMO.out _ ?_).mono ?_); (first | exact below_step HB1.out hS0.1 | skip); rintro e W9 ⟨rfl, B9⟩); refine hK.out _ _ (HKEEP.out _ (below_step hS0.1 B9)) (fun hS26 => ?_))
      | (refine hK.out _ _ (by assumption) (fun hS26 => ?_))
    clear hK K
    try simp only [Act.put, pa, pz, ps]
    first
      | (refine tk (v := ?_) 26 31 rfl ?_ ?_
         rotate_left
         · (intro W hSw; obtain ⟨-, m0, m1, m2, m3, m4, m5, m6, m7, m8, m9, m10, m11, m12, e0, e1, e2, e3, e4, e5, e6, ch, cy⟩ := hSw; go_simp; try with_reducible rfl))
      | (refine tu 26 31 rfl ?_)
    simp only [Act.put, pa, pz, ps]
    refine tk (v := ?_) 27 32 rfl ?_ ?_
    rotate_left
    · (intro W hSw; obtain ⟨-, m0, m1, m2, m3, m4, m5, m6, m7, m8, m9, m10, m11, m12, e0, e1, e2, e3, e4, e5, e6, ch, cy⟩ := hSw; go_simp; try with_reducible rfl)
    simp only [Act.put, pa, pz, ps]
    refine tk (v := ?_) 28 4 rfl ?_ ?_
    rotate_left
    · (intro W hSw; obtain ⟨-, m0, m1, m2, m3, m4, m5, m6, m7, m8, m9, m10, m11, m12, e0, e1, e2, e3, e4, e5, e6, ch, cy⟩ := hSw; go_simp; try with_reducible rfl)
    simp only [Act.put, pa, pz, ps]
    refine wpAnyH_done (by kernel_rfl) ?_ _
    obtain ⟨hB, -⟩ := hS26
    go_wp2_with fail
    go_ret
    exact ⟨by rw [← HR.out]; simp, below_step HB1.out hB⟩


set_option maxHeartbeats 8000000 in
theorem rlow_is (g b N M s t u : Nat) (K : CsrS) (Q : PreS) (fst hd rv : Nat → Nat) (X E H : List Int) (w : World) (hG : Grid N M fst hd rv) (hI : GridIn w w.heap.size N M K fst hd rv) (hM : Mch w g b N M s t K M N N Q) (hQ : StIn w w.heap.size M N N Q X E H) (hu : u < N) (hN : N ≤ 4096) (hMM : M ≤ 32768) :
    Calls Try.prog 75 #[.pointer (some ⟨g, 0, none⟩), .int .i64 (u : Int)] w fun e' w' => e' = .returned (.tuple #[.int .i64 ((lowO fst hd X H u (fst (u + 1) - fst u)).getD 0), .bool (lowO fst hd X H u (fst (u + 1) - fst u)).isSome]) ∧ Below w.heap.size w w' := by
  have hlen := fun W => len2_any N M s t K W
  have HL := Lib.hid hlen
  have hends := fun a (ha : a < M) W (hb : Below w.heap.size w W) => rends_yes N M s t a K fst hd rv W hG (hI.on hb) ha
  have HE := Lib.hid hends
  have HG := Lib.hid hG; have HM := Lib.hid hM; have HQ := Lib.hid hQ
  obtain ⟨bF, oF, hAF⟩ := hI.iF.adr (by omega)
  obtain ⟨hbF, cf0⟩ := tab_cell (k := u) (hAF ▸ hI.iF) (by omega)
  obtain ⟨-, cf1⟩ := tab_cell (k := u + 1) (hAF ▸ hI.iF) (by omega)
  have hmono := hG.mono u hu
  have hfle := hG.fle (v := u + 1) (by omega)
  have hrowd : ∀ k, fst u + k < M → hd (fst u + k) < N := fun k hk => hG.hdl _ hk
  have HROW := Lib.hid hrowd
  obtain ⟨k0, hk0⟩ : ∃ k0, fst u = k0 := ⟨_, rfl⟩
  obtain ⟨k1, hk1⟩ : ∃ k1, fst (u + 1) = k1 := ⟨_, rfl⟩
  rw [hk0] at cf0 hmono HROW
  rw [hk1] at cf1 hmono hfle
  have hstep : ∀ k, lowO fst hd X H u (k + 1) = if 0 < hOf X (k0 + k) then (match lowO fst hd X H u k with
      | none => some (hOf H (hd (k0 + k)))
      | some l => if hOf H (hd (k0 + k)) < l then some (hOf H (hd (k0 + k))) else some l) else lowO fst hd X H u k := fun k => by rw [← hk0]; rfl
  have HST := Lib.hid hstep
  rw [hk0, hk1]
  obtain ⟨lw, hlw⟩ : ∃ lw, lowO fst hd X H u = lw := ⟨_, rfl⟩
  have hl0 : lw 0 = none := by rw [← hlw]; rfl
  rw [hlw] at HST ⊢
  obtain ⟨AF, cF, AH, cH, AR, cR, AC, cC, AA, cA, AB, cB⟩ := K
  obtain ⟨AX, cX, AE, cE, AHH, cHH⟩ := Q
  dsimp only [csrW] at HL HE hAF
  subst hAF
  clear hlen hends hG hM hQ hI hk0 hk1 hrowd hstep hlw
  have hbox := HM.out.box
  obtain ⟨m0, m1, m2, m3, m4, m5, m6, m7, m8, m9, m10, m11, m12⟩ := hbox.at13
  have hgl := hbox.lt
  have huN1 : (u : Int) < (N : Int) + 1 := by omega
  have hmx1 : (if (k0 : Int) < 0 then 0 else (k0 : Int)) = (k0 : Int) := if_neg (by omega)
  have hmx2 : (if 0 < (k0 : Int) then (k0 : Int) else 0) = (k0 : Int) := by split <;> omega
  clear hbox
  go_enter Try.func75, Try.ntmps75
  go_wp2_with fail
  have HM0 := Lib.hid (Below.refl w.heap.size w)
  go_loopw [6, 7, 8] (fun lo fo ia wr => ∃ k : Nat, k0 + k ≤ k1 ∧ ia = .int .i64 ((k0 + k : Nat) : Int) ∧ lo = .int .i64 ((lw k).getD 0) ∧ fo = .bool (lw k).isSome ∧ Below w.heap.size w wr) (fun _ _ ia _ => k1 - (intOf ia).toNat)
  case atStart => exact ⟨0, by omega, by simp, by rw [hl0]; rfl, by rw [hl0]; rfl, Below.refl _ _⟩
  case round =>
    clear m0 m1 m2 m3 m4 m5 m6 m7 m8 m9 m10 m11 m12 hmx1 hmx2
    obtain ⟨k, hk, rfl, rfl, rfl, hb⟩ := hrel
    obtain ⟨W0, hW0⟩ : ∃ W0, W0 = wr := ⟨_, rfl⟩
    have hMr := HM.out.below hb
    have cfr := (hb.cell (p := ⟨bF, oF + (u + 1), none⟩) hbF).trans cf1
    have hzF : bF < wr.heap.size := by have := hb.size; omega
    have hkeep : ∀ W', Below wr.heap.size wr W' → Below wr.heap.size wr W' ∧ W'.cell? ⟨g, 0, none⟩ = some (.int .i64 (N : Int)) ∧ W'.cell? ⟨g, 1, none⟩ = some (.int .i64 (s : Int)) ∧ W'.cell? ⟨g, 2, none⟩ = some (.int .i64 (t : Int)) ∧ W'.cell? ⟨g, 3, none⟩ = some (.slice (some ⟨bF, oF, none⟩) (N + 1) cF) ∧ W'.cell? ⟨g, 4, none⟩ = some (.slice AH M cH) ∧ W'.cell? ⟨g, 5, none⟩ = some (.slice AR M cR) ∧ W'.cell? ⟨g, 6, none⟩ = some (.slice AC M cC) ∧ W'.cell? ⟨g, 7, none⟩ = some (.slice AA M cA) ∧ W'.cell? ⟨g, 8, none⟩ = some (.slice AB M cB) ∧ W'.cell? ⟨g, 9, none⟩ = some (.slice AX M cX) ∧ W'.cell? ⟨g, 10, none⟩ = some (.slice AE N cE) ∧ W'.cell? ⟨g, 11, none⟩ = some (.slice AHH N cHH) ∧ W'.cell? ⟨g, 12, none⟩ = some (.map (some b)) ∧ W'.cell? ⟨bF, oF + (u + 1), none⟩ = some (.int .i64 (k1 : Int)) := fun W' hb' => by
      obtain ⟨m0, m1, m2, m3, m4, m5, m6, m7, m8, m9, m10, m11, m12⟩ := (hMr.below hb').box.at13
      exact ⟨hb', m0, m1, m2, m3, m4, m5, m6, m7, m8, m9, m10, m11, m12, (hb'.cell (p := ⟨bF, oF + (u + 1), none⟩) hzF).trans cfr⟩
    have HKEEP := Lib.hid hkeep
    have HB := Lib.hid hb
    have hw1 : IntKind.i64.wrap ((u : Int) + 1) = (u : Int) + 1 := wrap_in (by omega) (by omega)
    have hu0 : (0 : Int) ≤ (u : Int) + 1 := by omega
    have hu1 : ((u : Int) + 1).toNat = u + 1 := by omega
    have hu2 : (u : Int) + 1 < (N : Int) + 1 := by omega
    have hmn1 : (if (M : Int) < (k1 : Int) then (M : Int) else (k1 : Int)) = (k1 : Int) := if_neg (by omega)
    have hmn2 : (if (k1 : Int) < (M : Int) then (k1 : Int) else (M : Int)) = (k1 : Int) := by split <;> omega
    obtain ⟨bl, hbl⟩ : ∃ bl, decide (k0 + k < k1) = bl := ⟨_, rfl⟩
    have hcmp : decide (((k0 + k : Nat) : Int) < (k1 : Int)) = bl := by rw [← hbl]; by_cases h : k0 + k < k1 <;> simp [h] <;> omega
    clear hkeep hb hMr cfr hW0
    go_wp2_with fail
    refine wp_region_held_drew (S := fun W' => Below wr.heap.size wr W' ∧ W'.cell? ⟨g, 0, none⟩ = some (.int .i64 (N : Int)) ∧ W'.cell? ⟨g, 1, none⟩ = some (.int .i64 (s : Int)) ∧ W'.cell? ⟨g, 2, none⟩ = some (.int .i64 (t : Int)) ∧ W'.cell? ⟨g, 3, none⟩ = some (.slice (some ⟨bF, oF, none⟩) (N + 1) cF) ∧ W'.cell? ⟨g, 4, none⟩ = some (.slice AH M cH) ∧ W'.cell? ⟨g, 5, none⟩ = some (.slice AR M cR) ∧ W'.cell? ⟨g, 6, none⟩ = some (.slice AC M cC) ∧ W'.cell? ⟨g, 7, none⟩ = some (.slice AA M cA) ∧ W'.cell? ⟨g, 8, none⟩ = some (.slice AB M cB) ∧ W'.cell? ⟨g, 9, none⟩ = some (.slice AX M cX) ∧ W'.cell? ⟨g, 10, none⟩ = some (.slice AE N cE) ∧ W'.cell? ⟨g, 11, none⟩ = some (.slice AHH N cHH) ∧ W'.cell? ⟨g, 12, none⟩ = some (.map (some b)) ∧ W'.cell? ⟨bF, oF + (u + 1), none⟩ = some (.int .i64 (k1 : Int))) (by kernel_rfl) (HKEEP.out _ (Below.refl _ _).drew) (fun hS0 => ?_)
    refine tk (v := ?_) 0 21 rfl ?_ ?_
    rotate_left
    · (intro W hSw; obtain ⟨-, m0, m1, m2, m3, m4, m5, m6, m7, m8, m9, m10, m11, m12, cf⟩ := hSw; go_simp; try with_reducible rfl)
    simp only [Act.put, pa, pz, ps]
    refine tk (v := ?_) 1 22 rfl ?_ ?_
    rotate_left
    · (intro W hSw; obtain ⟨-, m0, m1, m2, m3, m4, m5, m6, m7, m8, m9, m10, m11, m12, cf⟩ := hSw; go_simp; try with_reducible rfl)
    simp only [Act.put, pa, pz, ps]
    refine tk (v := ?_) 2 23 rfl ?_ ?_
    rotate_left
    · (intro W hSw; obtain ⟨-, m0, m1, m2, m3, m4, m5, m6, m7, m8, m9, m10, m11, m12, cf⟩ := hSw; go_simp; try with_reducible rfl)
    simp only [Act.put, pa, pz, ps]
    refine tk (v := ?_) 3 24 rfl ?_ ?_
    rotate_left
    · (intro W hSw; obtain ⟨-, m0, m1, m2, m3, m4, m5, m6, m7, m8, m9, m10, m11, m12, cf⟩ := hSw; go_simp; try with_reducible rfl)
    simp only [Act.put, pa, pz, ps]
    refine tk (v := ?_) 4 25 rfl ?_ ?_
    rotate_left
    · (intro W hSw; obtain ⟨-, m0, m1, m2, m3, m4, m5, m6, m7, m8, m9, m10, m11, m12, cf⟩ := hSw; go_simp; try with_reducible rfl)
    simp only [Act.put, pa, pz, ps]
    refine tk (v := ?_) 5 26 rfl ?_ ?_
    rotate_left
    · (intro W hSw; obtain ⟨-, m0, m1, m2, m3, m4, m5, m6, m7, m8, m9, m10, m11, m12, cf⟩ := hSw; go_simp; try with_reducible rfl)
    simp only [Act.put, pa, pz, ps]
    refine tk (v := ?_) 6 27 rfl ?_ ?_
    rotate_left
    · (intro W hSw; obtain ⟨-, m0, m1, m2, m3, m4, m5, m6, m7, m8, m9, m10, m11, m12, cf⟩ := hSw; go_simp; try with_reducible rfl)
    simp only [Act.put, pa, pz, ps]
    refine tk (v := ?_) 7 28 rfl ?_ ?_
    rotate_left
    · (intro W hSw; obtain ⟨-, m0, m1, m2, m3, m4, m5, m6, m7, m8, m9, m10, m11, m12, cf⟩ := hSw; go_simp; try with_reducible rfl)
    simp only [Act.put, pa, pz, ps]
    refine tk (v := ?_) 8 29 rfl ?_ ?_
    rotate_left
    · (intro W hSw; obtain ⟨-, m0, m1, m2, m3, m4, m5, m6, m7, m8, m9, m10, m11, m12, cf⟩ := hSw; go_simp; try with_reducible rfl)
    simp only [Act.put, pa, pz, ps]
    refine tk (v := ?_) 9 30 rfl ?_ ?_
    rotate_left
    · (intro W hSw; obtain ⟨-, m0, m1, m2, m3, m4, m5, m6, m7, m8, m9, m10, m11, m12, cf⟩ := hSw; go_simp; try with_reducible rfl)
    simp only [Act.put, pa, pz, ps]
    refine tk (v := ?_) 10 31 rfl ?_ ?_
    rotate_left
    · (intro W hSw; obtain ⟨-, m0, m1, m2, m3, m4, m5, m6, m7, m8, m9, m10, m11, m12, cf⟩ := hSw; go_simp; try with_reducible rfl)
    simp only [Act.put, pa, pz, ps]
    refine tk (v := ?_) 11 32 rfl ?_ ?_
    rotate_left
    · (intro W hSw; obtain ⟨-, m0, m1, m2, m3, m4, m5, m6, m7, m8, m9, m10, m11, m12, cf⟩ := hSw; go_simp; try with_reducible rfl)
    simp only [Act.put, pa, pz, ps]
    refine tk (v := ?_) 12 33 rfl ?_ ?_
    rotate_left
    · (intro W hSw; obtain ⟨-, m0, m1, m2, m3, m4, m5, m6, m7, m8, m9, m10, m11, m12, cf⟩ := hSw; go_simp; try with_reducible rfl)
    simp only [Act.put, pa, pz, ps]
    refine tk (v := ?_) 13 34 rfl ?_ ?_
    rotate_left
    · (intro W hSw; obtain ⟨-, m0, m1, m2, m3, m4, m5, m6, m7, m8, m9, m10, m11, m12, cf⟩ := hSw; go_simp; try with_reducible rfl)
    simp only [Act.put, pa, pz, ps]
    refine wpAnyH_ready (rs := [14]) (by kernel_rfl) (by simp) ?_
    refine AllReadyH.cons rfl (fun K hK => ?_) AllReadyH.nil
    go_simp
    first
      | (go_at_call 66; ((with_reducible refine (HL.out _).mono ?_); rintro e W9 ⟨rfl, B9⟩); refine hK.out _ _ (HKEEP.out _ (below_step hS0.1 B9)) (fun hS15 => ?_))
    clear hK K
    try simp only [Act.put, pa, pz, ps]
    refine tk (v := ?_) 15 36 rfl ?_ ?_
    rotate_left
    · (intro W hSw; obtain ⟨-, m0, m1, m2, m3, m4, m5, m6, m7, m8, m9, m10, m11, m12, cf⟩ := hSw; go_simp; try with_reducible rfl)
    simp only [Act.put, pa, pz, ps]
    refine tk (v := ?_) 16 37 rfl ?_ ?_
    rotate_left
    · (intro W hSw; obtain ⟨-, m0, m1, m2, m3, m4, m5, m6, m7, m8, m9, m10, m11, m12, cf⟩ := hSw; go_simp; try with_reducible rfl)
    simp only [Act.put, pa, pz, ps]
    refine wpAnyH_done (by kernel_rfl) ?_ _
    have hB2 := Lib.hid (HB.out.trans (hS15.1.mono HB.out.size))
    obtain ⟨W1, hW1⟩ : ∃ W1, W9 = W1 := ⟨_, rfl⟩
    rw [hW1] at hS15 hB2 ⊢
    clear hS0 B9 hW1 hmn1 hmn2 hw1 hu0 hu1 hu2
    obtain ⟨-, m0, m1, m2, m3, m4, m5, m6, m7, m8, m9, m10, m11, m12, cf⟩ := hS15
    have hzg : g < W1.heap.size := by have := hB2.out.size; omega
    cases bl with
    | false =>
      have hkk : k = k1 - k0 := by have := of_decide_eq_false hbl; omega
      subst hkk
      go_wp2_with fail
      go_ret2
      exact ⟨rfl, hB2.out⟩
    | true =>
      have hlt := of_decide_eq_true hbl
      have haM : k0 + k < M := by omega
      go_wp2_with fail
      refine (HE.out _ haM _ hB2.out).mono ?_
      rintro e W2 ⟨rfl, B2⟩
      have hB3 := Lib.hid (hB2.out.trans (B2.mono hB2.out.size))
      have hM2 := HM.out.below hB3.out
      have hvN := HROW.out _ haM
      obtain ⟨bX, oX, hAX, hbX, cx⟩ := hOf_cel HQ.out.iX haM
      obtain ⟨v, hv⟩ : ∃ v, hd (k0 + k) = v := ⟨_, rfl⟩
      have hst := HST.out k
      rw [hv] at hvN hst ⊢
      obtain ⟨bV, oV, hAV, hbV, cv⟩ := hOf_cel HQ.out.iH hvN
      dsimp only at hAX hAV
      subst hAX; subst hAV
      replace cx := (hB3.out.cell (p := ⟨bX, oX + (k0 + k), none⟩) hbX).trans cx
      replace cv := (hB3.out.cell (p := ⟨bV, oV + v, none⟩) hbV).trans cv
      obtain ⟨x, hx⟩ : ∃ x, hOf X (k0 + k) = x := ⟨_, rfl⟩
      obtain ⟨y, hy⟩ : ∃ y, hOf H v = y := ⟨_, rfl⟩
      rw [hx] at cx hst
      rw [hy] at cv hst
      clear m0 m1 m2 m3 m4 m5 m6 m7 m8 m9 m10 m11 m12 cf hzg B2
      obtain ⟨m0, m1, m2, m3, m4, m5, m6, m7, m8, m9, m10, m11, m12⟩ := hM2.box.at13
      have hzg := hM2.box.lt
      have hzx : bX < W2.heap.size := by have := hB3.out.size; omega
      have hzv : bV < W2.heap.size := by have := hB3.out.size; omega
      have hwk : IntKind.i64.wrap (((k0 + k : Nat) : Int) + 1) = ((k0 + (k + 1) : Nat) : Int) := by rw [wrap_in (by omega) (by omega)]; omega
      clear hM2 hx hy hv HM0
      by_cases hx0 : 0 < x
      · have d1 : decide (0 < x) = true := decide_eq_true hx0
        rw [if_pos hx0] at hst
        obtain ⟨ol, hol⟩ : ∃ ol, lw k = ol := ⟨_, rfl⟩
        rw [hol] at hst ⊢
        cases ol with
        | none =>
          have HSTK := Lib.hid (show lw (k + 1) = some y from hst)
          clear hst hol
          go_wp2_with fail
          go_roundw
          case rel => exact ⟨k + 1, by omega, by first | rfl | (simp; omega), by rw [HSTK.out]; rfl, by rw [HSTK.out]; rfl, hB3.out⟩
          case measure => simp [intOf]; omega
        | some l =>
          by_cases hyl : y < l
          · have d2 : decide (y < l) = true := decide_eq_true hyl
            have HSTK := Lib.hid (show lw (k + 1) = some y by rw [hst]; exact if_pos hyl)
            clear hst hol
            go_wp2_with fail
            go_roundw
            case rel => exact ⟨k + 1, by omega, by first | rfl | (simp; omega), by rw [HSTK.out]; rfl, by rw [HSTK.out]; rfl, hB3.out⟩
            case measure => simp [intOf]; omega
          · have d2 : decide (y < l) = false := decide_eq_false hyl
            have HSTK := Lib.hid (show lw (k + 1) = some l by rw [hst]; exact if_neg hyl)
            clear hst hol
            go_wp2_with fail
            go_roundw
            case rel => exact ⟨k + 1, by omega, by first | rfl | (simp; omega), by rw [HSTK.out]; rfl, by rw [HSTK.out]; rfl, hB3.out⟩
            case measure => simp [intOf]; omega
      · have d1 : decide (0 < x) = false := decide_eq_false hx0
        rw [if_neg hx0] at hst
        have HSTK := Lib.hid hst
        clear hst
        go_wp2_with fail
        go_roundw
        case rel => exact ⟨k + 1, by omega, by first | rfl | (simp; omega), by rw [HSTK.out], by rw [HSTK.out], hB3.out⟩
        case measure => simp [intOf]; omega


set_option maxHeartbeats 4000000 in
theorem strictLift_is (g b N M s t u : Nat) (K : CsrS) (Q : PreS) (fst hd rv : Nat → Nat) (X E H : List Int) (e : EvS) (w : World) (hG : Grid N M fst hd rv) (hI : GridIn w w.heap.size N M K fst hd rv) (hM : Mch w g b N M s t K M N N Q) (hQ : StIn w w.heap.size M N N Q X E H) (he : e.u = u) (hu : u < N) (hN : N ≤ 4096) (hMM : M ≤ 32768) (hh : ∀ v, 0 ≤ hOf H v ∧ hOf H v ≤ 10000) (r : Bool) (hr : strL fst hd X E H e = r) :
    Calls Try.prog 44 #[.pointer (some ⟨g, 0, none⟩), evW e] w fun e' w' => e' = .returned (.bool r) ∧ Below w.heap.size w w' := by
  have hlow := fun W (hb : Below w.heap.size w W) => rlow_is g b N M s t u K Q fst hd rv X E H W hG (hI.on hb) (hM.below hb) (hQ.on hb) hu hN hMM
  have HLO := Lib.hid hlow
  obtain ⟨bE, oE, hE, hbE, ce⟩ := hOf_cel hQ.iE hu
  have hbox := hM.box
  obtain ⟨ol, hol⟩ : ∃ ol, lowO fst hd X H u (fst (u + 1) - fst u) = ol := ⟨_, rfl⟩
  have hbd : ∀ l, ol = some l → -10000 ≤ l ∧ l ≤ 10000 := fun l hl => low_in (fst := fst) (hd := hd) (X := X) (H := H) (u := u) (by omega) (fun a => ⟨(hh _).2, by have := (hh (hd a)).1; omega⟩) _ l (hol.trans hl)
  have hr2 : strO (hOf E u) e.h ol = r := by rw [← hr, ← hol]; unfold strL; rw [he]; rfl
  rw [hol] at HLO
  obtain ⟨AF, cF, AH, cH, AR, cR, AC, cC, AA, cA, AB, cB⟩ := K
  obtain ⟨AX, cX, AE, cE, AHH, cHH⟩ := Q
  obtain ⟨who, what, eu, arc, d0, h0, low⟩ := e
  dsimp only [evW] at hE he hbox hr2 ⊢
  subst hE; subst he
  obtain ⟨y, hy⟩ : ∃ y, hOf E u = y := ⟨_, rfl⟩
  rw [hy] at ce hr2
  have hgl := hbox.lt
  clear hlow hG hI hM hQ hr hy hol hh
  obtain ⟨w1, hw1⟩ : ∃ w1, w.alloc (.cells #[.int .i64 who, .int .u8 what, .int .i64 (u : Int), .int .i64 arc, .int .i64 d0, .int .i64 h0, .int .i64 low] 39) = w1 := ⟨_, rfl⟩
  have B1 : Below w.heap.size w w1 := by rw [← hw1]; exact below_alloc _
  have C1 : Blk w1 w.heap.size 39 #[.int .i64 who, .int .u8 what, .int .i64 (u : Int), .int .i64 arc, .int .i64 d0, .int .i64 h0, .int .i64 low] := by rw [← hw1]; exact Blk.new rfl
  have M1 := hbox.below B1 hgl
  obtain ⟨e0, e1, e2, e3, e4, e5, e6⟩ := C1.at7
  have hzc := C1.lt
  go_enter Try.func44, Try.ntmps44
  go_wp2_with fail
  refine (HLO.out _ B1).mono ?_
  rintro e w2 ⟨rfl, B2⟩
  have BF := below_step B1 B2
  have C2 := C1.below B2 C1.lt
  have M2 := M1.below B2 M1.lt
  replace ce := (BF.cell (p := ⟨bE, oE + u, none⟩) hbE).trans ce
  have hzE : bE < w2.heap.size := by have := BF.size; omega
  clear e0 e1 e2 e3 e4 e5 e6 hzc hw1 B1 B2 C1 M1 HLO
  obtain ⟨e0, e1, e2, e3, e4, e5, e6⟩ := C2.at7
  obtain ⟨m0, m1, m2, m3, m4, m5, m6, m7, m8, m9, m10, m11, m12⟩ := M2.at13
  have hzc := C2.lt; have hzm := M2.lt
  have HBF := Lib.hid BF
  clear C2 M2 hbox BF
  cases ol with
  | none =>
    have HR := Lib.hid (show false = r from hr2)
    clear hr2 hbd
    dsimp only [Option.getD, Option.isSome]
    go_wp2_with fail
    go_quiet (fail)
    go_wp2_with fail
    go_ret
    exact ⟨ret_bool HR.out, below_drewN' HBF.out _⟩
  | some l =>
    have hlb := hbd l rfl
    have hw1 : IntKind.i64.wrap (l + 1) = l + 1 := wrap_in (by omega) (by omega)
    obtain ⟨b1, i1⟩ : ∃ b1, decide (0 < y) = b1 := ⟨_, rfl⟩
    obtain ⟨b2, i2⟩ : ∃ b2, decide (h0 = l + 1) = b2 := ⟨_, rfl⟩
    replace hr2 : (decide (0 < y) && decide (h0 = l + 1)) = r := hr2
    rw [i1, i2] at hr2
    have j2 : (h0 == l + 1) = b2 := by rw [← i2]; rfl
    have HR := Lib.hid hr2
    clear hr2 hbd i2 hlb
    dsimp only [Option.getD, Option.isSome]
    cases b1
    all_goals
      go_wp2_with fail
      go_quiet (fail)
      go_wp2_with fail
      go_ret
      exact ⟨ret_bool (by rw [← HR.out]; simp), below_drewN' HBF.out _⟩


set_option maxHeartbeats 4000000 in
theorem rstrict_is (N M s t : Nat) (K : CsrS) (Q : PreS) (fst hd rv ai : Nat → Nat) (cp : Nat → Int) (bk : Nat → Bool) (X E H : List Int) (ev : EvS) (w : World) (hG : PNet N M s t fst hd rv ai cp bk) (hI : GridIn w w.heap.size N M K fst hd rv) (hQ : StIn w w.heap.size M N N Q X E H) (hS : SndIs N M s t hd rv cp X E H) :
    Calls Try.prog 17 #[csrW N M s t K, preW M N N Q, evW ev] w fun e' w' => e' = .returned (.bool (strB N s t fst hd X E H ev)) ∧ Below w.heap.size w w' := by
  have hN := hG.nN; have hM := hG.nM
  have hat := fun W => at_is N M s t K M N N Q W
  have HA := Lib.hid hat
  have hch := fun g b W (hb : Below w.heap.size w W) hMc => check_is g b N M s t K Q fst hd rv X E H ev W hG.g (hI.on hb) hMc (hQ.on hb) hN
  have HC := Lib.hid hch
  have hhb : ∀ v, 0 ≤ hOf H v ∧ hOf H v ≤ 10000 := fun v => by
    by_cases h : v < N
    · have := hS.bnd v h; omega
    · have : hOf H v = 0 := by unfold hOf; rw [List.getElem?_eq_none (by rw [hS.lh]; omega)]; rfl
      omega
  have hsp : legI N s t fst X E H ev = 0 → ev.what = 1 → ∀ g b W, Below w.heap.size w W → Mch W g b N M s t K M N N Q → Calls Try.prog 43 #[.pointer (some ⟨g, 0, none⟩), evW ev] W fun e' w' => e' = .returned (.bool (strB N s t fst hd X E H ev)) ∧ Below W.heap.size W w' := fun hl hw g b W hb hMc => by
    obtain ⟨hv, hr, hp⟩ := legI_push hl hw
    obtain ⟨u, a, hu, ha, h1, h2, h3, h4, h5, h6, h7⟩ := push_lies hG hv hr
    refine strictPush_is g b N M s t u a K Q fst hd rv X E H ev W hG.g (hI.on hb) hMc (hQ.on hb) hu ha h1 h4 ?_ _ ?_
    · have := hp.2.2.2.1
      have h8 := hhb ev.u.toNat
      rw [this]; omega
    · unfold strB; rw [hl, if_pos hw]; rfl
  have HSP := Lib.hid hsp
  have hsl : legI N s t fst X E H ev = 0 → ev.what ≠ 1 → ∀ g b W, Below w.heap.size w W → Mch W g b N M s t K M N N Q → Calls Try.prog 44 #[.pointer (some ⟨g, 0, none⟩), evW ev] W fun e' w' => e' = .returned (.bool (strB N s t fst hd X E H ev)) ∧ Below W.heap.size W w' := fun hl hw g b W hb hMc => by
    have hw2 : ev.what = 2 := by rcases legI_what hl with h | h <;> omega
    obtain ⟨hv, hp⟩ := legI_lift hl hw2
    obtain ⟨⟨h1, h2⟩, -, -⟩ := hv
    obtain ⟨u, hu⟩ : ∃ u : Nat, ev.u = u := ⟨ev.u.toNat, by omega⟩
    refine strictLift_is g b N M s t u K Q fst hd rv X E H ev W hG.g (hI.on hb) hMc (hQ.on hb) hu (by omega) hN hM hhb _ ?_
    unfold strB; rw [hl, if_neg hw]; rfl
  have HSL := Lib.hid hsl
  have hno : legI N s t fst X E H ev ≠ 0 → strB N s t fst hd X E H ev = false := fun h => by unfold strB; rw [decide_eq_false h]; rfl
  have HNO := Lib.hid hno
  obtain ⟨r, hr⟩ : ∃ r, legI N s t fst X E H ev = r := ⟨_, rfl⟩
  obtain ⟨sb, hsb⟩ : ∃ sb, strB N s t fst hd X E H ev = sb := ⟨_, rfl⟩
  rw [hr] at HC HSP HSL HNO
  rw [hsb] at HSP HSL HNO ⊢
  clear hat hch hsp hsl hno hr hsb hG hI hQ hS hhb hN hM
  obtain ⟨AF, cF, AH, cH, AR, cR, AC, cC, AA, cA, AB, cB⟩ := K
  obtain ⟨AX, cX, AE, cE, AHH, cHH⟩ := Q
  obtain ⟨who, what, eu, arc, d0, h0, low⟩ := ev
  dsimp only [evW, csrW, preW] at HA HC HSP HSL ⊢
  go_enter Try.func17, Try.ntmps17
  go_wp2_with fail
  obtain ⟨w1, hw1⟩ : ∃ w1, (((w.alloc (.cells #[.int .i64 (N : Int), .int .i64 (s : Int), .int .i64 (t : Int), .slice AF (N + 1) cF, .slice AH M cH, .slice AR M cR, .slice AC M cC, .slice AA M cA, .slice AB M cB] 32)).alloc (.cells #[.slice AX M cX, .slice AE N cE, .slice AHH N cHH] 29)).alloc (.cells #[.int .i64 who, .int .u8 what, .int .i64 eu, .int .i64 arc, .int .i64 d0, .int .i64 h0, .int .i64 low] 39)) = w1 := ⟨_, rfl⟩
  have B1 : Below w.heap.size w w1 := by rw [← hw1]; exact (((Below.refl _ w).alloc (Nat.le_refl _) _).alloc (by simp) _).alloc (by simp; omega) _
  have E1 : Blk w1 (w.heap.size + 1 + 1) 39 #[.int .i64 who, .int .u8 what, .int .i64 eu, .int .i64 arc, .int .i64 d0, .int .i64 h0, .int .i64 low] := by rw [← hw1]; exact Blk.new (by simp)
  rw [hw1]
  clear hw1
  refine (HA.out _).mono ?_
  rintro e w2 ⟨g, b, rfl, hMc, hg, hbb, B2⟩
  have E2 := E1.below B2 E1.lt
  have BW := below_step B1 B2
  obtain ⟨e0, e1, e2, e3, e4, e5, e6⟩ := E2.at7
  have hz2 := E2.lt
  have HE2 := Lib.hid E2; have HBW := Lib.hid BW; have HMC := Lib.hid hMc
  clear E1 E2 B1 B2 BW hMc hg hbb HA
  go_wp2_with fail
  refine (HC.out g b _ HBW.out HMC.out).mono ?_
  rintro e w3 ⟨rfl, B3⟩
  have E3 := HE2.out.below B3 HE2.out.lt
  have BW3 := Lib.hid (below_step HBW.out B3)
  have HM3 := Lib.hid (HMC.out.below B3)
  clear e0 e1 e2 e3 e4 e5 e6 hz2 HE2 B3 HC
  obtain ⟨e0, e1, e2, e3, e4, e5, e6⟩ := E3.at7
  have hz3 := E3.lt
  clear E3
  by_cases hr0 : r = 0
  · subst hr0
    clear HNO
    by_cases hw1 : what = 1
    · subst hw1
      go_wp2_with fail
      refine (HSP.out trivial trivial g b _ BW3.out HM3.out).mono ?_
      rintro e w4 ⟨rfl, B4⟩
      have BF := below_step BW3.out B4
      clear B4
      go_wp2_with fail
      go_ret
      exact ⟨rfl, BF⟩
    · have hw2 : (what == 1) = false := by simpa using hw1
      go_wp2_with fail
      refine (HSL.out trivial hw1 g b _ BW3.out HM3.out).mono ?_
      rintro e w4 ⟨rfl, B4⟩
      have BF := below_step BW3.out B4
      clear B4
      go_wp2_with fail
      go_ret
      exact ⟨rfl, BF⟩
  · have hr1 : (r != 0) = true := by simpa using hr0
    have HN := Lib.hid (HNO.out hr0)
    clear HSP HSL HNO hr0
    go_wp2_with fail
    go_ret
    exact ⟨ret_bool HN.out.symm, BW3.out⟩

end Go.Proofs.Ytanifbofjecpmaa
