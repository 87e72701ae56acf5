/- Layer 6: a vertex that is raised: plain facts; what is left of a net has no arc from a vertex to itself. -/
import Derived.Test.YtnhfdmfciddmaaaLabm
namespace Go.Proofs.Ytnhfdmfciddmaaa
open Go.RowKit

theorem CsrL.noloop {N : Nat} {l : List ArcN} {F H R C Ai : List Int} {B : List Bool} (h : CsrL N l F H R C Ai B) (hE : EndsIn N l) : ∀ a, a < firstOf l N → hdOf H (hdOf R a) ≠ hdOf H a := by
  intro a ha
  obtain ⟨i, q, v, u, b, c, hI, hp, hq, hql, e1, e2, _⟩ := h.at hE ha
  obtain ⟨c', hI'⟩ := hI.flip
  have hR : hdOf R a = q := hdOf_eq e2
  have f1 := h.ent.ent _ _ _ _ _ hI' (hI'.ends hE).1 (pos_lt hI' hE)
  rw [hq] at f1
  have e3 : (hdOf H a : Int) = u := hdOf_at e1 (hI.ends hE).2.2.1
  have e4 : (hdOf H (hdOf R a) : Int) = v := by rw [hR]; exact hdOf_at f1.1 (hI.ends hE).1
  intro e
  exact hI.1 (by rw [← e3, ← e4, e])
def LeftOkN (M : Nat) (fst hd rv : Nat → Nat) (X : List Int) : Prop := LeftOk M fst hd rv X ∧ ∀ a, a < M → hd (rv a) ≠ hd a
theorem left_grid_n (N : Nat) (S T : Int) (A : Option Addr) (n c : Nat) (l : List ArcN) (AL : Option Addr) (nl cl : Nat) (L : List Int) (w : World) (hA : Arcs w w.heap.size A n l) (hck : checkF N S T l = 0) (hL : Ints w w.heap.size AL nl L) (hLR : ∀ x ∈ L, InR x)
    (hcap : ∀ a ∈ l, 0 ≤ a.cap ∧ a.cap < 1125899906842624) (hN : N ≤ 1001) (hn : n ≤ 1000) :
    Calls Try.prog 8 #[.agg #[.int .i64 N, .int .i64 S, .int .i64 T, .slice A n c], .slice AL nl cl] w (RetGridO N S T LeftOkN w) := by
  have hla := hA.len
  have hE := (ends_in hck).2.2.2.1
  refine (left_own N S T A n c l AL nl cl L w hA hck hL hLR hcap).mono fun e w' h => ?_
  obtain ⟨x0, K, F, H, R, C, Ai, B, A, c, f, X, he, hc, hi, hx, hr, hw, hb, ho, hof⟩ := h
  obtain ⟨hg, e1, e2⟩ := hc.grid hE
  refine ⟨x0, firstOf l N, K, firstOf l, hdOf H, hdOf R, A, c, X, he, hg, ⟨?_, ?_, ?_⟩, hx, ⟨⟨?_, ?_⟩, hc.noloop hE⟩, hb, ho, hof⟩
  · have := hi.iF
    rw [hc.fst] at this
    exact this
  · have := hi.iH
    rw [e1] at this
    exact this
  · have := hi.iR
    rw [e2] at this
    exact this
  · have h1 := firstOf_le l N
    have h2 := Nat.mul_le_mul hN (show l.length ≤ 1000 by omega)
    omega
  · exact left_bound hr (hw.base.flow rfl) fun a ha => by have := hcap a ha; omega

/-! A vertex is raised, or lowered, to its lowest open end and one more. -/
section
variable {N M s t u b a : Nat} {fst hd rv : Nat → Nat} {X H : List Int} {nv : Int}
theorem raise_is (h : HtIs N s t H) (hu : u < N) (hs : u ≠ s) (ht : u ≠ t) (h0 : 0 ≤ nv) (h1 : nv ≤ N) : HtIs N s t (H.set u nv) := by
  have hl : u < H.length := by rw [h.len]; exact hu
  refine ⟨by simp [h.len], ?_, ?_, fun v hv => ?_⟩
  · rw [hOf_set hl, if_neg (fun e => hs e.symm)]; exact h.src
  · rw [hOf_set hl, if_neg (fun e => ht e.symm)]; exact h.snk
  · rw [hOf_set hl]
    split
    · omega
    · exact h.bnd v hv
theorem raise_mine (hG : Grid N M fst hd rv) (hno : ∀ a, a < M → hd (rv a) ≠ hd a) (h : HtIs N s t H) (hu : u < N) (hl : LowIs fst hd X H u b) (hI : HtIs N s t (H.set u nv)) (hn : nv ≤ hOf H (hd b) + 1) (h1 : fst u ≤ a) (h2 : a < fst (u + 1)) :
    a ∉ slps N M s t M hd rv X (H.set u nv) qSteep := by
  intro hc
  obtain ⟨haM, ho, hs, hq⟩ := (slps_in hI).1 hc
  have ht := hG.tail u a hu h1 h2
  have hlen : u < H.length := by rw [h.len]; exact hu
  have h3 := hl.le a h1 h2 ho
  have hne := hno a haM
  rw [ht] at hq hne
  rw [hOf_set hlen, if_pos rfl, hOf_set hlen, if_neg (fun e => hne e.symm)] at hq
  unfold qSteep at hq
  rw [decide_eq_true_eq] at hq
  omega
theorem raise_other (h : HtIs N s t H) (hu : u < N) (hI : HtIs N s t (H.set u nv)) (h1 : hd (rv a) ≠ u) (h2 : hd a ≠ u) : (a ∈ slps N M s t M hd rv X H qSteep ↔ a ∈ slps N M s t M hd rv X (H.set u nv) qSteep) := by
  have hlen : u < H.length := by rw [h.len]; exact hu
  rw [slps_in h, slps_in hI, hOf_set hlen, if_neg h1, hOf_set hlen, if_neg h2]
theorem raise_in (h : HtIs N s t H) (hu : u < N) (hI : HtIs N s t (H.set u nv)) (h1 : hd (rv a) ≠ u) (h2 : hd a = u) (hge : hOf H u ≤ nv) (hc : a ∈ slps N M s t M hd rv X (H.set u nv) qSteep) : a ∈ slps N M s t M hd rv X H qSteep := by
  have hlen : u < H.length := by rw [h.len]; exact hu
  rw [slps_in hI, hOf_set hlen, if_neg h1, hOf_set hlen, if_pos h2] at hc
  rw [slps_in h]
  refine ⟨hc.1, hc.2.1, hc.2.2.1, ?_⟩
  have := hc.2.2.2
  unfold qSteep at this ⊢
  rw [decide_eq_true_eq] at this ⊢
  rw [h2]
  omega
theorem raise_flat (hG : Grid N M fst hd rv) (hno : ∀ a, a < M → hd (rv a) ≠ hd a) (h : HtIs N s t H) (hu : u < N) (hus : u ≠ s) (hl : LowIs fst hd X H u b) (hI : HtIs N s t (H.set u nv)) (hn : nv = hOf H (hd b) + 1) :
    b ∈ slps N M s t M hd rv X (H.set u nv) qFlat := by
  have hlen : u < H.length := by rw [h.len]; exact hu
  have ht := hG.tail u b hu hl.r1 hl.r2
  have hbM : b < M := Nat.lt_of_lt_of_le hl.r2 (hG.fle (by omega))
  have hne := hno b hbM
  rw [ht] at hne
  rw [slps_in hI, ht, hOf_set hlen, if_pos rfl, hOf_set hlen, if_neg (fun e => hne e.symm)]
  refine ⟨hbM, hl.op, hus, ?_⟩
  unfold qFlat
  rw [decide_eq_true_eq]
  omega
end
/-- Does one of the first ones lie in a row? -/
def anyTo (L : List Nat) (f z : Nat) (i : Nat) : Bool := (L.take i).any fun a => decide (f ≤ a) && decide (a < z)
theorem any_put {L : List Nat} {f z i a : Nat} (h : L[i]? = some a) : anyTo L f z (i + 1) = (anyTo L f z i || (decide (f ≤ a) && decide (a < z))) := by
  unfold anyTo
  rw [List.take_add_one, h]
  simp
theorem any_all {L : List Nat} {f z a : Nat} (h : a ∈ L) (h1 : f ≤ a) (h2 : a < z) : anyTo L f z L.length = true := by
  unfold anyTo
  rw [List.take_length, List.any_eq_true]
  exact ⟨a, h, by simp [h1, h2]⟩
theorem own_none3 (W : World) : (W.alloc (.cells #[] 3)).ownsRow W.heap.size 3 1 (.slice (some ⟨W.heap.size, 0, none⟩) 0 0) 0 [] := World.ownsRow_made W #[] 0 (Nat.le_refl _) (Nat.zero_le _) rfl

end Go.Proofs.Ytnhfdmfciddmaaa
