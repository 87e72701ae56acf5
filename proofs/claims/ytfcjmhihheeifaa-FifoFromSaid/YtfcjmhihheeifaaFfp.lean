/- Layer 8: a run by one worker with a queue: plain facts: each step keeps what may be; how many steps there are at most. -/
import Derived.Test.YtfcjmhihheeifaaPrep
namespace Go.Proofs.Ytfcjmhihheeifaa
open Go.RowKit
set_option maxRecDepth 100000

/-! The first number from lo on that p takes. -/
def seekA (p : Nat → Bool) (lo : Nat) : Nat → Nat
  | 0 => lo
  | k + 1 => if p lo = true then lo else seekA p (lo + 1) k
theorem seek_bd (p : Nat → Bool) : ∀ k lo, lo ≤ seekA p lo k ∧ seekA p lo k ≤ lo + k
  | 0, lo => by simp [seekA]
  | k + 1, lo => by
    have := seek_bd p k (lo + 1)
    simp only [seekA]
    split <;> omega
theorem seek_no (p : Nat → Bool) : ∀ k lo a, lo ≤ a → a < seekA p lo k → p a = false
  | 0, lo, a, h1, h2 => by simp [seekA] at h2; omega
  | k + 1, lo, a, h1, h2 => by
    simp only [seekA] at h2
    split at h2
    · omega
    · rename_i hn
      by_cases e : a = lo
      · subst e; simpa using hn
      · exact seek_no p k (lo + 1) a (by omega) h2
theorem seek_yes (p : Nat → Bool) : ∀ k lo, seekA p lo k < lo + k → p (seekA p lo k) = true
  | 0, lo, h => by simp [seekA] at h
  | k + 1, lo, h => by
    simp only [seekA] at h ⊢
    split
    · assumption
    · rename_i hn
      rw [if_neg hn] at h
      exact seek_yes p k (lo + 1) (by omega)
theorem seek_hit {p : Nat → Bool} {i hi : Nat} (h : i < hi) (hp : p i = true) : seekA p i (hi - i) = i := by
  obtain ⟨k, hk⟩ : ∃ k, hi - i = k + 1 := ⟨hi - i - 1, by omega⟩
  rw [hk]; simp [seekA, hp]
theorem seek_skip {p : Nat → Bool} {i hi : Nat} (h : i < hi) (hp : p i = false) : seekA p i (hi - i) = seekA p (i + 1) (hi - (i + 1)) := by
  obtain ⟨k, hk⟩ : ∃ k, hi - i = k + 1 := ⟨hi - i - 1, by omega⟩
  rw [hk, show hi - (i + 1) = k by omega]; simp [seekA, hp]
theorem seek_end {p : Nat → Bool} {i hi : Nat} (h : ¬ i < hi) : seekA p i (hi - i) = i := by
  rw [show hi - i = 0 by omega]; rfl

/-- The lowest end of k open residual arcs of u; b if there are none. -/
def lowN (fst hd : Nat → Nat) (X H : List Int) (b : Int) (u : Nat) : Nat → Int
  | 0 => b
  | k + 1 => if 0 < hOf X (fst u + k) then min (lowN fst hd X H b u k) (hOf H (hd (fst u + k))) else lowN fst hd X H b u k
section
variable {fst hd : Nat → Nat} {X H : List Int} {b : Int} {u : Nat}
theorem lowN_le : ∀ k j, j < k → 0 < hOf X (fst u + j) → lowN fst hd X H b u k ≤ hOf H (hd (fst u + j))
  | 0, _, h, _ => by omega
  | k + 1, j, h, h0 => by
    simp only [lowN]
    by_cases e : j = k
    · subst e; rw [if_pos h0]; omega
    · have := lowN_le k j (by omega) h0
      split <;> omega
theorem lowN_top : ∀ k, lowN fst hd X H b u k ≤ b
  | 0 => Int.le_refl _
  | k + 1 => by
    have := lowN_top k
    simp only [lowN]
    split <;> omega
theorem lowN_is : ∀ k, lowN fst hd X H b u k = b ∨ ∃ j, j < k ∧ 0 < hOf X (fst u + j) ∧ lowN fst hd X H b u k = hOf H (hd (fst u + j))
  | 0 => .inl rfl
  | k + 1 => by
    have ih := lowN_is k
    simp only [lowN]
    split
    · rename_i h0
      by_cases hl : lowN fst hd X H b u k ≤ hOf H (hd (fst u + k))
      · rw [Int.min_eq_left hl]
        rcases ih with e | ⟨j, h1, h2, h3⟩
        · exact .inl e
        · exact .inr ⟨j, by omega, h2, h3⟩
      · rw [Int.min_eq_right (by omega)]
        exact .inr ⟨k, by omega, h0, rfl⟩
    · rcases ih with e | ⟨j, h1, h2, h3⟩
      · exact .inl e
      · exact .inr ⟨j, by omega, h2, h3⟩
theorem low_first {x : Int} (hle : ∀ c, fst u ≤ c → c < fst (u + 1) → opn X c = true → x ≤ hOf H (hd c)) : ∀ n a, a ≤ n → fst u ≤ a → a < fst (u + 1) → opn X a = true → hOf H (hd a) = x → ∃ c, LowIs fst hd X H u c ∧ hOf H (hd c) = x := by
  intro n
  induction n with
  | zero =>
    intro b hb b1 b2 b3 b4
    exact ⟨b, ⟨b1, b2, b3, fun c c1 c2 c3 => by rw [b4]; exact hle c c1 c2 c3, fun c c1 c2 => by omega⟩, b4⟩
  | succ n ih =>
    intro b hb b1 b2 b3 b4
    by_cases hc : ∃ c, c < b ∧ fst u ≤ c ∧ opn X c = true ∧ hOf H (hd c) = x
    · obtain ⟨c, c1, c2, c3, c4⟩ := hc
      exact ih c (by omega) c2 (by omega) c3 c4
    · refine ⟨b, ⟨b1, b2, b3, fun c c1 c2 c3 => by rw [b4]; exact hle c c1 c2 c3, fun c c1 c2 c3 => ?_⟩, b4⟩
      have h1 := hle c c1 (by omega) c3
      have h2 : hOf H (hd c) ≠ x := fun e => hc ⟨c, c2, c1, c3, e⟩
      rw [b4]; omega
end
section
variable {N M s t : Nat} {fst hd rv ai : Nat → Nat} {cp : Nat → Int} {bk : Nat → Bool} {X E H : List Int}
/-- What a lift finds. -/
theorem StIs.lowest (h : StIs N M s t hd rv cp X E H) (hN : PNet N M s t fst hd rv ai cp bk) {u : Nat} (hu : u < N) (ha : actB s t E u = true) :
    ∃ c, LowIs fst hd X H u c ∧ lowN fst hd X H (2 * N) u (fst (u + 1) - fst u) = hOf H (hd c) := by
  obtain ⟨h1, h2, h3⟩ := act_iff.1 ha
  obtain ⟨a, a1, a2, a3, a4, a5⟩ := h.low hN hu h1 h3
  have hle := lowN_le (fst := fst) (hd := hd) (X := X) (H := H) (b := 2 * N) (u := u) (fst (u + 1) - fst u) (a - fst u) (by omega) (by rw [show fst u + (a - fst u) = a by omega]; exact a4)
  rw [show fst u + (a - fst u) = a by omega] at hle
  rcases lowN_is (fst := fst) (hd := hd) (X := X) (H := H) (b := 2 * N) (u := u) (fst (u + 1) - fst u) with e | ⟨j, h4, h5, h6⟩
  · omega
  · obtain ⟨c, h7, h8⟩ := low_first (fst := fst) (hd := hd) (X := X) (H := H) (u := u) (x := lowN fst hd X H (2 * N) u (fst (u + 1) - fst u)) (fun c c1 c2 c3 => by
      have := lowN_le (fst := fst) (hd := hd) (X := X) (H := H) (b := 2 * N) (u := u) (fst (u + 1) - fst u) (c - fst u) (by omega) (by rw [show fst u + (c - fst u) = c by omega]; exact opn_iff.1 c3)
      rwa [show fst u + (c - fst u) = c by omega] at this) _ (fst u + j) (Nat.le_refl _) (by omega) (by omega) (opn_iff.2 h5) h6.symm
    exact ⟨c, h7, h8.symm⟩
end

/-! A run on its way. -/
structure FS where
  X : List Int
  E : List Int
  H : List Int
  q : List Nat
  nx : Nat → Nat
  P : Nat
  L : Nat
def pshD (hd rv : Nat → Nat) (X E : List Int) (a : Nat) : Int := min (hOf E (hd (rv a))) (hOf X a)
def fsNext (fst hd rv : Nat → Nat) (σ : FS) (u : Nat) : Nat := seekA (admB hd rv σ.X σ.H) (σ.nx u) (fst (u + 1) - σ.nx u)
def fsPush (s t : Nat) (hd rv : Nat → Nat) (σ : FS) (a : Nat) : FS :=
  { X := mvX rv σ.X a (pshD hd rv σ.X σ.E a), E := mvE hd rv σ.E a (pshD hd rv σ.X σ.E a), H := σ.H,
    q := if hOf σ.E (hd a) = 0 ∧ hd a ≠ s ∧ hd a ≠ t then σ.q ++ [hd a] else σ.q, nx := σ.nx, P := σ.P + 1, L := σ.L }
def fsLift (N : Nat) (fst hd : Nat → Nat) (σ : FS) (u : Nat) : FS :=
  { σ with H := σ.H.set u (lowN fst hd σ.X σ.H (2 * N) u (fst (u + 1) - fst u) + 1), nx := nupd σ.nx u (fst u), L := σ.L + 1 }
def fsSeek (fst hd rv : Nat → Nat) (σ : FS) (u : Nat) : FS := { σ with nx := nupd σ.nx u (fsNext fst hd rv σ u) }
def fsStep (N s t : Nat) (fst hd rv : Nat → Nat) (σ : FS) (u : Nat) : FS :=
  if fsNext fst hd rv σ u < fst (u + 1) then fsPush s t hd rv (fsSeek fst hd rv σ u) (fsNext fst hd rv σ u) else fsLift N fst hd (fsSeek fst hd rv σ u) u
/-- u is served. -/
inductive Srv (N s t : Nat) (fst hd rv : Nat → Nat) (u : Nat) : FS → FS → Prop
  | stop {σ : FS} (h : ¬ 0 < hOf σ.E u) : Srv N s t fst hd rv u σ σ
  | step {σ σ' : FS} (h : 0 < hOf σ.E u) (h' : Srv N s t fst hd rv u (fsStep N s t fst hd rv σ u) σ') : Srv N s t fst hd rv u σ σ'
/-- All are served. -/
inductive Fin (N s t : Nat) (fst hd rv : Nat → Nat) : FS → FS → Prop
  | stop {σ : FS} (h : σ.q = []) : Fin N s t fst hd rv σ σ
  | step {σ σ1 σ' : FS} {u : Nat} {r : List Nat} (h : σ.q = u :: r) (h1 : Srv N s t fst hd rv u { σ with q := r } σ1) (h' : Fin N s t fst hd rv σ1 σ') : Fin N s t fst hd rv σ σ'
theorem Srv.same {N s t : Nat} {fst hd rv : Nat → Nat} {u : Nat} {σ σ1 σ2 : FS} (h : Srv N s t fst hd rv u σ σ1) (k : Srv N s t fst hd rv u σ σ2) : σ1 = σ2 := by
  induction h with
  | stop h0 => cases k with
    | stop _ => rfl
    | step h1 _ => exact absurd h1 h0
  | step h0 _ ih => cases k with
    | stop h1 => exact absurd h0 h1
    | step _ h1 => exact ih h1
theorem Fin.same {N s t : Nat} {fst hd rv : Nat → Nat} {σ σ1 σ2 : FS} (h : Fin N s t fst hd rv σ σ1) (k : Fin N s t fst hd rv σ σ2) : σ1 = σ2 := by
  induction h with
  | stop h0 => cases k with
    | stop _ => rfl
    | step h1 _ _ => rw [h0] at h1; cases h1
  | step h0 hs _ ih => cases k with
    | stop h1 => rw [h0] at h1; cases h1
    | step h1 ks k' =>
      rw [h0] at h1
      injection h1 with e1 e2
      subst e1; subst e2
      obtain rfl := hs.same ks
      exact ih k'
theorem fsStep_cnt (N s t : Nat) (fst hd rv : Nat → Nat) (σ : FS) (u : Nat) : (fsStep N s t fst hd rv σ u).P + (fsStep N s t fst hd rv σ u).L = σ.P + σ.L + 1 := by
  unfold fsStep
  split
  · simp only [fsPush, fsSeek]; omega
  · simp only [fsLift, fsSeek]; omega

/-! What a run keeps. -/
def hsum (N : Nat) (H : List Int) : Int := sumN (hOf H) N
structure Gst where
  sat : Nat → Nat
  k : Nat
  ph : Nat
  l0 : Int
  sv : Nat
  ns : Nat
  q1 : List Nat
  q2 : List Nat
structure Core (N M s t : Nat) (fst hd rv : Nat → Nat) (cp : Nat → Int) (C : Nat) (Ls : Int) (σ : FS) (g : Gst) : Prop where
  st : StIs N M s t hd rv cp σ.X σ.E σ.H
  nxb : ∀ v, v < N → fst v ≤ σ.nx v ∧ σ.nx v ≤ fst (v + 1)
  nxa : ∀ v, v < N → ∀ a, fst v ≤ a → a < σ.nx v → admB hd rv σ.X σ.H a = false
  sat : ∀ a, a < M → 2 * (g.sat a : Int) ≤ hOf σ.H (hd a) ∨ (hOf σ.X a = 0 ∧ 2 * (g.sat a : Int) ≤ hOf σ.H (hd (rv a)) + 1)
  cnt : (σ.P : Int) = sumN (fun a => (g.sat a : Int)) M + g.ns
  lif : (σ.L : Int) + Ls ≤ hsum N σ.H
  pss : (g.k : Int) + g.ph ≤ 1 + C + (g.l0 - Ls)
  l0 : g.l0 ≤ hsum N σ.H
  srv : g.sv + g.q1.length ≤ N * g.k
  q : σ.q = g.q1 ++ g.q2
  nd : σ.q.Nodup
  qa : ∀ v, v ∈ σ.q → v < N ∧ actB s t σ.E v = true
  h1 : ∀ v, v ∈ g.q1 → hOf σ.H v ≤ g.ph
  h2 : ∀ v, v ∈ g.q2 → hOf σ.H v + 1 ≤ g.ph + (hsum N σ.H - g.l0)
  nss : g.ns ≤ g.sv
/-- Nobody is served. -/
def HeadS (N M s t : Nat) (fst hd rv : Nat → Nat) (cp : Nat → Int) (C : Nat) (Ls : Int) (σ : FS) : Prop :=
  ∃ g, Core N M s t fst hd rv cp C Ls σ g ∧ ∀ v, v < N → actB s t σ.E v = true → v ∈ σ.q
/-- u is served. -/
structure MidG (N M s t : Nat) (fst hd rv : Nat → Nat) (cp : Nat → Int) (C : Nat) (Ls : Int) (u : Nat) (σ : FS) (g : Gst) : Prop where
  co : Core N M s t fst hd rv cp C Ls σ g
  u0 : u < N
  us : u ≠ s
  ut : u ≠ t
  uq : u ∉ σ.q
  all : ∀ v, v < N → actB s t σ.E v = true → v = u ∨ v ∈ σ.q
  hu : hOf σ.H u ≤ g.ph + (hsum N σ.H - g.l0)
  nu : 0 < hOf σ.E u → g.ns + 1 ≤ g.sv
def MidS (N M s t : Nat) (fst hd rv : Nat → Nat) (cp : Nat → Int) (C : Nat) (Ls : Int) (u : Nat) (σ : FS) : Prop := ∃ g, MidG N M s t fst hd rv cp C Ls u σ g
section
variable {N M s t : Nat} {fst hd rv ai : Nat → Nat} {cp : Nat → Int} {bk : Nat → Bool} {X E H : List Int} {C : Nat} {Ls : Int} {σ : FS} {g : Gst} {u : Nat}
/-! The start. -/
theorem head_start (hN : PNet N M s t fst hd rv ai cp bk) (h : StIs N M s t hd rv cp X E H) (hC : ∀ v, v < N → actB s t E v = true → hOf H v ≤ C) :
    HeadS N M s t fst hd rv cp C (hsum N H) { X := X, E := E, H := H, q := selTo (actB s t E) N, nx := fst, P := 0, L := 0 } := by
  have hl := nodup_le (N := N) (sel_nodup (p := actB s t E) (k := N)) fun v hv => (sel_mem.1 hv).1
  refine ⟨{ sat := fun _ => 0, k := 1, ph := C, l0 := hsum N H, sv := 0, ns := 0, q1 := selTo (actB s t E) N, q2 := [] }, ⟨h, fun v hv => ⟨Nat.le_refl _, hN.g.mono v hv⟩, fun v hv a h1 h2 => by dsimp only at h2; omega, fun a ha => .inl ?_, ?_, ?_, ?_, Int.le_refl _, ?_, ?_, sel_nodup, fun v hv => ?_, fun v hv => ?_, (fun v hv => by cases hv), Nat.le_refl _⟩, fun v hv ha => sel_mem.2 ⟨hv, ha⟩⟩
  · have := (h.bnd (hd a) (hN.g.hdl a ha)).1
    dsimp only; omega
  · simp [sumN_zero]
  · simp
  · dsimp only; omega
  · dsimp only; omega
  · simp
  · exact sel_mem.1 hv
  · exact hC v (sel_mem.1 hv).1 (sel_mem.1 hv).2
/-! The next one is taken out of the queue. -/
theorem head_take {r : List Nat} (hh : HeadS N M s t fst hd rv cp C Ls σ) (hq : σ.q = u :: r) : MidS N M s t fst hd rv cp C Ls u { σ with q := r } ∧ 0 < hOf σ.E u := by
  obtain ⟨g, hc, hall⟩ := hh
  have hu := hc.qa u (by rw [hq]; simp)
  obtain ⟨us, ut, u1⟩ := act_iff.1 hu.2
  have hnd := hc.nd
  rw [hq, List.nodup_cons] at hnd
  refine ⟨?_, u1⟩
  cases hq1 : g.q1 with
  | nil =>
    have hq2 : g.q2 = u :: r := by have := hc.q; rw [hq, hq1] at this; exact this.symm
    have h2 := hc.h2 u (by rw [hq2]; simp)
    have hb := (hc.st.bnd u hu.1).1
    have hl0 := hc.l0
    have hps := hc.pss
    have hsv := hc.srv
    rw [hq1] at hsv
    have hlen := nodup_le (N := N) hc.nd fun v hv => (hc.qa v hv).1
    rw [hq] at hlen
    simp only [List.length_nil, List.length_cons] at hsv hlen
    refine ⟨{ g with k := g.k + 1, ph := (g.ph + (hsum N σ.H - g.l0) - 1).toNat, l0 := hsum N σ.H, sv := g.sv + 1, q1 := r, q2 := [] }, ⟨hc.st, hc.nxb, hc.nxa, hc.sat, hc.cnt, hc.lif, ?_, Int.le_refl _, ?_, by simp, hnd.2, fun v hv => hc.qa v (by rw [hq]; exact List.mem_cons_of_mem _ hv), fun v hv => ?_, (fun v hv => by cases hv), by have := hc.nss; show g.ns ≤ g.sv + 1; omega⟩, hu.1, us, ut, hnd.1, fun v hv ha => ?_, ?_, fun _ => by have := hc.nss; show g.ns + 1 ≤ g.sv + 1; omega⟩
    · dsimp only; omega
    · dsimp only
      rw [Nat.mul_add, Nat.mul_one]; omega
    · have := hc.h2 v (by rw [hq2]; exact List.mem_cons_of_mem _ hv)
      dsimp only; omega
    · have := hall v hv ha
      rw [hq] at this
      simpa using this
    · dsimp only; omega
  | cons x q1' =>
    have hqq := hc.q
    rw [hq, hq1, List.cons_append] at hqq
    injection hqq with e1 e2
    subst e1
    have h1 := hc.h1 u (by rw [hq1]; simp)
    have hl0 := hc.l0
    have hsv := hc.srv
    rw [hq1] at hsv
    simp only [List.length_cons] at hsv
    refine ⟨{ g with sv := g.sv + 1, q1 := q1' }, ⟨hc.st, hc.nxb, hc.nxa, hc.sat, hc.cnt, hc.lif, hc.pss, hc.l0, by dsimp only; omega, e2, hnd.2, fun v hv => hc.qa v (by rw [hq]; exact List.mem_cons_of_mem _ hv), fun v hv => hc.h1 v (by rw [hq1]; exact List.mem_cons_of_mem _ hv), hc.h2, by have := hc.nss; show g.ns ≤ g.sv + 1; omega⟩, hu.1, us, ut, hnd.1, fun v hv ha => ?_, ?_, fun _ => by have := hc.nss; show g.ns + 1 ≤ g.sv + 1; omega⟩
    · have := hall v hv ha
      rw [hq] at this
      simpa using this
    · dsimp only; omega
/-- Whoever has nothing more has been served. -/
theorem mid_done (h : MidS N M s t fst hd rv cp C Ls u σ) (h0 : ¬ 0 < hOf σ.E u) : HeadS N M s t fst hd rv cp C Ls σ := by
  obtain ⟨g, h⟩ := h
  refine ⟨g, h.co, fun v hv ha => (h.all v hv ha).resolve_left fun e => ?_⟩
  subst e
  exact h0 (act_iff.1 ha).2.2
/-! The next residual arc is looked for. -/
theorem mid_seek (h : MidS N M s t fst hd rv cp C Ls u σ) : MidS N M s t fst hd rv cp C Ls u (fsSeek fst hd rv σ u) ∧ fst u ≤ fsNext fst hd rv σ u ∧ fsNext fst hd rv σ u ≤ fst (u + 1) ∧ (fsNext fst hd rv σ u < fst (u + 1) → admB hd rv σ.X σ.H (fsNext fst hd rv σ u) = true) ∧
    (∀ a, fst u ≤ a → a < fsNext fst hd rv σ u → admB hd rv σ.X σ.H a = false) := by
  obtain ⟨g, h⟩ := h
  have hb := h.co.nxb u h.u0
  have hs := seek_bd (admB hd rv σ.X σ.H) (fst (u + 1) - σ.nx u) (σ.nx u)
  have hno : ∀ a, fst u ≤ a → a < fsNext fst hd rv σ u → admB hd rv σ.X σ.H a = false := fun a h1 h2 => by
    by_cases e : a < σ.nx u
    · exact h.co.nxa u h.u0 a h1 e
    · exact seek_no _ _ _ a (by omega) h2
  have hn : fst u ≤ fsNext fst hd rv σ u ∧ fsNext fst hd rv σ u ≤ fst (u + 1) := by unfold fsNext; omega
  refine ⟨⟨g, ⟨h.co.st, fun v hv => ?_, fun v hv a h1 h2 => ?_, h.co.sat, h.co.cnt, h.co.lif, h.co.pss, h.co.l0, h.co.srv, h.co.q, h.co.nd, h.co.qa, h.co.h1, h.co.h2, h.co.nss⟩, h.u0, h.us, h.ut, h.uq, h.all, h.hu, h.nu⟩, hn.1, hn.2, fun hlt => ?_, hno⟩
  · show fst v ≤ nupd σ.nx u _ v ∧ nupd σ.nx u _ v ≤ _
    unfold nupd
    split
    · rename_i e; subst e; exact hn
    · exact h.co.nxb v hv
  · replace h2 : a < nupd σ.nx u (fsNext fst hd rv σ u) v := h2
    unfold nupd at h2
    show admB hd rv σ.X σ.H a = false
    split at h2
    · rename_i e; subst e; exact hno a h1 h2
    · exact h.co.nxa v hv a h1 h2
  · exact seek_yes _ _ _ (by unfold fsNext at hlt; omega)
/-! A push. -/
theorem mid_push (hN : PNet N M s t fst hd rv ai cp bk) (h : MidS N M s t fst hd rv cp C Ls u σ) (h0 : 0 < hOf σ.E u) {a : Nat} (a1 : fst u ≤ a) (a2 : a < fst (u + 1)) (hm : admB hd rv σ.X σ.H a = true) :
    MidS N M s t fst hd rv cp C Ls u (fsPush s t hd rv σ a) := by
  obtain ⟨g, h⟩ := h
  have hc := h.co
  have hu0 := h.u0
  have hfl := hN.g.fle (v := u + 1) (by omega)
  have haM : a < M := by omega
  have htl := hN.g.tail u a hu0 a1 a2
  have hru : actB s t σ.E (hd (rv a)) = true := by rw [htl]; exact act_iff.2 ⟨h.us, h.ut, h0⟩
  obtain ⟨hx, hh⟩ := adm_iff.1 hm
  have hd0 : 0 < pshD hd rv σ.X σ.E a := by unfold pshD; rw [htl]; omega
  have hdX : pshD hd rv σ.X σ.E a ≤ hOf σ.X a := by unfold pshD; omega
  have hdE : pshD hd rv σ.X σ.E a ≤ hOf σ.E (hd (rv a)) := by unfold pshD; omega
  have hst := hc.st.push hN haM hm hru (Int.le_of_lt hd0) hdX hdE
  have hXa := mvX_at hN hc.st.bal.1 haM (pshD hd rv σ.X σ.E a)
  have hEa := mvE_at hN hc.st.le haM (pshD hd rv σ.X σ.E a)
  have hrM := hN.g.rvl a haM
  have hrr := hN.g.rvv a haM
  have hrne := hN.rne haM
  have hnl := hN.nol a haM
  have hvN := hN.g.hdl a haM
  have huv : hd a ≠ u := fun e => hnl (by rw [htl, e])
  rw [htl] at hh
  -- who is active then
  have hEu : hOf (mvE hd rv σ.E a (pshD hd rv σ.X σ.E a)) u = hOf σ.E u - pshD hd rv σ.X σ.E a := by
    rw [hEa, if_neg (fun e => huv e.symm), htl, if_pos rfl]; omega
  have hEv : hOf (mvE hd rv σ.E a (pshD hd rv σ.X σ.E a)) (hd a) = hOf σ.E (hd a) + pshD hd rv σ.X σ.E a := by
    rw [hEa, if_pos rfl, if_neg (fun e => hnl e.symm)]; omega
  have hEo : ∀ v, v ≠ u → v ≠ hd a → hOf (mvE hd rv σ.E a (pshD hd rv σ.X σ.E a)) v = hOf σ.E v := fun v h1 h2 => by
    rw [hEa, if_neg h2, htl, if_neg h1]; omega
  have hup : ∀ v, v ≠ u → actB s t σ.E v = true → actB s t (mvE hd rv σ.E a (pshD hd rv σ.X σ.E a)) v = true := fun v h1 h2 => by
    obtain ⟨k1, k2, k3⟩ := act_iff.1 h2
    refine act_iff.2 ⟨k1, k2, ?_⟩
    by_cases e : v = hd a
    · subst e; rw [hEv]; omega
    · rw [hEo v h1 e]; exact k3
  have hnxa : ∀ v, v < N → ∀ b, fst v ≤ b → b < σ.nx v → admB hd rv (mvX rv σ.X a (pshD hd rv σ.X σ.E a)) σ.H b = false := fun v hv b b1 b2 => by
    have hb := hc.nxa v hv b b1 b2
    cases hcase : admB hd rv (mvX rv σ.X a (pshD hd rv σ.X σ.E a)) σ.H b with
    | false => rfl
    | true =>
      obtain ⟨k1, k2⟩ := adm_iff.1 hcase
      rw [hXa] at k1
      by_cases e1 : b = a
      · subst e1; rw [hm] at hb; cases hb
      · rw [if_neg e1] at k1
        by_cases e2 : b = rv a
        · subst e2; rw [hrr, htl] at k2; omega
        · rw [if_neg e2] at k1
          rw [adm_iff.2 ⟨k1, k2⟩] at hb; cases hb
  have hbal := fun b (hb : b < M) => (hst.bal.2 b hb).1
  -- saturated or not
  obtain ⟨sat', ns', hsat, hcnt, hns⟩ : ∃ (sat' : Nat → Nat) (ns' : Nat), (∀ b, b < M → 2 * (sat' b : Int) ≤ hOf σ.H (hd b) ∨ (hOf (mvX rv σ.X a (pshD hd rv σ.X σ.E a)) b = 0 ∧ 2 * (sat' b : Int) ≤ hOf σ.H (hd (rv b)) + 1)) ∧
      ((σ.P + 1 : Nat) : Int) = sumN (fun b => (sat' b : Int)) M + ns' ∧ (ns' ≤ g.sv ∧ (0 < hOf σ.E u - pshD hd rv σ.X σ.E a → ns' + 1 ≤ g.sv)) := by
    have hPc := hc.cnt
    have hnu := h.nu h0
    have hold : ∀ b, b < M → b ≠ a → 2 * (g.sat b : Int) ≤ hOf σ.H (hd b) ∨ (hOf (mvX rv σ.X a (pshD hd rv σ.X σ.E a)) b = 0 ∧ 2 * (g.sat b : Int) ≤ hOf σ.H (hd (rv b)) + 1) := fun b hb hne => by
      rcases hc.sat b hb with k | ⟨k1, k2⟩
      · exact .inl k
      · by_cases e : b = rv a
        · left
          subst e
          rw [hrr] at k2
          rw [htl]; omega
        · right
          rw [hXa, if_neg hne, if_neg e]
          exact ⟨k1, k2⟩
    have hsa : 2 * (g.sat a : Int) ≤ hOf σ.H (hd a) := by
      rcases hc.sat a haM with k | ⟨k1, k2⟩
      · exact k
      · omega
    by_cases hf : pshD hd rv σ.X σ.E a = hOf σ.X a
    · refine ⟨fun b => if b = a then g.sat a + 1 else g.sat b, g.ns, fun b hb => ?_, ?_, by omega, fun _ => hnu⟩
      · by_cases e : b = a
        · subst e
          right
          dsimp only
          rw [if_pos rfl, hXa, if_pos rfl, htl]
          constructor
          · omega
          · omega
        · dsimp only
          rw [if_neg e]
          exact hold b hb e
      · have := sumN_upd (f := fun b => (g.sat b : Int)) (g := fun b => ((if b = a then g.sat a + 1 else g.sat b : Nat) : Int)) (n := M) (a := a) (d := 1) haM (fun j hj hne => by rw [if_neg hne]) (by rw [if_pos rfl]; omega)
        rw [this]; omega
    · have hd1 : pshD hd rv σ.X σ.E a = hOf σ.E u := by
        have : pshD hd rv σ.X σ.E a = min (hOf σ.E (hd (rv a))) (hOf σ.X a) := rfl
        rw [htl] at this; omega
      refine ⟨g.sat, g.ns + 1, fun b hb => ?_, by omega, by omega, fun k => by omega⟩
      by_cases e : b = a
      · subst e; exact .inl hsa
      · exact hold b hb e
  -- the queue
  have hneg := hc.st.neg
  by_cases hap : hOf σ.E (hd a) = 0 ∧ hd a ≠ s ∧ hd a ≠ t
  · have hnq : hd a ∉ σ.q := fun hq => by
      have := (act_iff.1 (hc.qa _ hq).2).2.2
      omega
    have e1 : fsPush s t hd rv σ a = { X := mvX rv σ.X a (pshD hd rv σ.X σ.E a), E := mvE hd rv σ.E a (pshD hd rv σ.X σ.E a), H := σ.H, q := σ.q ++ [hd a], nx := σ.nx, P := σ.P + 1, L := σ.L } := by
      unfold fsPush; rw [if_pos hap]
    rw [e1]
    refine ⟨{ g with sat := sat', ns := ns', q2 := g.q2 ++ [hd a] }, ⟨hst, hc.nxb, hnxa, hsat, hcnt, hc.lif, hc.pss, hc.l0, hc.srv, ?_, ?_, fun v hv => ?_, hc.h1, fun v hv => ?_, hns.1⟩, hu0, h.us, h.ut, ?_, fun v hv ha => ?_, h.hu, fun k => hns.2 (by rw [← hEu]; exact k)⟩
    · show σ.q ++ [hd a] = g.q1 ++ (g.q2 ++ [hd a])
      rw [hc.q, List.append_assoc]
    · refine List.nodup_append.2 ⟨hc.nd, by simp, fun x hx y hy => ?_⟩
      rw [List.mem_singleton.1 hy]
      exact fun e => hnq (e ▸ hx)
    · rcases List.mem_append.1 hv with hv | hv
      · have := hc.qa v hv
        exact ⟨this.1, hup v (fun e => h.uq (e ▸ hv)) this.2⟩
      · rw [List.mem_singleton.1 hv]
        refine ⟨hvN, act_iff.2 ⟨hap.2.1, hap.2.2, ?_⟩⟩
        show 0 < hOf (mvE hd rv σ.E a (pshD hd rv σ.X σ.E a)) (hd a)
        rw [hEv]; omega
    · rcases List.mem_append.1 hv with hv | hv
      · exact hc.h2 v hv
      · rw [List.mem_singleton.1 hv]
        have := h.hu
        dsimp only
        omega
    · simp only [List.mem_append, List.mem_singleton, not_or]
      exact ⟨h.uq, fun e => huv e.symm⟩
    · by_cases e : v = u
      · exact .inl e
      · right
        by_cases e2 : v = hd a
        · rw [e2]; simp
        · obtain ⟨k1, k2, k3⟩ := act_iff.1 ha
          replace k3 : 0 < hOf (mvE hd rv σ.E a (pshD hd rv σ.X σ.E a)) v := k3
          rw [hEo v e e2] at k3
          exact List.mem_append_left _ ((h.all v hv (act_iff.2 ⟨k1, k2, k3⟩)).resolve_left e)
  · have e1 : fsPush s t hd rv σ a = { X := mvX rv σ.X a (pshD hd rv σ.X σ.E a), E := mvE hd rv σ.E a (pshD hd rv σ.X σ.E a), H := σ.H, q := σ.q, nx := σ.nx, P := σ.P + 1, L := σ.L } := by
      unfold fsPush; rw [if_neg hap]
    rw [e1]
    refine ⟨{ g with sat := sat', ns := ns' }, ⟨hst, hc.nxb, hnxa, hsat, hcnt, hc.lif, hc.pss, hc.l0, hc.srv, hc.q, hc.nd, fun v hv => ?_, hc.h1, hc.h2, hns.1⟩, hu0, h.us, h.ut, h.uq, fun v hv ha => ?_, h.hu, fun k => hns.2 (by rw [← hEu]; exact k)⟩
    · have := hc.qa v hv
      exact ⟨this.1, hup v (fun e => h.uq (e ▸ hv)) this.2⟩
    · by_cases e : v = u
      · exact .inl e
      · right
        obtain ⟨k1, k2, k3⟩ := act_iff.1 ha
        replace k3 : 0 < hOf (mvE hd rv σ.E a (pshD hd rv σ.X σ.E a)) v := k3
        refine (h.all v hv (act_iff.2 ⟨k1, k2, ?_⟩)).resolve_left e
        by_cases e2 : v = hd a
        · have hn := hneg v hv k1
          rw [e2] at k1 k2 hn ⊢
          have : hOf σ.E (hd a) ≠ 0 := fun e0 => hap ⟨e0, k1, k2⟩
          omega
        · rw [hEo v e e2] at k3; exact k3
/-! A lift. -/
theorem mid_lift (hN : PNet N M s t fst hd rv ai cp bk) (h : MidS N M s t fst hd rv cp C Ls u σ) (h0 : 0 < hOf σ.E u) (hs : Stuck hd rv fst σ.X σ.H u) :
    MidS N M s t fst hd rv cp C Ls u (fsLift N fst hd σ u) := by
  obtain ⟨g, h⟩ := h
  have hc := h.co
  have hu0 := h.u0
  have hua : actB s t σ.E u = true := act_iff.2 ⟨h.us, h.ut, h0⟩
  obtain ⟨c, hlow, hle⟩ := hc.st.lowest hN hu0 hua
  obtain ⟨hst, hup⟩ := hc.st.lift hN hu0 hua hs hlow
  have hlh := hc.st.lh
  have hH : ∀ v, hOf (σ.H.set u (hOf σ.H (hd c) + 1)) v = if u = v then hOf σ.H (hd c) + 1 else hOf σ.H v := fun v => hOf_put (by omega)
  have hmon : ∀ v, hOf σ.H v ≤ hOf (σ.H.set u (hOf σ.H (hd c) + 1)) v := fun v => by
    rw [hH]; split
    · rename_i e; subst e; omega
    · exact Int.le_refl _
  have hsumE : hsum N (σ.H.set u (hOf σ.H (hd c) + 1)) = hsum N σ.H + (hOf σ.H (hd c) + 1 - hOf σ.H u) := by
    refine sumN_upd hu0 (fun j hj hne => ?_) ?_
    · rw [hH, if_neg (fun e => hne e.symm)]
    · rw [hH, if_pos rfl]; omega
  have hold : ∀ v, v ≠ u → hOf (σ.H.set u (hOf σ.H (hd c) + 1)) v = hOf σ.H v := fun v hne => by rw [hH, if_neg (fun e => hne e.symm)]
  have e1 : fsLift N fst hd σ u = { X := σ.X, E := σ.E, H := σ.H.set u (hOf σ.H (hd c) + 1), q := σ.q, nx := nupd σ.nx u (fst u), P := σ.P, L := σ.L + 1 } := by
    unfold fsLift; rw [hle]
  have hl1 := hc.lif
  have hl2 := hc.l0
  rw [e1]
  refine ⟨g, ⟨hst, fun v hv => ?_, fun v hv a a1 a2 => ?_, fun a ha => ?_, hc.cnt, ?_, hc.pss, ?_, hc.srv, hc.q, hc.nd, hc.qa, fun v hv => ?_, fun v hv => ?_, hc.nss⟩, hu0, h.us, h.ut, h.uq, h.all, ?_, h.nu⟩
  · show fst v ≤ nupd σ.nx u (fst u) v ∧ nupd σ.nx u (fst u) v ≤ fst (v + 1)
    unfold nupd
    split
    · rename_i e; subst e; exact ⟨Nat.le_refl _, hN.g.mono v hv⟩
    · exact hc.nxb v hv
  · replace a2 : a < nupd σ.nx u (fst u) v := a2
    unfold nupd at a2
    split at a2
    · rename_i e; subst e; omega
    · rename_i hne
      have hb := hc.nxa v hv a a1 a2
      have hnb := hc.nxb v hv
      have hfl := hN.g.fle (v := v + 1) (by omega)
      have htl := hN.g.tail v a hv a1 (by omega)
      show admB hd rv σ.X (σ.H.set u (hOf σ.H (hd c) + 1)) a = false
      cases hcase : admB hd rv σ.X (σ.H.set u (hOf σ.H (hd c) + 1)) a with
      | false => rfl
      | true =>
        obtain ⟨k1, k2⟩ := adm_iff.1 hcase
        rw [htl, hold v hne] at k2
        have harc := hc.st.arc a (by omega) k1
        rw [htl] at harc
        by_cases e : hd a = u
        · rw [hH, if_pos e.symm] at k2
          rw [e] at harc
          omega
        · rw [hold _ e] at k2
          rw [adm_iff.2 ⟨k1, by rw [htl]; exact k2⟩] at hb
          cases hb
  · have m1 := hmon (hd a)
    have m2 := hmon (hd (rv a))
    dsimp only
    rcases hc.sat a ha with k | ⟨k1, k2⟩
    · exact .inl (by omega)
    · exact .inr ⟨k1, by omega⟩
  · dsimp only; rw [hsumE]; omega
  · dsimp only; rw [hsumE]; omega
  · dsimp only
    have hne : v ≠ u := fun e => h.uq (by rw [← e, hc.q]; exact List.mem_append_left _ hv)
    rw [hold v hne]
    exact hc.h1 v hv
  · dsimp only
    have hne : v ≠ u := fun e => h.uq (by rw [← e, hc.q]; exact List.mem_append_right _ hv)
    rw [hold v hne, hsumE]
    have := hc.h2 v hv
    omega
  · dsimp only
    rw [hH, if_pos rfl, hsumE]
    have := h.hu
    omega
theorem mid_step (hN : PNet N M s t fst hd rv ai cp bk) (h : MidS N M s t fst hd rv cp C Ls u σ) (h0 : 0 < hOf σ.E u) : MidS N M s t fst hd rv cp C Ls u (fsStep N s t fst hd rv σ u) := by
  obtain ⟨h1, h2, h3, h4, h5⟩ := mid_seek h
  unfold fsStep
  split
  · rename_i hlt
    exact mid_push hN h1 h0 h2 hlt (h4 hlt)
  · rename_i hlt
    exact mid_lift hN h1 h0 fun a a1 a2 => h5 a a1 (by omega)
/-! How many there are. -/
def liftsMax (N : Nat) : Int := ((N : Int) - 2) * (2 * N - 1)
theorem hsum_le (hN : PNet N M s t fst hd rv ai cp bk) (h : StIs N M s t hd rv cp X E H) : (N : Int) ≤ hsum N H ∧ hsum N H ≤ N + liftsMax N := by
  have hb := h.bnd
  have hs := hN.hs; have ht := hN.ht; have hst := hN.st
  constructor
  · have h1 := sumN_upd (f := fun v => if v = s then 0 else hOf H v) (g := hOf H) (a := s) (n := N) (d := N) hs (fun j hj hne => by rw [if_neg hne]) (by rw [if_pos rfl, h.src]; omega)
    have h2 := sumN_nonneg (f := fun v => if v = s then 0 else hOf H v) (n := N) (fun j hj => by
      split
      · exact Int.le_refl _
      · exact (hb j hj).1)
    unfold hsum
    omega
  · have hconst : ∀ (c : Int) (n : Nat), sumN (fun _ => c) n = n * c := fun c n => by
      induction n with
      | zero => simp [sumN]
      | succ n ih => simp only [sumN, ih]; rw [Int.natCast_succ, Int.add_mul]; omega
    have hmono : ∀ (f f' : Nat → Int) (n : Nat), (∀ j, j < n → f j ≤ f' j) → sumN f n ≤ sumN f' n := fun f f' n hh => by
      induction n with
      | zero => exact Int.le_refl _
      | succ n ih =>
        have := ih fun j hj => hh j (by omega)
        have := hh n (by omega)
        simp only [sumN]; omega
    have h1 := hmono (hOf H) (fun v => if v = t then 0 else if v = s then (N : Int) else 2 * N - 1) N fun j hj => by
      split
      · rename_i e; subst e; rw [h.snk]; exact Int.le_refl _
      · split
        · rename_i e; subst e; rw [h.src]; exact Int.le_refl _
        · have := (hb j hj).2; omega
    have h2 := sumN_upd (f := fun _ => 2 * (N : Int) - 1) (g := fun v => if v = s then (N : Int) else 2 * N - 1) (a := s) (n := N) (d := N - (2 * N - 1)) hs (fun j hj hne => by rw [if_neg hne]) (by rw [if_pos rfl]; omega)
    have h3 := sumN_upd (f := fun v => if v = s then (N : Int) else 2 * N - 1) (g := fun v => if v = t then 0 else if v = s then (N : Int) else 2 * N - 1) (a := t) (n := N) (d := -(2 * N - 1)) ht (fun j hj hne => by rw [if_neg hne]) (by rw [if_pos rfl, if_neg (fun e => hst e.symm)]; omega)
    rw [hconst] at h2
    unfold hsum liftsMax
    rw [Int.sub_mul]
    omega
/-- As many steps as there may be. -/
theorem core_bound (hN : PNet N M s t fst hd rv ai cp bk) (h : Core N M s t fst hd rv cp C Ls σ g) (hL : (N : Int) ≤ Ls) : (σ.L : Int) ≤ liftsMax N ∧ (σ.P : Int) ≤ M * N + N * (1 + C + liftsMax N) := by
  obtain ⟨h1, h2⟩ := hsum_le hN h.st
  have h3 := h.lif
  refine ⟨by omega, ?_⟩
  have hk : (g.k : Int) ≤ 1 + C + liftsMax N := by have := h.pss; have := h.l0; omega
  have hsat : sumN (fun a => (g.sat a : Int)) M ≤ M * N := by
    have hconst : ∀ n : Nat, (n : Int) ≤ M → (∀ a, a < n → (g.sat a : Int) ≤ N) → sumN (fun a => (g.sat a : Int)) n ≤ n * N := fun n => by
      induction n with
      | zero => intro _ _; simp [sumN]
      | succ n ih =>
        intro hn hh
        have := ih (by omega) fun a ha => hh a (by omega)
        have := hh n (by omega)
        simp only [sumN]; rw [Int.natCast_succ, Int.add_mul]; omega
    refine hconst M (Int.le_refl _) fun a ha => ?_
    have b1 := (h.st.bnd (hd a) (hN.g.hdl a ha)).2
    have b2 := (h.st.bnd (hd (rv a)) (hN.mN ha)).2
    rcases h.sat a ha with k | ⟨_, k⟩ <;> omega
  have hns : (g.ns : Int) ≤ N * (1 + C + liftsMax N) := by
    have e1 := h.nss
    have e2 := h.srv
    have e3 : (N : Int) * (g.k : Int) ≤ N * (1 + C + liftsMax N) := Int.mul_le_mul_of_nonneg_left hk (by omega)
    have e4 : ((N * g.k : Nat) : Int) = (N : Int) * (g.k : Int) := by simp
    omega
  have := h.cnt
  omega
def runMax (N M C : Nat) : Nat := (M * N + N * (1 + C + liftsMax N) + liftsMax N).toNat
theorem mid_bound (hN : PNet N M s t fst hd rv ai cp bk) (h : MidS N M s t fst hd rv cp C Ls u σ) (hL : (N : Int) ≤ Ls) : σ.P + σ.L ≤ runMax N M C := by
  obtain ⟨g, h⟩ := h
  have := core_bound hN h.co hL
  unfold runMax
  omega
theorem head_bound (hN : PNet N M s t fst hd rv ai cp bk) (h : HeadS N M s t fst hd rv cp C Ls σ) (hL : (N : Int) ≤ Ls) : (σ.L : Int) ≤ liftsMax N ∧ (σ.P : Int) ≤ M * N + N * (1 + C + liftsMax N) := by
  obtain ⟨g, h, _⟩ := h
  exact core_bound hN h hL
theorem srv_cnt {σ' : FS} (h : Srv N s t fst hd rv u σ σ') : σ.P + σ.L ≤ σ'.P + σ'.L := by
  induction h with
  | stop _ => exact Nat.le_refl _
  | @step σ σ' _ _ ih => have := fsStep_cnt N s t fst hd rv σ u; omega
/-- In the end nobody is active. -/
theorem head_end (h : HeadS N M s t fst hd rv cp C Ls σ) (hq : σ.q = []) : StIs N M s t hd rv cp σ.X σ.E σ.H ∧ ∀ v, v < N → actB s t σ.E v = false := by
  obtain ⟨g, h, hall⟩ := h
  refine ⟨h.st, fun v hv => Bool.eq_false_iff.2 fun e => ?_⟩
  have := hall v hv e
  rw [hq] at this
  cases this
end

end Go.Proofs.Ytfcjmhihheeifaa
