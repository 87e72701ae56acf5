/- Layer 7: what a play keeps: csr.Make's rows by numbers; rows that stay though boxes are written to. -/
import Derived.Test.YtfcjmhihheeifaaMayo
import Derived.Test.YtfcjmhihheeifaaPnet
import Derived.Test.YtfcjmhihheeifaaCsrm
namespace Go.Proofs.Ytfcjmhihheeifaa
open Go.RowKit Go.Shelf
set_option maxRecDepth 100000

/-! Every list of arcs has its residual network's rows. -/
theorem csrL_ex (N : Nat) (l : List ArcN) : ∃ F H R C Ai B, CsrL N l F H R C Ai B := by
  classical
  have hex : ∀ k : Nat, ∃ p : Nat × Int × Int × Bool × Int, k < firstOf l N → Inc l p.1 p.2.1 p.2.2.1 p.2.2.2.1 p.2.2.2.2 ∧ posOf l p.1 p.2.1 = k ∧ 0 ≤ p.2.1 := by
    intro k
    by_cases hk : k < firstOf l N
    · obtain ⟨i, v, u, b, c, hI, e, h0, _⟩ := pos_find hk
      exact ⟨(i, v, u, b, c), fun _ => ⟨hI, e.symm, h0⟩⟩
    · exact ⟨(0, 0, 0, false, 0), fun h => absurd h hk⟩
  obtain ⟨f, hf⟩ : ∃ f : Nat → Nat × Int × Int × Bool × Int, ∀ k, k < firstOf l N → Inc l (f k).1 (f k).2.1 (f k).2.2.1 (f k).2.2.2.1 (f k).2.2.2.2 ∧ posOf l (f k).1 (f k).2.1 = k ∧ 0 ≤ (f k).2.1 := ⟨fun k => Classical.choose (hex k), fun k => Classical.choose_spec (hex k)⟩
  have key : ∀ i v u b c, Inc l i v u b c → 0 ≤ v → posOf l i v < firstOf l N → (f (posOf l i v)).1 = i ∧ (f (posOf l i v)).2.1 = v ∧ (f (posOf l i v)).2.2.1 = u ∧ (f (posOf l i v)).2.2.2.1 = b ∧ (f (posOf l i v)).2.2.2.2 = c := by
    intro i v u b c hI h0 hk
    obtain ⟨hI', hp, h0'⟩ := hf _ hk
    obtain ⟨e1, e2⟩ := pos_inj hI' hI h0' h0 hp
    rw [e1, e2] at hI'
    obtain ⟨e3, e4, e5⟩ := hI'.same hI
    exact ⟨e2, e1, e3, e4, e5⟩
  refine ⟨tab (N + 1) fun v => (firstOf l v : Int), tab (firstOf l N) fun k => (f k).2.2.1, tab (firstOf l N) fun k => (posOf l (f k).1 (f k).2.2.1 : Int), tab (firstOf l N) fun k => (f k).2.2.2.2, tab (firstOf l N) fun k => ((f k).1 : Int), tab (firstOf l N) fun k => (f k).2.2.2.1, rfl,
    ⟨tab_len _ _, tab_len _ _, tab_len _ _, tab_len _ _, fun i v u b c hI h0 hk => ?_⟩, ⟨tab_len _ _, fun i v u b c hI h0 hk => ?_⟩⟩
  · obtain ⟨e1, e2, e3, e4, e5⟩ := key i v u b c hI h0 hk
    rw [tab_at hk, tab_at hk, tab_at hk, tab_at hk, e3, e5, e1, e4]
    exact ⟨rfl, rfl, rfl, rfl⟩
  · obtain ⟨e1, e2, e3, e4, e5⟩ := key i v u b c hI h0 hk
    rw [tab_at hk, e1, e3]

/-- Rows of a block of one-cell elements. -/
theorem ints_blk {w : World} {x n g : Nat} {L : List Int} (hg : g < x) (hl : L.length = n) (h : ∀ k y, L[k]? = some y → w.cell? ⟨g, k, none⟩ = some (.int .i64 y)) : Ints w x (some ⟨g, 0, none⟩) n L :=
  ⟨hl, fun _ => ⟨g, 0, rfl, hg, fun k a ha j u hu => by
    match j, hu with
    | 0, hu =>
      simp [intCells] at hu
      subst hu
      rw [Nat.zero_add, Nat.mul_one, Nat.add_zero]
      exact h k a ha
    | j + 1, hu => simp [intCells] at hu⟩⟩
theorem bools_blk {w : World} {x n g : Nat} {L : List Bool} (hg : g < x) (hl : L.length = n) (h : ∀ k y, L[k]? = some y → w.cell? ⟨g, k, none⟩ = some (.bool y)) : Bools w x (some ⟨g, 0, none⟩) n L :=
  ⟨hl, fun _ => ⟨g, 0, rfl, hg, fun k a ha j u hu => by
    match j, hu with
    | 0, hu =>
      simp [boolCells] at hu
      subst hu
      rw [Nat.zero_add, Nat.mul_one, Nat.add_zero]
      exact h k a ha
    | j + 1, hu => simp [boolCells] at hu⟩⟩
abbrev csrK (N M gF gH gR gC gA gB : Nat) : CsrS := ⟨some ⟨gF, 0, none⟩, N + 1, some ⟨gH, 0, none⟩, M, some ⟨gR, 0, none⟩, M, some ⟨gC, 0, none⟩, M, some ⟨gA, 0, none⟩, M, some ⟨gB, 0, none⟩, M⟩
theorem CsrAt.rows {w : World} {n0 N : Nat} {l : List ArcN} {gF gH gR gC gA gB : Nat} {F H R C Ai : List Int} {B : List Bool} (h : CsrAt w n0 N l gF gH gR gC gA gB) (hE : EndsIn N l) (hL : CsrL N l F H R C Ai B) :
    CsrIn w n0 N (firstOf l N) (csrK N (firstOf l N) gF gH gR gC gA gB) F H R C Ai B := by
  obtain ⟨h1, h2, h3, h4, h5, h6⟩ := h.lt
  have key : ∀ k, k < firstOf l N → ∃ (i : Nat) (v u : Int) (b : Bool) (c : Int), Inc l i v u b c ∧ posOf l i v = k ∧ H[k]? = some u ∧ R[k]? = some (posOf l i u : Int) ∧ C[k]? = some c ∧ Ai[k]? = some (i : Int) ∧ B[k]? = some b := fun k hk => by
    obtain ⟨i, q, v, u, b, c, hI, hp, hq, _, e1, e2, e3, e4, e5⟩ := hL.at hE hk
    exact ⟨i, v, u, b, c, hI, hp, e1, by rw [hq]; exact e2, e3, e4, e5⟩
  have lF : F.length = N + 1 := by rw [hL.fst]; exact tab_len _ _
  have lt : ∀ {α : Type} {L : List α} {k : Nat} {y : α}, L.length = firstOf l N → L[k]? = some y → k < firstOf l N := fun hl hk => by have := (List.getElem?_eq_some_iff.1 hk).1; omega
  refine ⟨ints_blk h1 lF fun k y hy => ?_, ints_blk h2 hL.ent.lH fun k y hy => ?_, ints_blk h3 hL.rev.len fun k y hy => ?_, ints_blk h4 hL.ent.lC fun k y hy => ?_, ints_blk h5 hL.ent.lA fun k y hy => ?_, bools_blk h6 hL.ent.lB fun k y hy => ?_⟩
  · have hk := (List.getElem?_eq_some_iff.1 hy).1
    rw [hL.fst, tab_at (by omega)] at hy
    injection hy with hy
    subst hy
    exact h.first k (by omega)
  · obtain ⟨i, v, u, b, c, hI, rfl, e1, e2, e3, e4, e5⟩ := key k (lt hL.ent.lH hy)
    rw [e1] at hy; injection hy with hy; subst hy
    exact (h.ent _ _ _ _ _ hI).1
  · obtain ⟨i, v, u, b, c, hI, rfl, e1, e2, e3, e4, e5⟩ := key k (lt hL.rev.len hy)
    rw [e2] at hy; injection hy with hy; subst hy
    exact (h.ent _ _ _ _ _ hI).2.1
  · obtain ⟨i, v, u, b, c, hI, rfl, e1, e2, e3, e4, e5⟩ := key k (lt hL.ent.lC hy)
    rw [e3] at hy; injection hy with hy; subst hy
    exact (h.ent _ _ _ _ _ hI).2.2.1
  · obtain ⟨i, v, u, b, c, hI, rfl, e1, e2, e3, e4, e5⟩ := key k (lt hL.ent.lA hy)
    rw [e4] at hy; injection hy with hy; subst hy
    exact (h.ent _ _ _ _ _ hI).2.2.2.1
  · obtain ⟨i, v, u, b, c, hI, rfl, e1, e2, e3, e4, e5⟩ := key k (lt hL.ent.lB hy)
    rw [e5] at hy; injection hy with hy; subst hy
    exact (h.ent _ _ _ _ _ hI).2.2.2.2

/-! Rows above z stay though boxes below z are written to. -/
theorem RdBy.kps {α : Type} {f : α → List Value} {size : Nat} {w w' : World} {x z n : Nat} {A : Option Addr} {L : List α} {P : Nat → Obj → Prop} (h : RdBy f size w x A n L) (ha : Abv z A) (hk : Kps P w w') (hp : ∀ k o, z ≤ k → P k o) (hx : x ≤ w'.heap.size) : RdBy f size w' w'.heap.size A n L :=
  ⟨h.1, fun hn => by
    obtain ⟨b, off, e, hb, hc⟩ := h.2 hn
    refine ⟨b, off, e, by omega, fun k a hka j u hu => ?_⟩
    exact hk.cell (p := ⟨b, off + (k * size + j), none⟩) (fun o _ => hp b o (by have := ha _ e; exact this)) (hc k a hka j u hu)⟩
structure PreAbv (x : Nat) (Q : PreS) : Prop where
  aX : Abv x Q.AX
  aE : Abv x Q.AE
  aH : Abv x Q.AH
section
variable {w w' : World} {x z N M nX nE nH : Nat} {K : CsrS} {Q : PreS} {fst hd rv ai : Nat → Nat} {cp : Nat → Int} {bk : Nat → Bool} {X E H : List Int} {P : Nat → Obj → Prop}
theorem PIn.kps (h : PIn w x N M K fst hd rv ai cp bk) (ha : CsrAbv z K) (hk : Kps P w w') (hp : ∀ k o, z ≤ k → P k o) (hx : x ≤ w'.heap.size) : PIn w' w'.heap.size N M K fst hd rv ai cp bk :=
  ⟨⟨h.gi.iF.kps ha.aF hk hp hx, h.gi.iH.kps ha.aH hk hp hx, h.gi.iR.kps ha.aR hk hp hx⟩, h.iC.kps ha.aC hk hp hx, h.iA.kps ha.aA hk hp hx, h.iB.kps ha.aB hk hp hx⟩
theorem StIn.kps (h : StIn w x nX nE nH Q X E H) (ha : PreAbv z Q) (hk : Kps P w w') (hp : ∀ k o, z ≤ k → P k o) (hx : x ≤ w'.heap.size) : StIn w' w'.heap.size nX nE nH Q X E H :=
  ⟨h.iX.kps ha.aX hk hp hx, h.iE.kps ha.aE hk hp hx, h.iH.kps ha.aH hk hp hx⟩
theorem Hx.abv {w0 : World} {base : Nat} (h : Hx w0 w base (pstR nX nE nH Q X E H)) (hz : z ≤ base) : PreAbv z Q := by
  have key : ∀ (i : Nat) (r : Rw), (pstR nX nE nH Q X E H)[i]? = some r → Abv z r.A := fun i r hi a ea => by
    have := ((h.held.own i r hi).lt a.block (by unfold Rw.v; rw [ea]; rfl)).1
    omega
  exact ⟨key 0 _ rfl, key 1 _ rfl, key 2 _ rfl⟩
end

/-! Steps of a play. -/
abbrev StN : Type := List Int × (List Int × List Int)
def OkS (N M s t : Nat) (hd rv : Nat → Nat) (cp : Nat → Int) (S : StN) : Prop := StIs N M s t hd rv cp S.1 S.2.1 S.2.2
/-- A push, or a lift, leads from S to S'. -/
def Nx (N M s t : Nat) (fst hd rv : Nat → Nat) (S S' : StN) : Prop :=
  (∃ a, a < M ∧ actB s t S.2.1 (hd (rv a)) = true ∧ admB hd rv S.1 S.2.2 a = true ∧ S' = (mvX rv S.1 a (pushD hd rv S.1 S.2.1 a), mvE hd rv S.2.1 a (pushD hd rv S.1 S.2.1 a), S.2.2)) ∨
  (∃ u, u < N ∧ actB s t S.2.1 u = true ∧ downs fst hd rv S.1 S.2.2 u = [] ∧ S' = (S.1, S.2.1, S.2.2.set u (lowV fst hd S.1 S.2.2 u + 1)))
section
variable {N M s t : Nat} {fst hd rv ai : Nat → Nat} {cp : Nat → Int} {bk : Nat → Bool} {X E H : List Int} {S S' : StN}
theorem lowIs_ex {u : Nat} {x : Int} (h : LowV fst hd X H u x) : ∃ b, LowIs fst hd X H u b ∧ hOf H (hd b) = x := by
  obtain ⟨a, a1, a2, a3, a4⟩ := h.is
  have key : ∀ n b, b ≤ n → fst u ≤ b → b < fst (u + 1) → opn X b = true → hOf H (hd b) = x → ∃ c, LowIs fst hd X H u c ∧ hOf H (hd c) = x := by
    intro n
    induction n with
    | zero =>
      intro b hb b1 b2 b3 b4
      exact ⟨b, ⟨b1, b2, b3, fun c c1 c2 c3 => by rw [b4]; exact h.le c c1 c2 c3, fun c c1 c2 => by omega⟩, b4⟩
    | succ n ih =>
      intro b hb b1 b2 b3 b4
      by_cases hc : ∃ c, c < b ∧ fst u ≤ c ∧ opn X c = true ∧ hOf H (hd c) = x
      · obtain ⟨c, c1, c2, c3, c4⟩ := hc
        exact ih c (by omega) c2 (by omega) c3 c4
      · refine ⟨b, ⟨b1, b2, b3, fun c c1 c2 c3 => by rw [b4]; exact h.le c c1 c2 c3, fun c c1 c2 c3 => ?_⟩, b4⟩
        have h1 := h.le c c1 (by omega) c3
        have h2 : hOf H (hd c) ≠ x := fun e => hc ⟨c, c2, c1, c3, e⟩
        rw [b4]; omega
  exact key a a (Nat.le_refl _) a1 a2 a3 a4.symm
theorem downs_nil {u : Nat} (hm : fst u ≤ fst (u + 1)) : downs fst hd rv X H u = [] ↔ Stuck hd rv fst X H u := by
  constructor
  · intro h a h1 h2
    cases hb : admB hd rv X H a with
    | false => rfl
    | true =>
      have : a ∈ downs fst hd rv X H u := (rls_mem (by omega)).2 ⟨h1, by omega, hb⟩
      rw [h] at this
      cases this
  · intro h
    refine List.eq_nil_iff_forall_not_mem.2 fun a ha => ?_
    have := (rls_mem (by omega)).1 ha
    have h2 := h a this.1 (by omega)
    rw [this.2.2] at h2
    cases h2
theorem OkS.lowV (h : StIs N M s t hd rv cp X E H) (hN : PNet N M s t fst hd rv ai cp bk) {u : Nat} (hu : u < N) (ha : actB s t E u = true) : ∃ b, LowIs fst hd X H u b ∧ Proofs.Ytfcjmhihheeifaa.lowV fst hd X H u = hOf H (hd b) := by
  obtain ⟨h1, h2, h3⟩ := act_iff.1 ha
  obtain ⟨a, a1, a2, a3, a4, a5⟩ := h.low hN hu h1 h3
  -- the least one
  have key : ∀ (n : Nat) (a : Nat), fst u ≤ a → a < fst (u + 1) → opn X a = true → (hOf H (hd a)).toNat ≤ n → ∃ x, LowV fst hd X H u x := by
    intro n
    induction n with
    | zero =>
      intro a a1 a2 a3 a4
      have hfl := hN.g.fle (v := u + 1) (by omega)
      refine ⟨hOf H (hd a), ⟨a, a1, a2, a3, rfl⟩, fun b b1 b2 b3 => ?_⟩
      have := h.bnd (hd b) (hN.g.hdl b (by omega))
      omega
    | succ n ih =>
      intro a a1 a2 a3 a4
      have hfl := hN.g.fle (v := u + 1) (by omega)
      by_cases hc : ∃ c, fst u ≤ c ∧ c < fst (u + 1) ∧ opn X c = true ∧ hOf H (hd c) < hOf H (hd a)
      · obtain ⟨c, c1, c2, c3, c4⟩ := hc
        have := h.bnd (hd c) (hN.g.hdl c (by omega))
        exact ih c c1 c2 c3 (by omega)
      · refine ⟨hOf H (hd a), ⟨a, a1, a2, a3, rfl⟩, fun b b1 b2 b3 => ?_⟩
        by_cases hl : hOf H (hd b) < hOf H (hd a)
        · exact absurd ⟨b, b1, b2, b3, hl⟩ hc
        · omega
  obtain ⟨x, hx⟩ := key _ a a1 a2 (opn_iff.2 a4) (Nat.le_refl _)
  obtain ⟨b, hb, e⟩ := lowIs_ex hx
  exact ⟨b, hb, by rw [lowV_eq hx, e]⟩
theorem Nx.ok (h : Nx N M s t fst hd rv S S') (hN : PNet N M s t fst hd rv ai cp bk) (hS : OkS N M s t hd rv cp S) : OkS N M s t hd rv cp S' := by
  rcases h with ⟨a, ha, h1, h2, rfl⟩ | ⟨u, hu, h1, h2, rfl⟩
  · have hX := (hS.bal.2 a ha).1
    have hE := (act_iff.1 h1).2.2
    exact hS.push hN ha h2 h1 (by unfold pushD; omega) (by unfold pushD; omega) (by unfold pushD; omega)
  · obtain ⟨b, hb, e⟩ := OkS.lowV hS hN hu h1
    have := (hS.lift hN hu h1 ((downs_nil (hN.g.mono u hu)).1 h2) hb).1
    unfold OkS
    rw [e]
    exact this
end

end Go.Proofs.Ytfcjmhihheeifaa
