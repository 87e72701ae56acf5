/- Layer 2: Len, Res. -/
import Derived.Test.YtanifbofjecpmaaCsrm
import Derived.Deep.QuietTactic
import Derived.BigQuiet
import Derived.Deep.RegionHeld3
/-! Layer 2: Len. -/
namespace Go.Proofs.Ytanifbofjecpmaa
open Go.RowKit

set_option maxHeartbeats 400000 in
theorem len_any (N M : Nat) (S T : Int) (gF gH gR gC gA gB : Nat) (w : World) :
    Calls Try.prog 66 #[csrV N M S T gF gH gR gC gA gB] w fun e w' => e = .returned (.int .i64 M) ∧ Below w.heap.size w w' := by
  go_enter Try.func66, Try.ntmps66
  go_wp2
  go_ret
  exact ⟨rfl, below_alloc _⟩

end Go.Proofs.Ytanifbofjecpmaa

/-! Layer 2: what is asked of a residual network and a flow. -/
namespace Go.Proofs.Ytanifbofjecpmaa
open Go.RowKit

/-- Is a flow within the capacities, where an arc is no loop? -/
def okB (l : List ArcN) (f : List Int) : Bool := (l.zip f).all fun p => decide (p.1.frm = p.1.to ∨ (0 ≤ p.2 ∧ p.2 ≤ p.1.cap))
theorem okB_iff {l : List ArcN} {f : List Int} : okB l f = true ↔ ∀ (i : Nat) (a : ArcN) (x : Int), l[i]? = some a → f[i]? = some x → a.frm = a.to ∨ (0 ≤ x ∧ x ≤ a.cap) := by
  unfold okB
  rw [List.all_eq_true]
  constructor
  · intro h i a x ha hx
    have := h (a, x) (List.mem_of_getElem? (i := i) (by rw [List.getElem?_zip_eq_some]; exact ⟨ha, hx⟩))
    simpa using this
  · intro h p hp
    obtain ⟨i, hi⟩ := List.getElem?_of_mem hp
    rw [List.getElem?_zip_eq_some] at hi
    simpa using h i p.1 p.2 hi.1 hi.2

theorem csr_size {N : Nat} {l : List ArcN} (hN : N ≤ 4096) (hl : l.length ≤ 16384) : firstOf l N ≤ 100000000 := by
  have h1 := firstOf_le l N
  have h4 := Nat.mul_le_mul hN hl
  omega

/-- What stands at a number of a residual arc. -/
theorem CsrAt.at {w : World} {n0 N : Nat} {l : List ArcN} {gF gH gR gC gA gB k : Nat} (h : CsrAt w n0 N l gF gH gR gC gA gB) (hE : EndsIn N l) (hk : k < firstOf l N) :
    ∃ (i q : Nat) (v u : Int) (b : Bool) (c : Int), Inc l i v u b c ∧ posOf l i v = k ∧ posOf l i u = q ∧ q < firstOf l N ∧ w.cell? ⟨gH, k, none⟩ = some (.int .i64 u) ∧ w.cell? ⟨gR, k, none⟩ = some (.int .i64 (q : Int)) ∧
      w.cell? ⟨gC, k, none⟩ = some (.int .i64 c) ∧ w.cell? ⟨gA, k, none⟩ = some (.int .i64 (i : Int)) ∧ w.cell? ⟨gB, k, none⟩ = some (.bool b) := by
  obtain ⟨i, v, u, b, c, hI, rfl, _, _⟩ := pos_find hk
  obtain ⟨c', hI'⟩ := hI.flip
  obtain ⟨e1, e2, e3, e4, e5⟩ := h.ent _ _ _ _ _ hI
  exact ⟨i, _, v, u, b, c, hI, rfl, rfl, pos_lt hI' hE, e1, e2, e3, e4, e5⟩

set_option maxHeartbeats 1000000 in
theorem wellFormed_good (N M : Nat) (S T : Int) (gF gH gR gC gA gB : Nat) (l : List ArcN) (w : World) (hC : CsrAt w w.heap.size N l gF gH gR gC gA gB) (hE : EndsIn N l) (hMe : firstOf l N = M) (hM : M ≤ 100000000) :
    Calls Try.prog 95 #[csrV N M S T gF gH gR gC gA gB] w fun e w' => e = .returned (.bool true) ∧ Below w.heap.size w w' := by
  go_enter Try.func95, Try.ntmps95
  go_wp2_with fail
  refine (len_any _ _ _ _ _ _ _ _ _ _ _).mono ?_
  rintro e w1 ⟨rfl, B1⟩
  have K : Blk w1 w.heap.size 32 _ := (Blk.new rfl).below B1 (by simp)
  have C1 := (hC.onAlloc _).on B1
  have Bw := below_step (below_alloc _) B1
  obtain ⟨a0, a1, a2, a3, a4, a5, a6, a7, a8⟩ := K.at9
  go_wp2_with fail
  go_loopw [4, 34] (fun _ i wr => ∃ k : Nat, k ≤ M ∧ i = .int .i64 k ∧ wr = w1) (fun _ i _ => M - (intOf i).toNat)
  case atStart => exact ⟨0, Nat.zero_le _, rfl, rfl⟩
  case round =>
    obtain ⟨k, hk, rfl, rfl⟩ := hrel
    by_cases hlt : k < M
    · obtain ⟨i, q, v, u, b, c, hI, _, _, hq, e1, e2, e3, e4, e5⟩ := C1.at hE (show k < firstOf l N by omega)
      have x1 := fun W => isIndex_any (q : Int) (M : Int) W
      rw [decide_eq_true (show 0 ≤ (q : Int) ∧ (q : Int) < (M : Int) by omega)] at x1
      have HX := Lib.hid x1; clear x1
      go_wp2_with fail
      refine (HX.out _).mono ?_
      rintro e W ⟨rfl, rfl⟩
      go_wp2_with fail
      go_roundw
      case rel => exact ⟨k + 1, by omega, by go_num, trivial⟩
      case measure => simp [intOf]; omega
    · go_wp2_with fail
      go_ret
      exact ⟨rfl, Bw⟩

set_option maxHeartbeats 1000000 in
theorem allBelow_good (g n c : Nat) (b : Int) (w : World) (hn : n ≤ 100000000) (hc : ∀ j, j < n → ∃ x : Int, w.cell? ⟨g, j, none⟩ = some (.int .i64 x) ∧ x < b) :
    Calls Try.prog 97 #[.slice (some ⟨g, 0, none⟩) n c, .int .i64 b] w fun e w' => e = .returned (.bool true) ∧ w' = w := by
  go_enter Try.func97, Try.ntmps97
  go_wp2_with fail
  go_loopw [6, 9] (fun _ i wr => ∃ k : Nat, k ≤ n ∧ i = .int .i64 k ∧ wr = w) (fun _ i _ => n - (intOf i).toNat)
  case atStart => exact ⟨0, Nat.zero_le _, rfl, rfl⟩
  case round =>
    obtain ⟨k, hk, rfl, rfl⟩ := hrel
    by_cases hlt : k < n
    · obtain ⟨x, hx, hxb⟩ := hc k hlt
      clear hc
      have hxb' : ¬ b ≤ x := by omega
      go_wp2_with fail
      go_roundw
      case rel => exact ⟨k + 1, by omega, by go_num, trivial⟩
      case measure => simp [intOf]; omega
    · clear hc
      go_wp2_with fail
      go_ret
      exact ⟨rfl, rfl⟩


end Go.Proofs.Ytanifbofjecpmaa

/-! Layer 2: Res. -/
namespace Go.Proofs.Ytanifbofjecpmaa
open Go.RowKit

/-- Residual capacities, once the first k residual arcs are gone through. -/
structure ResTo (l : List ArcN) (f : List Int) (M k : Nat) (X : List Int) : Prop where
  len : X.length = M
  ent : ∀ (i : Nat) (v u c x : Int), Inc l i v u false c → f[i]? = some x → posOf l i v < k → X[posOf l i v]? = some (c - x) ∧ X[posOf l i u]? = some x
def capAt (l : List ArcN) (i : Nat) : Int := match l[i]? with
  | some a => a.cap
  | none => 0
/-- The residual capacities of a flow. -/
structure ResOf (l : List ArcN) (f : List Int) (M : Nat) (X : List Int) : Prop where
  len : X.length = M
  ent : ∀ (i : Nat) (v u : Int) (b : Bool) (c x : Int), Inc l i v u b c → f[i]? = some x → X[posOf l i v]? = some (if b then x else (capAt l i) - x)

theorem capAt_fwd {l : List ArcN} {i : Nat} {v u c : Int} (h : Inc l i v u false c) : capAt l i = c := by
  obtain ⟨_, a, ha, hh⟩ := h
  unfold capAt
  rw [ha]
  rcases hh with ⟨_, _, _, h⟩ | ⟨h, _⟩
  · exact h.symm
  · cases h

section
variable {l : List ArcN} {f X : List Int} {M N k i q : Nat} {v u c x : Int}
theorem ResTo.zero (l : List ArcN) (f : List Int) (M : Nat) : ResTo l f M 0 (List.replicate M 0) := ⟨by simp, fun _ _ _ _ _ _ _ h => absurd h (by omega)⟩
theorem ResTo.skip (h : ResTo l f M k X) (hE : EndsIn N l) (hI : Inc l i v u true c) (hp : posOf l i v = k) : ResTo l f M (k + 1) X := by
  refine ⟨h.len, fun i' v' u' c' x' h1 h2 h3 => ?_⟩
  by_cases e : posOf l i' v' = k
  · obtain ⟨rfl, rfl⟩ := pos_inj h1 hI (h1.ends hE).1 (hI.ends hE).1 (by omega)
    have := (h1.same hI).2.1
    cases this
  · exact h.ent i' v' u' c' x' h1 h2 (by omega)
theorem ResTo.step (h : ResTo l f M k X) (hE : EndsIn N l) (hM : firstOf l N = M) (hI : Inc l i v u false c) (hp : posOf l i v = k) (hq : posOf l i u = q) (hx : f[i]? = some x) : ResTo l f M (k + 1) ((X.set k (c - x)).set q x) := by
  obtain ⟨c1, hI'⟩ := hI.flip
  have p1 := pos_lt hI hE
  have p2 := pos_lt hI' hE
  have hl := h.len
  have hpq : k ≠ q := fun e => hI.1 (pos_inj hI hI' (hI.ends hE).1 (hI'.ends hE).1 (by omega)).1
  refine ⟨by simp [hl], fun i' v' u' c' x' h1 h2 h3 => ?_⟩
  by_cases e : posOf l i' v' = k
  · obtain ⟨rfl, rfl⟩ := pos_inj h1 hI (h1.ends hE).1 (hI.ends hE).1 (by omega)
    obtain ⟨e1, _, e2⟩ := h1.same hI
    subst e1; subst e2
    rw [hx] at h2
    injection h2 with h2
    subst h2
    rw [hp, hq]
    exact ⟨set2_fst hpq (by omega), set2_snd (by omega)⟩
  · obtain ⟨c2, h1'⟩ := h1.flip
    have hii : i' ≠ i := by
      rintro rfl
      obtain ⟨_, a, ha, hh⟩ := h1
      obtain ⟨_, a', ha', hh'⟩ := hI
      rw [ha] at ha'
      injection ha' with ha'
      subst ha'
      rcases hh with ⟨_, g1, g2, _⟩ | ⟨h0, _⟩
      · rcases hh' with ⟨_, g3, g4, _⟩ | ⟨h0, _⟩
        · exact e (by rw [← g1, g3]; exact hp)
        · cases h0
      · cases h0
    have n1 : posOf l i' v' ≠ q := fun e' => hii (pos_inj h1 hI' (h1.ends hE).1 (hI'.ends hE).1 (by omega)).2
    have n2 : posOf l i' u' ≠ k := fun e' => hii (pos_inj h1' hI (h1'.ends hE).1 (hI.ends hE).1 (by omega)).2
    have n3 : posOf l i' u' ≠ q := fun e' => hii (pos_inj h1' hI' (h1'.ends hE).1 (hI'.ends hE).1 (by omega)).2
    rw [set2_other e n1, set2_other n2 n3]
    exact h.ent i' v' u' c' x' h1 h2 (by omega)
theorem ResTo.done (h : ResTo l f M k X) (hE : EndsIn N l) (hM : firstOf l N = M) (hk : ¬ k < M) : ResOf l f M X := by
  refine ⟨h.len, fun i v u b c x hI hx => ?_⟩
  cases b with
  | false =>
    have := pos_lt hI hE
    rw [capAt_fwd hI]
    exact (h.ent i v u c x hI hx (by omega)).1
  | true =>
    obtain ⟨c', hI'⟩ := hI.flip
    have := pos_lt hI' hE
    exact (h.ent i u v c' x hI' hx (by omega)).2
end

/-- Numbers in new memory are answered, and no error. -/
def RetLongsP (Pr : List Int → Prop) (n : Nat) (w : World) (e : Ending) (w' : World) : Prop :=
  ∃ g X, e = .returned (.tuple #[.slice (some ⟨g, 0, none⟩) n n, .int .i64 0]) ∧ w.heap.size ≤ g ∧ Blk w' g 2 (ivs X) ∧ X.length = n ∧ Pr X ∧ Below w.heap.size w w'



end Go.Proofs.Ytanifbofjecpmaa
