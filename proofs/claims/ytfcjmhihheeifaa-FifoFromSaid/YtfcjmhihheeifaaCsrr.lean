/- Layer 2: Len, Res. -/
import Derived.Test.YtfcjmhihheeifaaCsrm
import Derived.Deep.QuietTactic
import Derived.BigQuiet
import Derived.Deep.RegionHeld3
/-! Layer 2: Len. -/
namespace Go.Proofs.Ytfcjmhihheeifaa
open Go.RowKit

set_option maxHeartbeats 400000 in
theorem len_any (N M : Nat) (S T : Int) (gF gH gR gC gA gB : Nat) (w : World) :
    Calls Try.prog 39 #[csrV N M S T gF gH gR gC gA gB] w fun e w' => e = .returned (.int .i64 M) ∧ Below w.heap.size w w' := by
  go_enter Try.func39, Try.ntmps39
  go_wp2
  go_ret
  exact ⟨rfl, below_alloc _⟩

end Go.Proofs.Ytfcjmhihheeifaa

/-! Layer 2: what is asked of a residual network and a flow. -/
namespace Go.Proofs.Ytfcjmhihheeifaa
open Go.RowKit

/-- Is a flow within the capacities, where an arc is no loop? -/
def okB (l : List ArcN) (f : List Int) : Bool := (l.zip f).all fun p => decide (p.1.frm = p.1.to ∨ (0 ≤ p.2 ∧ p.2 ≤ p.1.cap))
theorem okB_iff {l : List ArcN} {f : List Int} : okB l f = true ↔ ∀ (i : Nat) (a : ArcN) (x : Int), l[i]? = some a → f[i]? = some x → a.frm = a.to ∨ (0 ≤ x ∧ x ≤ a.cap) := by
  unfold okB
  rw [List.all_eq_true]
  constructor
  · intro h i a x ha hx
    have := h (a, x) (List.mem_of_getElem? (i := i) (by rw [List.getElem?_zip_eq_some]; exact ⟨ha, hx⟩))
    simpa using this
  · intro h p hp
    obtain ⟨i, hi⟩ := List.getElem?_of_mem hp
    rw [List.getElem?_zip_eq_some] at hi
    simpa using h i p.1 p.2 hi.1 hi.2

theorem csr_size {N : Nat} {l : List ArcN} (hN : N ≤ 4096) (hl : l.length ≤ 16384) : firstOf l N ≤ 100000000 := by
  have h1 := firstOf_le l N
  have h4 := Nat.mul_le_mul hN hl
  omega

/-- What stands at a number of a residual arc. -/
theorem CsrAt.at {w : World} {n0 N : Nat} {l : List ArcN} {gF gH gR gC gA gB k : Nat} (h : CsrAt w n0 N l gF gH gR gC gA gB) (hE : EndsIn N l) (hk : k < firstOf l N) :
    ∃ (i q : Nat) (v u : Int) (b : Bool) (c : Int), Inc l i v u b c ∧ posOf l i v = k ∧ posOf l i u = q ∧ q < firstOf l N ∧ w.cell? ⟨gH, k, none⟩ = some (.int .i64 u) ∧ w.cell? ⟨gR, k, none⟩ = some (.int .i64 (q : Int)) ∧
      w.cell? ⟨gC, k, none⟩ = some (.int .i64 c) ∧ w.cell? ⟨gA, k, none⟩ = some (.int .i64 (i : Int)) ∧ w.cell? ⟨gB, k, none⟩ = some (.bool b) := by
  obtain ⟨i, v, u, b, c, hI, rfl, _, _⟩ := pos_find hk
  obtain ⟨c', hI'⟩ := hI.flip
  obtain ⟨e1, e2, e3, e4, e5⟩ := h.ent _ _ _ _ _ hI
  exact ⟨i, _, v, u, b, c, hI, rfl, rfl, pos_lt hI' hE, e1, e2, e3, e4, e5⟩

set_option maxHeartbeats 1000000 in
theorem wellFormed_good (N M : Nat) (S T : Int) (gF gH gR gC gA gB : Nat) (l : List ArcN) (w : World) (hC : CsrAt w w.heap.size N l gF gH gR gC gA gB) (hE : EndsIn N l) (hMe : firstOf l N = M) (hM : M ≤ 100000000) :
    Calls Try.prog 66 #[csrV N M S T gF gH gR gC gA gB] w fun e w' => e = .returned (.bool true) ∧ Below w.heap.size w w' := by
  go_enter Try.func66, Try.ntmps66
  go_wp2_with fail
  refine (len_any _ _ _ _ _ _ _ _ _ _ _).mono ?_
  rintro e w1 ⟨rfl, B1⟩
  have K : Blk w1 w.heap.size 45 _ := (Blk.new rfl).below B1 (by simp)
  have C1 := (hC.onAlloc _).on B1
  have Bw := below_step (below_alloc _) B1
  obtain ⟨a0, a1, a2, a3, a4, a5, a6, a7, a8⟩ := K.at9
  go_wp2_with fail
  go_loopw [4, 34] (fun _ i wr => ∃ k : Nat, k ≤ M ∧ i = .int .i64 k ∧ wr = w1) (fun _ i _ => M - (intOf i).toNat)
  case atStart => exact ⟨0, Nat.zero_le _, rfl, rfl⟩
  case round =>
    obtain ⟨k, hk, rfl, rfl⟩ := hrel
    by_cases hlt : k < M
    · obtain ⟨i, q, v, u, b, c, hI, _, _, hq, e1, e2, e3, e4, e5⟩ := C1.at hE (show k < firstOf l N by omega)
      have x1 := fun W => isIndex_any (q : Int) (M : Int) W
      rw [decide_eq_true (show 0 ≤ (q : Int) ∧ (q : Int) < (M : Int) by omega)] at x1
      have HX := Lib.hid x1; clear x1
      go_wp2_with fail
      refine (HX.out _).mono ?_
      rintro e W ⟨rfl, rfl⟩
      go_wp2_with fail
      go_roundw
      case rel => exact ⟨k + 1, by omega, by go_num, trivial⟩
      case measure => simp [intOf]; omega
    · go_wp2_with fail
      go_ret
      exact ⟨rfl, Bw⟩

set_option maxHeartbeats 1000000 in
theorem allBelow_good (g n c : Nat) (b : Int) (w : World) (hn : n ≤ 100000000) (hc : ∀ j, j < n → ∃ x : Int, w.cell? ⟨g, j, none⟩ = some (.int .i64 x) ∧ x < b) :
    Calls Try.prog 68 #[.slice (some ⟨g, 0, none⟩) n c, .int .i64 b] w fun e w' => e = .returned (.bool true) ∧ w' = w := by
  go_enter Try.func68, Try.ntmps68
  go_wp2_with fail
  go_loopw [6, 9] (fun _ i wr => ∃ k : Nat, k ≤ n ∧ i = .int .i64 k ∧ wr = w) (fun _ i _ => n - (intOf i).toNat)
  case atStart => exact ⟨0, Nat.zero_le _, rfl, rfl⟩
  case round =>
    obtain ⟨k, hk, rfl, rfl⟩ := hrel
    by_cases hlt : k < n
    · obtain ⟨x, hx, hxb⟩ := hc k hlt
      clear hc
      have hxb' : ¬ b ≤ x := by omega
      go_wp2_with fail
      go_roundw
      case rel => exact ⟨k + 1, by omega, by go_num, trivial⟩
      case measure => simp [intOf]; omega
    · clear hc
      go_wp2_with fail
      go_ret
      exact ⟨rfl, rfl⟩

set_option maxHeartbeats 1000000 in
theorem within_any (N M : Nat) (S T : Int) (gF gH gR gC gA gB : Nat) (l : List ArcN) (Af : Option Addr) (nf cf : Nat) (f : List Int) (w : World) (hC : CsrAt w w.heap.size N l gF gH gR gC gA gB) (hE : EndsIn N l) (hMe : firstOf l N = M) (hM : M ≤ 100000000)
    (hf : Ints w w.heap.size Af nf f) (hl : l.length = nf) :
    Calls Try.prog 110 #[csrV N M S T gF gH gR gC gA gB, .slice Af nf cf] w fun e w' => e = .returned (.bool (okB l f)) ∧ Below w.heap.size w w' := by
  go_enter Try.func110, Try.ntmps110
  go_wp2_with fail
  have C0 := hC.onAlloc (.cells #[.int .i64 N, .int .i64 S, .int .i64 T, .slice (some ⟨gF, 0, none⟩) (N + 1) (N + 1), .slice (some ⟨gH, 0, none⟩) M M, .slice (some ⟨gR, 0, none⟩) M M, .slice (some ⟨gC, 0, none⟩) M M, .slice (some ⟨gA, 0, none⟩) M M, .slice (some ⟨gB, 0, none⟩) M M] 45)
  refine (allBelow_good gA M M nf _ hM ?_).mono ?_
  · intro j hj
    obtain ⟨i, q, v, u, b, c, hI, _, _, hq, e1, e2, e3, e4, e5⟩ := C0.at hE (show j < firstOf l N by omega)
    exact ⟨i, e4, by have := hI.lt; omega⟩
  rintro e w0 ⟨rfl, rfl⟩
  go_wp2_with fail
  refine (len_any _ _ _ _ _ _ _ _ _ _ _).mono ?_
  rintro e w1 ⟨rfl, B1⟩
  have K : Blk w1 w.heap.size 45 _ := (Blk.new rfl).below B1 (by simp)
  have C1 := C0.on B1
  have F1 := (hf.onAlloc _).on B1
  have Bw := below_step (below_alloc _) B1
  obtain ⟨a0, a1, a2, a3, a4, a5, a6, a7, a8⟩ := K.at9
  go_wp2_with fail
  go_loopw [5, 6, 15] (fun _ _ i wr => ∃ k : Nat, k ≤ M ∧ i = .int .i64 k ∧ wr = w1 ∧ ∀ i v u c x, Inc l i v u false c → f[i]? = some x → posOf l i v < k → 0 ≤ x ∧ x ≤ c) (fun _ _ i _ => M - (intOf i).toNat)
  case atStart => exact ⟨0, Nat.zero_le _, rfl, rfl, fun _ _ _ _ _ _ _ h => absurd h (by omega)⟩
  case round =>
    obtain ⟨k, hk, rfl, rfl, hp⟩ := hrel
    have HP := Lib.hid hp; clear hp
    by_cases hlt : k < M
    · obtain ⟨i, q, v, u, b, c, hI, hpos, _, hq, e1, e2, e3, e4, e5⟩ := C1.at hE (show k < firstOf l N by omega)
      obtain ⟨bf, off, x, rfl, hbf, hfx, hcx⟩ := intl_at F1 (k := i) (by have := hI.lt; omega)
      have HX := Lib.hid hfx; clear hfx
      have hin : (i : Int) < (nf : Int) := by have := hI.lt; omega
      cases b with
      | true =>
        go_wp2_with fail
        go_roundw
        case rel =>
          refine ⟨k + 1, by omega, by go_num, trivial, fun i' v' u' c' x' h1 h2 h3 => ?_⟩
          by_cases e : posOf l i' v' = k
          · obtain ⟨rfl, rfl⟩ := pos_inj h1 hI (h1.ends hE).1 (hI.ends hE).1 (by omega)
            have := (h1.same hI).2.1
            cases this
          · exact HP.out i' v' u' c' x' h1 h2 (by omega)
        case measure => simp [intOf]; omega
      | false =>
        have stop : ¬ (0 ≤ x ∧ x ≤ c) → okB l f = false := fun h => by
          cases ho : okB l f with
          | false => rfl
          | true =>
            obtain ⟨hne, a, ha, hh⟩ := hI
            rcases hh with ⟨_, h1, h2, h3⟩ | ⟨h0, _⟩
            · have := okB_iff.1 ho i a x ha HX.out
              omega
            · cases h0
        have HS := Lib.hid stop; clear stop
        by_cases h0 : x < 0
        · go_wp2_with fail
          go_ret
          exact ⟨ret_bool (HS.out (by omega)).symm, Bw⟩
        · by_cases h1 : c < x
          · go_wp2_with fail
            go_ret
            exact ⟨ret_bool (HS.out (by omega)).symm, Bw⟩
          · go_wp2_with fail
            go_roundw
            case rel =>
              refine ⟨k + 1, by omega, by go_num, trivial, fun i' v' u' c' x' h1 h2 h3 => ?_⟩
              by_cases e : posOf l i' v' = k
              · obtain ⟨rfl, rfl⟩ := pos_inj h1 hI (h1.ends hE).1 (hI.ends hE).1 (by omega)
                have e2 := (h1.same hI).2.2
                have e3 := h2.symm.trans HX.out
                injection e3 with e3
                omega
              · exact HP.out i' v' u' c' x' h1 h2 (by omega)
            case measure => simp [intOf]; omega
    · go_wp2_with fail
      go_ret
      refine ⟨ret_bool (okB_iff.2 fun i a x ha hx => ?_).symm, Bw⟩
      by_cases e : a.frm = a.to
      · exact .inl e
      · have hI := inc_fwd ha e
        exact .inr (HP.out i _ _ _ x hI hx (by have := pos_lt hI hE; omega))

end Go.Proofs.Ytfcjmhihheeifaa

/-! Layer 2: Res. -/
namespace Go.Proofs.Ytfcjmhihheeifaa
open Go.RowKit

/-- Residual capacities, once the first k residual arcs are gone through. -/
structure ResTo (l : List ArcN) (f : List Int) (M k : Nat) (X : List Int) : Prop where
  len : X.length = M
  ent : ∀ (i : Nat) (v u c x : Int), Inc l i v u false c → f[i]? = some x → posOf l i v < k → X[posOf l i v]? = some (c - x) ∧ X[posOf l i u]? = some x
def capAt (l : List ArcN) (i : Nat) : Int := match l[i]? with
  | some a => a.cap
  | none => 0
/-- The residual capacities of a flow. -/
structure ResOf (l : List ArcN) (f : List Int) (M : Nat) (X : List Int) : Prop where
  len : X.length = M
  ent : ∀ (i : Nat) (v u : Int) (b : Bool) (c x : Int), Inc l i v u b c → f[i]? = some x → X[posOf l i v]? = some (if b then x else (capAt l i) - x)

theorem capAt_fwd {l : List ArcN} {i : Nat} {v u c : Int} (h : Inc l i v u false c) : capAt l i = c := by
  obtain ⟨_, a, ha, hh⟩ := h
  unfold capAt
  rw [ha]
  rcases hh with ⟨_, _, _, h⟩ | ⟨h, _⟩
  · exact h.symm
  · cases h

section
variable {l : List ArcN} {f X : List Int} {M N k i q : Nat} {v u c x : Int}
theorem ResTo.zero (l : List ArcN) (f : List Int) (M : Nat) : ResTo l f M 0 (List.replicate M 0) := ⟨by simp, fun _ _ _ _ _ _ _ h => absurd h (by omega)⟩
theorem ResTo.skip (h : ResTo l f M k X) (hE : EndsIn N l) (hI : Inc l i v u true c) (hp : posOf l i v = k) : ResTo l f M (k + 1) X := by
  refine ⟨h.len, fun i' v' u' c' x' h1 h2 h3 => ?_⟩
  by_cases e : posOf l i' v' = k
  · obtain ⟨rfl, rfl⟩ := pos_inj h1 hI (h1.ends hE).1 (hI.ends hE).1 (by omega)
    have := (h1.same hI).2.1
    cases this
  · exact h.ent i' v' u' c' x' h1 h2 (by omega)
theorem ResTo.step (h : ResTo l f M k X) (hE : EndsIn N l) (hM : firstOf l N = M) (hI : Inc l i v u false c) (hp : posOf l i v = k) (hq : posOf l i u = q) (hx : f[i]? = some x) : ResTo l f M (k + 1) ((X.set k (c - x)).set q x) := by
  obtain ⟨c1, hI'⟩ := hI.flip
  have p1 := pos_lt hI hE
  have p2 := pos_lt hI' hE
  have hl := h.len
  have hpq : k ≠ q := fun e => hI.1 (pos_inj hI hI' (hI.ends hE).1 (hI'.ends hE).1 (by omega)).1
  refine ⟨by simp [hl], fun i' v' u' c' x' h1 h2 h3 => ?_⟩
  by_cases e : posOf l i' v' = k
  · obtain ⟨rfl, rfl⟩ := pos_inj h1 hI (h1.ends hE).1 (hI.ends hE).1 (by omega)
    obtain ⟨e1, _, e2⟩ := h1.same hI
    subst e1; subst e2
    rw [hx] at h2
    injection h2 with h2
    subst h2
    rw [hp, hq]
    exact ⟨set2_fst hpq (by omega), set2_snd (by omega)⟩
  · obtain ⟨c2, h1'⟩ := h1.flip
    have hii : i' ≠ i := by
      rintro rfl
      obtain ⟨_, a, ha, hh⟩ := h1
      obtain ⟨_, a', ha', hh'⟩ := hI
      rw [ha] at ha'
      injection ha' with ha'
      subst ha'
      rcases hh with ⟨_, g1, g2, _⟩ | ⟨h0, _⟩
      · rcases hh' with ⟨_, g3, g4, _⟩ | ⟨h0, _⟩
        · exact e (by rw [← g1, g3]; exact hp)
        · cases h0
      · cases h0
    have n1 : posOf l i' v' ≠ q := fun e' => hii (pos_inj h1 hI' (h1.ends hE).1 (hI'.ends hE).1 (by omega)).2
    have n2 : posOf l i' u' ≠ k := fun e' => hii (pos_inj h1' hI (h1'.ends hE).1 (hI.ends hE).1 (by omega)).2
    have n3 : posOf l i' u' ≠ q := fun e' => hii (pos_inj h1' hI' (h1'.ends hE).1 (hI'.ends hE).1 (by omega)).2
    rw [set2_other e n1, set2_other n2 n3]
    exact h.ent i' v' u' c' x' h1 h2 (by omega)
theorem ResTo.done (h : ResTo l f M k X) (hE : EndsIn N l) (hM : firstOf l N = M) (hk : ¬ k < M) : ResOf l f M X := by
  refine ⟨h.len, fun i v u b c x hI hx => ?_⟩
  cases b with
  | false =>
    have := pos_lt hI hE
    rw [capAt_fwd hI]
    exact (h.ent i v u c x hI hx (by omega)).1
  | true =>
    obtain ⟨c', hI'⟩ := hI.flip
    have := pos_lt hI' hE
    exact (h.ent i u v c' x hI' hx (by omega)).2
end

/-- Numbers in new memory are answered, and no error. -/
def RetLongsP (Pr : List Int → Prop) (n : Nat) (w : World) (e : Ending) (w' : World) : Prop :=
  ∃ g X, e = .returned (.tuple #[.slice (some ⟨g, 0, none⟩) n n, .int .i64 0]) ∧ w.heap.size ≤ g ∧ Blk w' g 2 (ivs X) ∧ X.length = n ∧ Pr X ∧ Below w.heap.size w w'

set_option maxHeartbeats 1000000 in
theorem res_bad (N M : Nat) (S T : Int) (gF gH gR gC gA gB : Nat) (l : List ArcN) (Af : Option Addr) (nf cf : Nat) (f : List Int) (w : World) (hC : CsrAt w w.heap.size N l gF gH gR gC gA gB) (hE : EndsIn N l) (hMe : firstOf l N = M) (hM : M ≤ 100000000)
    (hf : Ints w w.heap.size Af nf f) (hl : l.length = nf) (hok : okB l f = false) :
    Calls Try.prog 91 #[csrV N M S T gF gH gR gC gA gB, .slice Af nf cf] w fun e w' => e = .returned (.tuple #[.slice none 0 0, .int .i64 20]) ∧ Below w.heap.size w w' := by
  go_enter Try.func91, Try.ntmps91
  go_wp2_with fail
  have C0 := hC.onAlloc (.cells #[.int .i64 N, .int .i64 S, .int .i64 T, .slice (some ⟨gF, 0, none⟩) (N + 1) (N + 1), .slice (some ⟨gH, 0, none⟩) M M, .slice (some ⟨gR, 0, none⟩) M M, .slice (some ⟨gC, 0, none⟩) M M, .slice (some ⟨gA, 0, none⟩) M M, .slice (some ⟨gB, 0, none⟩) M M] 45)
  have F0 := hf.onAlloc (.cells #[.int .i64 N, .int .i64 S, .int .i64 T, .slice (some ⟨gF, 0, none⟩) (N + 1) (N + 1), .slice (some ⟨gH, 0, none⟩) M M, .slice (some ⟨gR, 0, none⟩) M M, .slice (some ⟨gC, 0, none⟩) M M, .slice (some ⟨gA, 0, none⟩) M M, .slice (some ⟨gB, 0, none⟩) M M] 45)
  refine (wellFormed_good _ _ _ _ _ _ _ _ _ _ l _ C0 hE hMe hM).mono ?_
  rintro e w1 ⟨rfl, B1⟩
  have K : Blk w1 w.heap.size 45 _ := (Blk.new rfl).below B1 (by simp)
  obtain ⟨a0, a1, a2, a3, a4, a5, a6, a7, a8⟩ := K.at9
  have C1 := C0.on B1
  have F1 := F0.on B1
  have Bw := below_step (below_alloc _) B1
  have wi := within_any N M S T gF gH gR gC gA gB l Af nf cf f w1 C1 hE hMe hM F1 hl
  rw [hok] at wi
  have HW := Lib.hid wi; clear wi
  go_wp2_with fail
  refine HW.out.mono ?_
  rintro e w2 ⟨rfl, B2⟩
  go_wp2_with fail
  go_ret2
  exact ⟨rfl, below_step Bw B2⟩

set_option maxHeartbeats 2000000 in
theorem res_good (N M : Nat) (S T : Int) (gF gH gR gC gA gB : Nat) (l : List ArcN) (Af : Option Addr) (nf cf : Nat) (f : List Int) (w : World) (hC : CsrAt w w.heap.size N l gF gH gR gC gA gB) (hE : EndsIn N l) (hMe : firstOf l N = M) (hM : M ≤ 100000000)
    (hf : Ints w w.heap.size Af nf f) (hl : l.length = nf) (hok : okB l f = true) (hcap : ∀ a ∈ l, a.cap ≤ 4611686018427387904) :
    Calls Try.prog 91 #[csrV N M S T gF gH gR gC gA gB, .slice Af nf cf] w (RetLongsP (ResOf l f M) M w) := by
  obtain ⟨i1, hi, hz0, hz1, hz2⟩ := info_parts long_info
  have hml := fun W => run_make_lit (P := Try.prog) 25 2 i1 _ Try.underlying25 hi hz0 M (by rw [hz2]; omega) (by omega) W
  rw [hz1, ivs_made] at hml
  clear hi hz0 hz1 hz2
  go_enter Try.func91, Try.ntmps91
  go_wp2_with fail
  have C0 := hC.onAlloc (.cells #[.int .i64 N, .int .i64 S, .int .i64 T, .slice (some ⟨gF, 0, none⟩) (N + 1) (N + 1), .slice (some ⟨gH, 0, none⟩) M M, .slice (some ⟨gR, 0, none⟩) M M, .slice (some ⟨gC, 0, none⟩) M M, .slice (some ⟨gA, 0, none⟩) M M, .slice (some ⟨gB, 0, none⟩) M M] 45)
  have F0 := hf.onAlloc (.cells #[.int .i64 N, .int .i64 S, .int .i64 T, .slice (some ⟨gF, 0, none⟩) (N + 1) (N + 1), .slice (some ⟨gH, 0, none⟩) M M, .slice (some ⟨gR, 0, none⟩) M M, .slice (some ⟨gC, 0, none⟩) M M, .slice (some ⟨gA, 0, none⟩) M M, .slice (some ⟨gB, 0, none⟩) M M] 45)
  refine (wellFormed_good _ _ _ _ _ _ _ _ _ _ l _ C0 hE hMe hM).mono ?_
  rintro e w1 ⟨rfl, B1⟩
  have K : Blk w1 w.heap.size 45 _ := (Blk.new rfl).below B1 (by simp)
  obtain ⟨a0, a1, a2, a3, a4, a5, a6, a7, a8⟩ := K.at9
  have C1 := C0.on B1
  have F1 := F0.on B1
  have Bw := below_step (below_alloc _) B1
  have wi := within_any N M S T gF gH gR gC gA gB l Af nf cf f w1 C1 hE hMe hM F1 hl
  rw [hok] at wi
  have HW := Lib.hid wi; clear wi
  go_wp2_with fail
  refine HW.out.mono ?_
  rintro e w2 ⟨rfl, B2⟩
  have K2 := K.below B2 K.lt
  have C2 := C1.on B2
  have F2 := F1.on B2
  have Bw2 := below_step Bw B2
  clear a0 a1 a2 a3 a4 a5 a6 a7 a8 HW K C1 F1 Bw B2 C0 F0 B1
  obtain ⟨a0, a1, a2, a3, a4, a5, a6, a7, a8⟩ := K2.at9
  go_wp2_with fail
  refine (len_any _ _ _ _ _ _ _ _ _ _ _).mono ?_
  rintro e w3 ⟨rfl, B3⟩
  have K3 := K2.below B3 K2.lt
  have C3 := C2.on B3
  have F3 := F2.on B3
  have Bw3 := below_step Bw2 B3
  clear a0 a1 a2 a3 a4 a5 a6 a7 a8 K2 C2 F2 Bw2 B3
  obtain ⟨a0, a1, a2, a3, a4, a5, a6, a7, a8⟩ := K3.at9
  have hz := K3.lt
  go_wp2_with fail
  have X3 : Blk (w3.alloc (.cells (ivs (List.replicate M 0)) 2)) w3.heap.size 2 (ivs (List.replicate M 0)) := Blk.new rfl
  refine (len_any _ _ _ _ _ _ _ _ _ _ _).mono ?_
  rintro e w4 ⟨rfl, B4⟩
  have K4 := (K3.alloc (.cells (ivs (List.replicate M 0)) 2)).below B4 (K3.alloc _).lt
  have C4 := (C3.alloc1 (.cells (ivs (List.replicate M 0)) 2)).below (B4.mono (by simp))
  have F4 := (F3.below (below_alloc (.cells (ivs (List.replicate M 0)) 2))).below (B4.mono (by simp))
  have X4 := X3.below B4 X3.lt
  have Bw4 := below_step (Bw3.alloc Bw3.size _) B4
  clear a0 a1 a2 a3 a4 a5 a6 a7 a8 K3 C3 F3 Bw3 B4 X3
  have hx3 := X4.lt
  have hl4 := C4.lt
  go_wp2_with fail
  go_loopw [7, 8, 23] (fun _ _ i wr => ∃ (k : Nat) (X : List Int), k ≤ M ∧ i = .int .i64 k ∧ ResTo l f M k X ∧ Blk wr w3.heap.size 2 (ivs X) ∧ CsrAt wr w3.heap.size N l gF gH gR gC gA gB ∧ Ints wr w3.heap.size Af nf f ∧
      Blk wr w.heap.size 45 #[.int .i64 N, .int .i64 S, .int .i64 T, .slice (some ⟨gF, 0, none⟩) (N + 1) (N + 1), .slice (some ⟨gH, 0, none⟩) M M, .slice (some ⟨gR, 0, none⟩) M M, .slice (some ⟨gC, 0, none⟩) M M, .slice (some ⟨gA, 0, none⟩) M M, .slice (some ⟨gB, 0, none⟩) M M] ∧ Below w.heap.size w wr) (fun _ _ i _ => M - (intOf i).toNat)
  case atStart => exact ⟨0, _, Nat.zero_le _, rfl, ResTo.zero l f M, X4, C4, F4, K4, Bw4⟩
  case round =>
    clear X4 C4 F4 K4 Bw4
    obtain ⟨k, X, hk, rfl, R, X4, C4, F4, K4, Bw4⟩ := hrel
    obtain ⟨a0, a1, a2, a3, a4, a5, a6, a7, a8⟩ := K4.at9
    by_cases hlt : k < M
    · obtain ⟨i, q, v, u, b, c, hI, hpos, hqos, hq, e1, e2, e3, e4, e5⟩ := C4.at hE (show k < firstOf l N by omega)
      obtain ⟨bf, off, x, rfl, hbf, hfx, hcx⟩ := intl_at F4 (k := i) (by have := hI.lt; omega)
      have HX := Lib.hid hfx; clear hfx
      have hin : (i : Int) < (nf : Int) := by have := hI.lt; omega
      cases b with
      | true =>
        go_wp2_with fail
        go_roundw
        case rel => exact ⟨k + 1, X, by omega, by go_num, R.skip hE hI hpos, X4, C4, F4, K4, Bw4⟩
        case measure => simp [intOf]; omega
      | false =>
        obtain ⟨hx0, hx1, hx2⟩ : 0 ≤ x ∧ x ≤ c ∧ c ≤ 4611686018427387904 := by
          obtain ⟨hne, a, ha, hh⟩ := hI
          rcases hh with ⟨_, h1, h2, h3⟩ | ⟨h0, _⟩
          · have h4 := okB_iff.1 hok i a x ha HX.out
            have h5 := hcap a (mem_at ha)
            omega
          · cases h0
        have hlen := R.len
        obtain ⟨y1, hy1⟩ : ∃ y, X[k]? = some y := ⟨_, List.getElem?_eq_getElem (by omega)⟩
        obtain ⟨y2, hy2⟩ : ∃ y, X[q]? = some y := ⟨_, List.getElem?_eq_getElem (by omega)⟩
        have c1 := X4.iat hy1
        have c2 := X4.iat hy2
        have d1 := X4.frozen k; have d2 := X4.frozen q
        have hqM : q < M := by omega
        have n1 : w3.heap.size ≠ w.heap.size := by omega
        have n2 : w3.heap.size ≠ gR := by omega
        have n3 : w3.heap.size ≠ gC := by omega
        have hkq : k ≠ q := fun e => hI.1 (pos_inj hI (hI.flip.choose_spec) (hI.ends hE).1 (hI.ends hE).2.2.1 (by omega)).1
        have HR := Lib.hid R; have HX4 := Lib.hid X4; have HC := Lib.hid C4; have HF := Lib.hid F4; have HK := Lib.hid K4; have HB := Lib.hid Bw4; have HI := Lib.hid hI; have HP := Lib.hid hpos; have HQ := Lib.hid hqos
        clear R X4 C4 F4 K4 Bw4 hI hpos hqos hy1 hy2
        go_wp2_with fail
        go_region_held3 (fun W => W.cell? ⟨w.heap.size, 5, none⟩ = some (.slice (some ⟨gR, 0, none⟩) M M) ∧ W.cell? ⟨w.heap.size, 6, none⟩ = some (.slice (some ⟨gC, 0, none⟩) M M) ∧ W.cell? ⟨gR, k, none⟩ = some (.int .i64 (q : Int)) ∧ W.cell? ⟨gC, k, none⟩ = some (.int .i64 c)) (go_keep) (first | fail)
        go_wp2_with fail
        go_roundw
        case rel =>
          have hb2 : Below w3.heap.size wr ((wr.setCell ⟨w3.heap.size, k, none⟩ (.int .i64 (c - x))).setCell ⟨w3.heap.size, q, none⟩ (.int .i64 x)).drew := (((Below.refl _ _).setCell (by simp) _).setCell (by simp) _).drew
          exact ⟨k + 1, _, by omega, by go_num, HR.out.step hE hMe HI.out HP.out HQ.out HX.out, ((HX4.out.iset k (c - x)).iset q x).drew, HC.out.below hb2, HF.out.below hb2, HK.out.below hb2 (by omega), HB.out.trans (hb2.mono (by omega))⟩
        case measure => simp [intOf]; omega
    · go_wp2_with fail
      go_ret2
      exact ⟨_, _, rfl, by omega, X4, R.len, R.done hE hMe hlt, Bw4⟩

end Go.Proofs.Ytfcjmhihheeifaa
