/- Layer 2: what is asked of a residual network and a flow. -/
import Derived.Test.YtbmndghgmndgmaaCsrd
namespace Go.Proofs.Ytbmndghgmndgmaa
open Go.RowKit

/-- Is a flow within the capacities, where an arc is no loop? -/
def okB (l : List ArcN) (f : List Int) : Bool := (l.zip f).all fun p => decide (p.1.frm = p.1.to ∨ (0 ≤ p.2 ∧ p.2 ≤ p.1.cap))
theorem okB_iff {l : List ArcN} {f : List Int} : okB l f = true ↔ ∀ (i : Nat) (a : ArcN) (x : Int), l[i]? = some a → f[i]? = some x → a.frm = a.to ∨ (0 ≤ x ∧ x ≤ a.cap) := by
  unfold okB
  rw [List.all_eq_true]
  constructor
  · intro h i a x ha hx
    have := h (a, x) (List.mem_of_getElem? (i := i) (by rw [List.getElem?_zip_eq_some]; exact ⟨ha, hx⟩))
    simpa using this
  · intro h p hp
    obtain ⟨i, hi⟩ := List.getElem?_of_mem hp
    rw [List.getElem?_zip_eq_some] at hi
    simpa using h i p.1 p.2 hi.1 hi.2

theorem csr_size {N : Nat} {l : List ArcN} (hN : N ≤ 4096) (hl : l.length ≤ 16384) : firstOf l N ≤ 100000000 := by
  have h1 := firstOf_le l N
  have h4 := Nat.mul_le_mul hN hl
  omega

/-- What stands at a number of a residual arc. -/
theorem CsrAt.at {w : World} {n0 N : Nat} {l : List ArcN} {gF gH gR gC gA gB k : Nat} (h : CsrAt w n0 N l gF gH gR gC gA gB) (hE : EndsIn N l) (hk : k < firstOf l N) :
    ∃ (i q : Nat) (v u : Int) (b : Bool) (c : Int), Inc l i v u b c ∧ posOf l i v = k ∧ posOf l i u = q ∧ q < firstOf l N ∧ w.cell? ⟨gH, k, none⟩ = some (.int .i64 u) ∧ w.cell? ⟨gR, k, none⟩ = some (.int .i64 (q : Int)) ∧
      w.cell? ⟨gC, k, none⟩ = some (.int .i64 c) ∧ w.cell? ⟨gA, k, none⟩ = some (.int .i64 (i : Int)) ∧ w.cell? ⟨gB, k, none⟩ = some (.bool b) := by
  obtain ⟨i, v, u, b, c, hI, rfl, _, _⟩ := pos_find hk
  obtain ⟨c', hI'⟩ := hI.flip
  obtain ⟨e1, e2, e3, e4, e5⟩ := h.ent _ _ _ _ _ hI
  exact ⟨i, _, v, u, b, c, hI, rfl, rfl, pos_lt hI' hE, e1, e2, e3, e4, e5⟩

set_option maxHeartbeats 1000000 in
theorem wellFormed_good (N M : Nat) (S T : Int) (gF gH gR gC gA gB : Nat) (l : List ArcN) (w : World) (hC : CsrAt w w.heap.size N l gF gH gR gC gA gB) (hE : EndsIn N l) (hMe : firstOf l N = M) (hM : M ≤ 100000000) :
    Calls Try.prog 25 #[csrV N M S T gF gH gR gC gA gB] w fun e w' => e = .returned (.bool true) ∧ Below w.heap.size w w' := by
  go_enter Try.func25, Try.ntmps25
  go_wp2_with fail
  refine (len_any _ _ _ _ _ _ _ _ _ _ _).mono ?_
  rintro e w1 ⟨rfl, B1⟩
  have K : Blk w1 w.heap.size 30 _ := (Blk.new rfl).below B1 (by simp)
  have C1 := (hC.onAlloc _).on B1
  have Bw := below_step (below_alloc _) B1
  obtain ⟨a0, a1, a2, a3, a4, a5, a6, a7, a8⟩ := K.at9
  go_wp2_with fail
  go_loopw [4, 34] (fun _ i wr => ∃ k : Nat, k ≤ M ∧ i = .int .i64 k ∧ wr = w1) (fun _ i _ => M - (intOf i).toNat)
  case atStart => exact ⟨0, Nat.zero_le _, rfl, rfl⟩
  case round =>
    obtain ⟨k, hk, rfl, rfl⟩ := hrel
    by_cases hlt : k < M
    · obtain ⟨i, q, v, u, b, c, hI, _, _, hq, e1, e2, e3, e4, e5⟩ := C1.at hE (show k < firstOf l N by omega)
      have x1 := fun W => isIndex_any (q : Int) (M : Int) W
      rw [decide_eq_true (show 0 ≤ (q : Int) ∧ (q : Int) < (M : Int) by omega)] at x1
      have HX := Lib.hid x1; clear x1
      go_wp2_with fail
      refine (HX.out _).mono ?_
      rintro e W ⟨rfl, rfl⟩
      go_wp2_with fail
      go_roundw
      case rel => exact ⟨k + 1, by omega, by go_num, trivial⟩
      case measure => simp [intOf]; omega
    · go_wp2_with fail
      go_ret
      exact ⟨rfl, Bw⟩

set_option maxHeartbeats 1000000 in
theorem allBelow_good (g n c : Nat) (b : Int) (w : World) (hn : n ≤ 100000000) (hc : ∀ j, j < n → ∃ x : Int, w.cell? ⟨g, j, none⟩ = some (.int .i64 x) ∧ x < b) :
    Calls Try.prog 27 #[.slice (some ⟨g, 0, none⟩) n c, .int .i64 b] w fun e w' => e = .returned (.bool true) ∧ w' = w := by
  go_enter Try.func27, Try.ntmps27
  go_wp2_with fail
  go_loopw [6, 9] (fun _ i wr => ∃ k : Nat, k ≤ n ∧ i = .int .i64 k ∧ wr = w) (fun _ i _ => n - (intOf i).toNat)
  case atStart => exact ⟨0, Nat.zero_le _, rfl, rfl⟩
  case round =>
    obtain ⟨k, hk, rfl, rfl⟩ := hrel
    by_cases hlt : k < n
    · obtain ⟨x, hx, hxb⟩ := hc k hlt
      clear hc
      have hxb' : ¬ b ≤ x := by omega
      go_wp2_with fail
      go_roundw
      case rel => exact ⟨k + 1, by omega, by go_num, trivial⟩
      case measure => simp [intOf]; omega
    · clear hc
      go_wp2_with fail
      go_ret
      exact ⟨rfl, rfl⟩

set_option maxHeartbeats 1000000 in
theorem within_any (N M : Nat) (S T : Int) (gF gH gR gC gA gB : Nat) (l : List ArcN) (Af : Option Addr) (nf cf : Nat) (f : List Int) (w : World) (hC : CsrAt w w.heap.size N l gF gH gR gC gA gB) (hE : EndsIn N l) (hMe : firstOf l N = M) (hM : M ≤ 100000000)
    (hf : Ints w w.heap.size Af nf f) (hl : l.length = nf) :
    Calls Try.prog 26 #[csrV N M S T gF gH gR gC gA gB, .slice Af nf cf] w fun e w' => e = .returned (.bool (okB l f)) ∧ Below w.heap.size w w' := by
  go_enter Try.func26, Try.ntmps26
  go_wp2_with fail
  have C0 := hC.onAlloc (.cells #[.int .i64 N, .int .i64 S, .int .i64 T, .slice (some ⟨gF, 0, none⟩) (N + 1) (N + 1), .slice (some ⟨gH, 0, none⟩) M M, .slice (some ⟨gR, 0, none⟩) M M, .slice (some ⟨gC, 0, none⟩) M M, .slice (some ⟨gA, 0, none⟩) M M, .slice (some ⟨gB, 0, none⟩) M M] 30)
  refine (allBelow_good gA M M nf _ hM ?_).mono ?_
  · intro j hj
    obtain ⟨i, q, v, u, b, c, hI, _, _, hq, e1, e2, e3, e4, e5⟩ := C0.at hE (show j < firstOf l N by omega)
    exact ⟨i, e4, by have := hI.lt; omega⟩
  rintro e w0 ⟨rfl, rfl⟩
  go_wp2_with fail
  refine (len_any _ _ _ _ _ _ _ _ _ _ _).mono ?_
  rintro e w1 ⟨rfl, B1⟩
  have K : Blk w1 w.heap.size 30 _ := (Blk.new rfl).below B1 (by simp)
  have C1 := C0.on B1
  have F1 := (hf.onAlloc _).on B1
  have Bw := below_step (below_alloc _) B1
  obtain ⟨a0, a1, a2, a3, a4, a5, a6, a7, a8⟩ := K.at9
  go_wp2_with fail
  go_loopw [5, 6, 15] (fun _ _ i wr => ∃ k : Nat, k ≤ M ∧ i = .int .i64 k ∧ wr = w1 ∧ ∀ i v u c x, Inc l i v u false c → f[i]? = some x → posOf l i v < k → 0 ≤ x ∧ x ≤ c) (fun _ _ i _ => M - (intOf i).toNat)
  case atStart => exact ⟨0, Nat.zero_le _, rfl, rfl, fun _ _ _ _ _ _ _ h => absurd h (by omega)⟩
  case round =>
    obtain ⟨k, hk, rfl, rfl, hp⟩ := hrel
    have HP := Lib.hid hp; clear hp
    by_cases hlt : k < M
    · obtain ⟨i, q, v, u, b, c, hI, hpos, _, hq, e1, e2, e3, e4, e5⟩ := C1.at hE (show k < firstOf l N by omega)
      obtain ⟨bf, off, x, rfl, hbf, hfx, hcx⟩ := intl_at F1 (k := i) (by have := hI.lt; omega)
      have HX := Lib.hid hfx; clear hfx
      have hin : (i : Int) < (nf : Int) := by have := hI.lt; omega
      cases b with
      | true =>
        go_wp2_with fail
        go_roundw
        case rel =>
          refine ⟨k + 1, by omega, by go_num, trivial, fun i' v' u' c' x' h1 h2 h3 => ?_⟩
          by_cases e : posOf l i' v' = k
          · obtain ⟨rfl, rfl⟩ := pos_inj h1 hI (h1.ends hE).1 (hI.ends hE).1 (by omega)
            have := (h1.same hI).2.1
            cases this
          · exact HP.out i' v' u' c' x' h1 h2 (by omega)
        case measure => simp [intOf]; omega
      | false =>
        have stop : ¬ (0 ≤ x ∧ x ≤ c) → okB l f = false := fun h => by
          cases ho : okB l f with
          | false => rfl
          | true =>
            obtain ⟨hne, a, ha, hh⟩ := hI
            rcases hh with ⟨_, h1, h2, h3⟩ | ⟨h0, _⟩
            · have := okB_iff.1 ho i a x ha HX.out
              omega
            · cases h0
        have HS := Lib.hid stop; clear stop
        by_cases h0 : x < 0
        · go_wp2_with fail
          go_ret
          exact ⟨ret_bool (HS.out (by omega)).symm, Bw⟩
        · by_cases h1 : c < x
          · go_wp2_with fail
            go_ret
            exact ⟨ret_bool (HS.out (by omega)).symm, Bw⟩
          · go_wp2_with fail
            go_roundw
            case rel =>
              refine ⟨k + 1, by omega, by go_num, trivial, fun i' v' u' c' x' h1 h2 h3 => ?_⟩
              by_cases e : posOf l i' v' = k
              · obtain ⟨rfl, rfl⟩ := pos_inj h1 hI (h1.ends hE).1 (hI.ends hE).1 (by omega)
                have e2 := (h1.same hI).2.2
                have e3 := h2.symm.trans HX.out
                injection e3 with e3
                omega
              · exact HP.out i' v' u' c' x' h1 h2 (by omega)
            case measure => simp [intOf]; omega
    · go_wp2_with fail
      go_ret
      refine ⟨ret_bool (okB_iff.2 fun i a x ha hx => ?_).symm, Bw⟩
      by_cases e : a.frm = a.to
      · exact .inl e
      · have hI := inc_fwd ha e
        exact .inr (HP.out i _ _ _ x hI hx (by have := pos_lt hI hE; omega))

end Go.Proofs.Ytbmndghgmndgmaa
