/- What To and From tell, whatever is asked: dist's, and the document's answer. -/
import Derived.Test.YtdbfngamplkjeaaBell
namespace Go.Proofs.Ytdbfngamplkjeaa
open Go.RowKit
set_option maxRecDepth 100000

/-- What To (true), From (false) tell. -/
def ToAns (b : Bool) (N M n : Nat) (hd rv : Nat → Nat) (X : List Int) (t : Int) (l : List Int) : Prop :=
  (n = M ∧ ∃ tn : Nat, t = (tn : Int) ∧ tn < N ∧ ∃ d, IsDist (linkOf b M hd rv X) N tn d ∧ l = tab N fun v => (d v : Int)) ∨ ((n ≠ M ∨ ¬ (0 ≤ t ∧ t < (N : Int))) ∧ l = [])
theorem ToAns.same {b : Bool} {N M n : Nat} {hd rv : Nat → Nat} {X : List Int} {t : Int} {l l' : List Int} (h : ToAns b N M n hd rv X t l) (h' : ToAns b N M n hd rv X t l') : l = l' := by
  rcases h with ⟨hn, tn, ht, htN, d, hD, rfl⟩ | ⟨hn, rfl⟩
  · rcases h' with ⟨hn', tn', ht', htN', d', hD', rfl⟩ | ⟨hn', rfl⟩
    · obtain rfl : tn = tn' := by omega
      exact tab_same (hD.same hD' fun _ _ _ _ => Iff.rfl)
    · exfalso; omega
  · rcases h' with ⟨hn', tn', ht', htN', d', hD', rfl⟩ | ⟨hn', rfl⟩
    · exfalso; omega
    · rfl
theorem ret_none {P : List Int → Prop} {w w' : World} (hP : P []) (hB : Below w.heap.size w w') : RetList P w (.returned (.slice none 0 0)) w' := ⟨none, 0, 0, [], rfl, RdBy.empty, by omega, hP, hB⟩

set_option maxHeartbeats 4000000 in
theorem dto_any (N M : Nat) (S T : Int) (K : CsrS) (fst hd rv : Nat → Nat) (AX : Option Addr) (n cX : Nat) (X : List Int) (t : Int) (w : World) (hG : Grid N M fst hd rv) (hI : GridIn w w.heap.size N M K fst hd rv) (hX : Ints w w.heap.size AX n X) (hM : M ≤ 100000000) (hN : N ≤ 4096) :
    Calls Try.prog 14 #[csrW N M S T K, .slice AX n cX, .int .i64 t] w (RetList (ToAns true N M n hd rv X t) w) := by
  by_cases hn : n = M
  · subst hn
    by_cases ht : 0 ≤ t ∧ t < (N : Int)
    · obtain ⟨tn, rfl⟩ := Int.eq_ofNat_of_zero_le ht.1
      refine (to_dist N n S T K fst hd rv AX cX X tn w hG hI hX hM hN (by omega)).mono ?_
      rintro e w' ⟨g, d, rfl, D, hD, -, B⟩
      exact ⟨_, N, N, _, rfl, D, by omega, .inl ⟨rfl, tn, rfl, by omega, d, hD, rfl⟩, B⟩
    · obtain ⟨AF, cF, AH, cH, AR, cR, AC, cC, AA, cA, AB, cB⟩ := K
      dsimp only [csrW]
      have HP := Lib.hid (show ToAns true N n n hd rv X t [] from .inr ⟨.inr ht, rfl⟩)
      have HT := Lib.hid ht
      clear ht hX
      have hG' := Lib.hid hG; have hI' := Lib.hid hI
      clear hG hI
      go_enter Try.func14, Try.ntmps14
      go_wp2_with fail
      refine (fit_yes N n S T ⟨AF, cF, AH, cH, AR, cR, AC, cC, AA, cA, AB, cB⟩ fst hd rv AX cX _ hG'.out ((hI'.out.onAlloc _).onAlloc _) hN hM).mono ?_
      rintro e w1 ⟨rfl, B1⟩
      have K1 : Blk w1 w.heap.size 29 #[.int .i64 (N : Int), .int .i64 S, .int .i64 T, .slice AF (N + 1) cF, .slice AH n cH, .slice AR n cR, .slice AC n cC, .slice AA n cA, .slice AB n cB] := ((Blk.new rfl).alloc _).below B1 (by simp <;> omega)
      have Bw1 := below_step ((below_alloc (w := w) (.cells #[.int .i64 (N : Int), .int .i64 S, .int .i64 T, .slice AF (N + 1) cF, .slice AH n cH, .slice AR n cR, .slice AC n cC, .slice AA n cA, .slice AB n cB] 29)).alloc (by simp) (.cells #[.slice AX n cX] 25)) B1
      have HB := Lib.hid Bw1
      have k0 := K1.cell 0
      simp only [List.getElem?_toArray, List.getElem?_cons_zero] at k0
      have hz1 := K1.lt
      clear B1 Bw1 K1
      go_wp2_with (go_at_call 27; refine (dindex_no HT.out _).mono ?_; rintro e w' ⟨rfl, hw⟩; obtain rfl : _ = w' := hw.symm)
      go_ret
      exact ret_none HP.out HB.out
  · obtain ⟨AF, cF, AH, cH, AR, cR, AC, cC, AA, cA, AB, cB⟩ := K
    dsimp only [csrW]
    have HP := Lib.hid (show ToAns true N M n hd rv X t [] from .inr ⟨.inl hn, rfl⟩)
    have HN := Lib.hid hn
    clear hn hX hG hI
    go_enter Try.func14, Try.ntmps14
    go_wp2_with fail
    refine (fit_no N M S T ⟨AF, cF, AH, cH, AR, cR, AC, cC, AA, cA, AB, cB⟩ AX n cX _ HN.out).mono ?_
    rintro e w1 ⟨rfl, B1⟩
    have Bw1 := below_step ((below_alloc (w := w) (.cells #[.int .i64 (N : Int), .int .i64 S, .int .i64 T, .slice AF (N + 1) cF, .slice AH M cH, .slice AR M cR, .slice AC M cC, .slice AA M cA, .slice AB M cB] 29)).alloc (by simp) (.cells #[.slice AX n cX] 25)) B1
    have HB := Lib.hid Bw1
    clear B1 Bw1
    go_wp2_with fail
    go_ret
    exact ret_none HP.out HB.out

set_option maxHeartbeats 4000000 in
theorem dfrom_any (N M : Nat) (S T : Int) (K : CsrS) (fst hd rv : Nat → Nat) (AX : Option Addr) (n cX : Nat) (X : List Int) (t : Int) (w : World) (hG : Grid N M fst hd rv) (hI : GridIn w w.heap.size N M K fst hd rv) (hX : Ints w w.heap.size AX n X) (hM : M ≤ 100000000) (hN : N ≤ 4096) :
    Calls Try.prog 16 #[csrW N M S T K, .slice AX n cX, .int .i64 t] w (RetList (ToAns false N M n hd rv X t) w) := by
  by_cases hn : n = M
  · subst hn
    by_cases ht : 0 ≤ t ∧ t < (N : Int)
    · obtain ⟨tn, rfl⟩ := Int.eq_ofNat_of_zero_le ht.1
      refine (from_dist N n S T K fst hd rv AX cX X tn w hG hI hX hM hN (by omega)).mono ?_
      rintro e w' ⟨g, d, rfl, D, hD, -, B⟩
      exact ⟨_, N, N, _, rfl, D, by omega, .inl ⟨rfl, tn, rfl, by omega, d, hD, rfl⟩, B⟩
    · obtain ⟨AF, cF, AH, cH, AR, cR, AC, cC, AA, cA, AB, cB⟩ := K
      dsimp only [csrW]
      have HP := Lib.hid (show ToAns false N n n hd rv X t [] from .inr ⟨.inr ht, rfl⟩)
      have HT := Lib.hid ht
      clear ht hX
      have hG' := Lib.hid hG; have hI' := Lib.hid hI
      clear hG hI
      go_enter Try.func16, Try.ntmps16
      go_wp2_with fail
      refine (fit_yes N n S T ⟨AF, cF, AH, cH, AR, cR, AC, cC, AA, cA, AB, cB⟩ fst hd rv AX cX _ hG'.out ((hI'.out.onAlloc _).onAlloc _) hN hM).mono ?_
      rintro e w1 ⟨rfl, B1⟩
      have K1 : Blk w1 w.heap.size 29 #[.int .i64 (N : Int), .int .i64 S, .int .i64 T, .slice AF (N + 1) cF, .slice AH n cH, .slice AR n cR, .slice AC n cC, .slice AA n cA, .slice AB n cB] := ((Blk.new rfl).alloc _).below B1 (by simp <;> omega)
      have Bw1 := below_step ((below_alloc (w := w) (.cells #[.int .i64 (N : Int), .int .i64 S, .int .i64 T, .slice AF (N + 1) cF, .slice AH n cH, .slice AR n cR, .slice AC n cC, .slice AA n cA, .slice AB n cB] 29)).alloc (by simp) (.cells #[.slice AX n cX] 25)) B1
      have HB := Lib.hid Bw1
      have k0 := K1.cell 0
      simp only [List.getElem?_toArray, List.getElem?_cons_zero] at k0
      have hz1 := K1.lt
      clear B1 Bw1 K1
      go_wp2_with (go_at_call 27; refine (dindex_no HT.out _).mono ?_; rintro e w' ⟨rfl, hw⟩; obtain rfl : _ = w' := hw.symm)
      go_ret
      exact ret_none HP.out HB.out
  · obtain ⟨AF, cF, AH, cH, AR, cR, AC, cC, AA, cA, AB, cB⟩ := K
    dsimp only [csrW]
    have HP := Lib.hid (show ToAns false N M n hd rv X t [] from .inr ⟨.inl hn, rfl⟩)
    have HN := Lib.hid hn
    clear hn hX hG hI
    go_enter Try.func16, Try.ntmps16
    go_wp2_with fail
    refine (fit_no N M S T ⟨AF, cF, AH, cH, AR, cR, AC, cC, AA, cA, AB, cB⟩ AX n cX _ HN.out).mono ?_
    rintro e w1 ⟨rfl, B1⟩
    have Bw1 := below_step ((below_alloc (w := w) (.cells #[.int .i64 (N : Int), .int .i64 S, .int .i64 T, .slice AF (N + 1) cF, .slice AH M cH, .slice AR M cR, .slice AC M cC, .slice AA M cA, .slice AB M cB] 29)).alloc (by simp) (.cells #[.slice AX n cX] 25)) B1
    have HB := Lib.hid Bw1
    clear B1 Bw1
    go_wp2_with fail
    go_ret
    exact ret_none HP.out HB.out

set_option maxHeartbeats 4000000 in
theorem rto_any (N M : Nat) (S T : Int) (K : CsrS) (fst hd rv : Nat → Nat) (AX : Option Addr) (n cX : Nat) (X : List Int) (t : Int) (w : World) (hG : Grid N M fst hd rv) (hI : GridIn w w.heap.size N M K fst hd rv) (hX : Ints w w.heap.size AX n X) (hM : M ≤ 100000000) (hN : N ≤ 4096) :
    Calls Try.prog 15 #[csrW N M S T K, .slice AX n cX, .int .i64 t] w (RetList (ToAns true N M n hd rv X t) w) := by
  by_cases hn : n = M
  · subst hn
    by_cases ht : 0 ≤ t ∧ t < (N : Int)
    · obtain ⟨tn, rfl⟩ := Int.eq_ofNat_of_zero_le ht.1
      refine (rto_good N n S T K fst hd rv AX cX X tn w hG hI hX hM hN (by omega)).mono ?_
      rintro e w' ⟨A, m, c, l, rfl, D, hm, ⟨d, hD, rfl⟩, B⟩
      exact ⟨A, m, c, _, rfl, D, hm, .inl ⟨rfl, tn, rfl, by omega, d, hD, rfl⟩, B⟩
    · obtain ⟨AF, cF, AH, cH, AR, cR, AC, cC, AA, cA, AB, cB⟩ := K
      dsimp only [csrW]
      have HP := Lib.hid (show ToAns true N n n hd rv X t [] from .inr ⟨.inr ht, rfl⟩)
      clear hX hG hI
      by_cases h0 : t < 0
      · have g1 : decide (t < 0) = true := decide_eq_true h0
        clear ht
        go_enter Try.func15, Try.ntmps15
        go_wp2_with fail
        go_ret
        exact ret_none HP.out (below_alloc _)
      · have g1 : decide (t < 0) = false := decide_eq_false h0
        have h1 : (N : Int) ≤ t := by omega
        have g2 : decide ((N : Int) ≤ t) = true := decide_eq_true h1
        clear ht
        go_enter Try.func15, Try.ntmps15
        go_wp2_with fail
        go_ret
        exact ret_none HP.out (below_alloc _)
  · obtain ⟨AF, cF, AH, cH, AR, cR, AC, cC, AA, cA, AB, cB⟩ := K
    dsimp only [csrW]
    have HP := Lib.hid (show ToAns true N M n hd rv X t [] from .inr ⟨.inl hn, rfl⟩)
    clear hX hG hI
    have h1 : ¬ (n : Int) = (M : Int) := by omega
    have h2 : ((n : Int) == (M : Int)) = false := beq_eq_false_iff_ne.2 h1
    have h3 : decide (n = M) = false := decide_eq_false hn
    go_enter Try.func15, Try.ntmps15
    go_wp2_with fail
    go_ret
    exact ret_none HP.out (below_alloc _)

set_option maxHeartbeats 4000000 in
theorem rfrom_any (N M : Nat) (S T : Int) (K : CsrS) (fst hd rv : Nat → Nat) (AX : Option Addr) (n cX : Nat) (X : List Int) (t : Int) (w : World) (hG : Grid N M fst hd rv) (hI : GridIn w w.heap.size N M K fst hd rv) (hX : Ints w w.heap.size AX n X) (hM : M ≤ 100000000) (hN : N ≤ 4096) :
    Calls Try.prog 17 #[csrW N M S T K, .slice AX n cX, .int .i64 t] w (RetList (ToAns false N M n hd rv X t) w) := by
  by_cases hn : n = M
  · subst hn
    by_cases ht : 0 ≤ t ∧ t < (N : Int)
    · obtain ⟨tn, rfl⟩ := Int.eq_ofNat_of_zero_le ht.1
      refine (rfrom_good N n S T K fst hd rv AX cX X tn w hG hI hX hM hN (by omega)).mono ?_
      rintro e w' ⟨A, m, c, l, rfl, D, hm, ⟨d, hD, rfl⟩, B⟩
      exact ⟨A, m, c, _, rfl, D, hm, .inl ⟨rfl, tn, rfl, by omega, d, hD, rfl⟩, B⟩
    · obtain ⟨AF, cF, AH, cH, AR, cR, AC, cC, AA, cA, AB, cB⟩ := K
      dsimp only [csrW]
      have HP := Lib.hid (show ToAns false N n n hd rv X t [] from .inr ⟨.inr ht, rfl⟩)
      clear hX hG hI
      by_cases h0 : t < 0
      · have g1 : decide (t < 0) = true := decide_eq_true h0
        clear ht
        go_enter Try.func17, Try.ntmps17
        go_wp2_with fail
        go_ret
        exact ret_none HP.out (below_alloc _)
      · have g1 : decide (t < 0) = false := decide_eq_false h0
        have h1 : (N : Int) ≤ t := by omega
        have g2 : decide ((N : Int) ≤ t) = true := decide_eq_true h1
        clear ht
        go_enter Try.func17, Try.ntmps17
        go_wp2_with fail
        go_ret
        exact ret_none HP.out (below_alloc _)
  · obtain ⟨AF, cF, AH, cH, AR, cR, AC, cC, AA, cA, AB, cB⟩ := K
    dsimp only [csrW]
    have HP := Lib.hid (show ToAns false N M n hd rv X t [] from .inr ⟨.inl hn, rfl⟩)
    clear hX hG hI
    have h1 : ¬ (n : Int) = (M : Int) := by omega
    have h2 : ((n : Int) == (M : Int)) = false := beq_eq_false_iff_ne.2 h1
    have h3 : decide (n = M) = false := decide_eq_false hn
    go_enter Try.func17, Try.ntmps17
    go_wp2_with fail
    go_ret
    exact ret_none HP.out (below_alloc _)

end Go.Proofs.Ytdbfngamplkjeaa
