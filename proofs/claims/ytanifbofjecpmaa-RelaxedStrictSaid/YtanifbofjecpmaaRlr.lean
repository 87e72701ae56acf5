/- Layer 9: rightRes, excesses, rightExcesses, rightHeights, Right: which states are sound. -/
import Derived.Test.YtanifbofjecpmaaRlf
import Derived.Test.YtanifbofjecpmaaHxf
namespace Go.Proofs.Ytanifbofjecpmaa
open Go.RowKit Go.Shelf
set_option maxRecDepth 100000

/-! Plainly. -/
/-- The first k are as they should be. -/
def BalK (M : Nat) (rv : Nat → Nat) (cp : Nat → Int) (X : List Int) (k : Nat) : Prop := ∀ a, a < k → a < M → 0 ≤ hOf X a ∧ hOf X (rv a) = cp a + cp (rv a) - hOf X a
theorem balK_iff {M : Nat} {rv : Nat → Nat} {cp : Nat → Int} {X : List Int} (hX : X.length = M) : BalK M rv cp X M ↔ Bal M rv cp X :=
  ⟨fun h => ⟨hX, fun a ha => by have := h a ha ha; omega⟩, fun h a ha _ => by have := h.2 a ha; omega⟩
theorem cp_sum {N M s t : Nat} {fst hd rv ai : Nat → Nat} {cp : Nat → Int} {bk : Nat → Bool} (hG : PNet N M s t fst hd rv ai cp bk) {a : Nat} (ha : a < M) : 0 ≤ cp a + cp (rv a) ∧ cp a + cp (rv a) ≤ maxSum := by
  have h1 := hG.cp0 a ha
  have hr := hG.g.rvl a ha
  have h2 := hG.cp0 _ hr
  cases hb : bk a with
  | true => have := hG.cpb a ha hb; omega
  | false => have := hG.cpb _ hr (by rw [hG.bkr a ha, hb]; rfl); omega
/-- What has come to v along the first k. -/
def exbB (hd rv : Nat → Nat) (bk : Nat → Bool) (X : List Int) (v : Nat) (k : Nat) : Int := sumN (fun a => if bk a = true then (if hd (rv a) = v then hOf X a else 0) - (if hd a = v then hOf X a else 0) else 0) k
theorem exB_exT {N M s t : Nat} {fst hd rv ai : Nat → Nat} {cp : Nat → Int} {bk : Nat → Bool} {X : List Int} (hG : PNet N M s t fst hd rv ai cp bk) (hb : Bal M rv cp X) (v : Nat) : exbB hd rv bk X v M = exT M hd rv cp X v := by
  have h1 : exbB hd rv bk X v M = sumN (fun a => (if bk a = true then (if hd (rv a) = v then hOf X a else 0) else 0) - (if bk a = true then (if hd a = v then hOf X a else 0) else 0)) M :=
    sumN_congr fun a _ => by split <;> rfl
  rw [h1, sumN_sub, ← sumN_inv hG.g.rvl hG.g.rvv fun a => if bk a = true then (if hd a = v then hOf X a else 0) else 0, ← sumN_sub]
  unfold exT
  refine sumN_congr fun j hj => ?_
  have hr := hG.g.rvl j hj
  have h2 := (hb.2 j hj).2
  have hbr := hG.bkr j hj
  show (if bk j = true then (if hd (rv j) = v then hOf X j else 0) else 0) - (if bk (rv j) = true then (if hd (rv j) = v then hOf X (rv j) else 0) else 0) = _
  cases hbk : bk j with
  | true =>
    have hbr' : bk (rv j) = false := by rw [hbr, hbk]; rfl
    have h3 := hG.cpb j hj hbk
    rw [hbr', h3]
    by_cases hv : hd (rv j) = v <;> simp [hv]
  | false =>
    have hbr' : bk (rv j) = true := by rw [hbr, hbk]; rfl
    have h3 := hG.cpb _ hr hbr'
    rw [hbr']
    by_cases hv : hd (rv j) = v
    · simp [hv]; omega
    · simp [hv]
/-- Heights as they should be. -/
def HOk (N s t : Nat) (H : List Int) (v : Nat) : Prop := (0 ≤ hOf H v ∧ hOf H v ≤ 2 * N) ∧ (v = s → hOf H v = N) ∧ (v = t → hOf H v = 0)

set_option maxHeartbeats 4000000 in
theorem rres_is (N M s t : Nat) (K : CsrS) (fst hd rv ai : Nat → Nat) (cp : Nat → Int) (bk : Nat → Bool) (AX : Option Addr) (cX : Nat) (X : List Int) (r : Bool) (w : World) (hG : PNet N M s t fst hd rv ai cp bk) (hI : PIn w w.heap.size N M K fst hd rv ai cp bk)
    (hX : Ints w w.heap.size AX M X) (hXR : ∀ x ∈ X, InR x) (hr : r = true ↔ Bal M rv cp X) :
    Calls Try.prog 32 #[csrW N M s t K, .slice AX M cX] w fun e w' => e = .returned (.bool r) ∧ Below w.heap.size w w' := by
  rw [← balK_iff hX.len] at hr
  have hfalse : ¬ BalK M rv cp X M → false = r := fun h => by
    cases r with
    | false => rfl
    | true => exact absurd (hr.1 rfl) h
  have HF := Lib.hid hfalse; clear hfalse
  have HT := Lib.hid hr.2; clear hr
  have HI := Lib.hid hI; have HG := Lib.hid hG; have HX := Lib.hid hX; have HXR := Lib.hid hXR
  have hM := hG.nM
  obtain ⟨AF, cF, AH, cH, AR, cR, AC, cC, AA, cA, AB, cB⟩ := K
  dsimp only [csrW]
  clear hI hG hX hXR
  go_enter Try.func32, Try.ntmps32
  go_wp2_with fail
  obtain ⟨w1, hw1⟩ : ∃ w1, w.alloc (.cells #[.int .i64 (N : Int), .int .i64 (s : Int), .int .i64 (t : Int), .slice AF (N + 1) cF, .slice AH M cH, .slice AR M cR, .slice AC M cC, .slice AA M cA, .slice AB M cB] 32) = w1 := ⟨_, rfl⟩
  have Bw : Below w.heap.size w w1 := by rw [← hw1]; exact below_alloc _
  have K1 : Blk w1 w.heap.size 32 #[.int .i64 (N : Int), .int .i64 (s : Int), .int .i64 (t : Int), .slice AF (N + 1) cF, .slice AH M cH, .slice AR M cR, .slice AC M cC, .slice AA M cA, .slice AB M cB] := by rw [← hw1]; exact Blk.new rfl
  have C1 := HI.out.on Bw
  have X1 := HX.out.on Bw
  rw [hw1]
  clear hw1
  obtain ⟨a0, a1, a2, a3, a4, a5, a6, a7, a8⟩ := K1.at9
  go_loopw [10] (fun i wr => ∃ k nd : Nat, k ≤ M ∧ i = .int .i64 k ∧ wr = w1.drewN nd ∧ BalK M rv cp X k) (fun i _ => M - (intOf i).toNat)
  case atStart => exact ⟨0, 0, Nat.zero_le _, rfl, rfl, fun a h => absurd h (by omega)⟩
  case round =>
    obtain ⟨k, nd, hk, rfl, rfl, hp⟩ := hrel
    have HP := Lib.hid hp; clear hp
    by_cases hlt : k < M
    · obtain ⟨bX, oX, hAX⟩ := X1.adr (by omega)
      subst hAX
      have hlX := X1.len
      obtain ⟨hbX, cx⟩ := X1.cel (hOf_get hlX hlt)
      have hr := HG.out.g.rvl k hlt
      obtain ⟨-, cy⟩ := X1.cel (hOf_get hlX hr)
      have hx1 := HXR.out _ (List.mem_of_getElem? (hOf_get hlX hlt))
      have hc := cp_sum HG.out hlt
      obtain ⟨bR, oR, hR⟩ := C1.gi.iR.adr (by omega)
      obtain ⟨bC, oC, hC⟩ := C1.iC.adr (by omega)
      dsimp only at hR hC
      subst hR; subst hC
      obtain ⟨hbR, cr⟩ := tab_cell C1.gi.iR hlt
      obtain ⟨hbC, cc⟩ := C1.iC.cel (tab_at (g := cp) hlt)
      obtain ⟨-, cd⟩ := C1.iC.cel (tab_at (g := cp) hr)
      unfold InR at hx1
      unfold maxSum at hc
      have hno1 : hOf X k < 0 → ¬ BalK M rv cp X M := fun h h' => by have := (h' k hlt hlt).1; omega
      have hno2 : hOf X (rv k) ≠ cp k + cp (rv k) - hOf X k → ¬ BalK M rv cp X M := fun h h' => h (h' k hlt hlt).2
      have hyes : ¬ hOf X k < 0 → hOf X (rv k) = cp k + cp (rv k) - hOf X k → BalK M rv cp X (k + 1) := fun h1 h2 a ha haM => by
        by_cases e : a = k
        · subst e; exact ⟨by omega, h2⟩
        · exact HP.out a (by omega) haM
      obtain ⟨x, hx⟩ : ∃ x, hOf X k = x := ⟨_, rfl⟩
      obtain ⟨y, hy⟩ : ∃ y, hOf X (rv k) = y := ⟨_, rfl⟩
      obtain ⟨c, hcp⟩ : ∃ c, cp k = c := ⟨_, rfl⟩
      obtain ⟨d, hdp⟩ : ∃ d, cp (rv k) = d := ⟨_, rfl⟩
      obtain ⟨q, hq⟩ : ∃ q, rv k = q := ⟨_, rfl⟩
      rw [hx] at cx hx1 hno1 hyes hno2
      rw [hy] at cy hno2 hyes
      rw [hcp] at cc hc hno2 hyes
      rw [hdp] at cd hc hno2 hyes
      rw [hq] at cr cy cd hr
      obtain ⟨z, hz⟩ : ∃ z, c + d = z := ⟨_, rfl⟩
      rw [hz] at hc hno2 hyes
      have hw1 : IntKind.i64.wrap (c + d) = z := by rw [← hz]; exact wrap_in (by omega) (by omega)
      have x1 := fun W => rix_any (q : Int) (M : Int) W
      rw [decide_eq_true (show 0 ≤ (q : Int) ∧ (q : Int) < (M : Int) by omega)] at x1
      have HX1' := Lib.hid x1
      have HNO1 := Lib.hid hno1; have HNO2 := Lib.hid hno2; have HYES := Lib.hid hyes
      clear x1 hno1 hno2 hyes hx hy hcp hdp hq hz
      have HC1 := Lib.hid C1; have HX1 := Lib.hid X1
      clear C1 X1
      by_cases hx0 : x < 0
      · have d0 : decide (x < 0) = true := decide_eq_true hx0
        go_wp2_with fail
        go_quiet (fail)
        go_wp2_with fail
        go_ret
        exact ⟨ret_bool (HF.out (HNO1.out hx0)), below_drewN' (below_drewN' Bw _) _⟩
      · have d0 : decide (x < 0) = false := decide_eq_false hx0
        have hw2 : IntKind.i64.wrap (z - x) = z - x := wrap_in (by omega) (by omega)
        by_cases hyc : y = z - x
        · have hyc' : (y != z - x) = false := by simpa using hyc
          go_wp2_with fail
          go_quiet ((go_at_call 67; exact (HX1'.out _).mono fun _ _ ⟨he, hw⟩ => ⟨he, _, hw⟩))
          go_wp2_with fail
          go_roundw
          case rel => exact ⟨k + 1, nd + nq, by omega, by go_num, rfl, HYES.out hx0 hyc⟩
          case measure => simp [intOf]; omega
        · have hyc' : (y != z - x) = true := by simpa using hyc
          go_wp2_with fail
          go_quiet ((go_at_call 67; exact (HX1'.out _).mono fun _ _ ⟨he, hw⟩ => ⟨he, _, hw⟩))
          go_wp2_with fail
          go_ret
          exact ⟨ret_bool (HF.out (HNO2.out hyc)), below_drewN' (below_drewN' Bw _) _⟩
    · obtain rfl : k = M := by omega
      go_wp2_with fail
      go_ret
      exact ⟨ret_bool (HT.out HP.out).symm, below_drewN' Bw _⟩


set_option maxHeartbeats 4000000 in
theorem rhts_is (N M s t : Nat) (K : CsrS) (A : Option Addr) (c : Nat) (H : List Int) (r : Bool) (w : World) (hN : N ≤ 4096) (hs : s < N) (ht : t < N)
    (hA : Ints w w.heap.size A N H) (hr : r = true ↔ ∀ v, v < N → HOk N s t H v) :
    Calls Try.prog 34 #[csrW N M s t K, .slice A N c] w fun e w' => e = .returned (.bool r) ∧ Below w.heap.size w w' := by
  have hfalse : ¬ (∀ v, v < N → HOk N s t H v) → false = r := fun h => by
    cases r with
    | false => rfl
    | true => exact absurd (hr.1 rfl) h
  have HF := Lib.hid hfalse; clear hfalse
  have HT := Lib.hid hr.2; clear hr
  have HA := Lib.hid hA
  obtain ⟨AF, cF, AH, cH, AR, cR, AC, cC, AA, cA, AB, cB⟩ := K
  dsimp only [csrW]
  clear hA
  obtain ⟨n2, hn2⟩ : ∃ n2 : Int, 2 * (N : Int) = n2 := ⟨_, rfl⟩
  have hw2 : IntKind.i64.wrap (2 * (N : Int)) = n2 := by rw [← hn2]; exact wrap_in (by omega) (by omega)
  go_enter Try.func34, Try.ntmps34
  go_wp2_with fail
  obtain ⟨w1, hw1⟩ : ∃ w1, w.alloc (.cells #[.int .i64 (N : Int), .int .i64 (s : Int), .int .i64 (t : Int), .slice AF (N + 1) cF, .slice AH M cH, .slice AR M cR, .slice AC M cC, .slice AA M cA, .slice AB M cB] 32) = w1 := ⟨_, rfl⟩
  have Bw : Below w.heap.size w w1 := by rw [← hw1]; exact below_alloc _
  have K1 : Blk w1 w.heap.size 32 #[.int .i64 (N : Int), .int .i64 (s : Int), .int .i64 (t : Int), .slice AF (N + 1) cF, .slice AH M cH, .slice AR M cR, .slice AC M cC, .slice AA M cA, .slice AB M cB] := by rw [← hw1]; exact Blk.new rfl
  have A1 := HA.out.on Bw
  rw [hw1]
  clear hw1
  have HN2 := Lib.hid hn2
  clear hn2
  obtain ⟨a0, a1, a2, a3, a4, a5, a6, a7, a8⟩ := K1.at9
  go_loopw [9] (fun i wr => ∃ k : Nat, k ≤ N ∧ i = .int .i64 k ∧ wr = w1 ∧ ∀ v, v < k → HOk N s t H v) (fun i _ => N - (intOf i).toNat)
  case atStart => exact ⟨0, Nat.zero_le _, rfl, rfl, fun a h => absurd h (by omega)⟩
  case round =>
    obtain ⟨k, hk, rfl, rfl, hp⟩ := hrel
    have HP := Lib.hid hp; clear hp
    by_cases hlt : k < N
    · obtain ⟨bA, oA, hAe⟩ := A1.adr (by omega)
      subst hAe
      obtain ⟨hbA, cx⟩ := A1.cel (hOf_get A1.len hlt)
      have hno : ¬ HOk N s t H k → false = r := fun h => HF.out fun h' => h (h' k hlt)
      have hyes : HOk N s t H k → ∀ v, v < k + 1 → HOk N s t H v := fun h v hv => by
        by_cases e : v = k
        · subst e; exact h
        · exact HP.out v (by omega)
      have hdef : HOk N s t H k ↔ ((0 ≤ hOf H k ∧ hOf H k ≤ 2 * (N : Int)) ∧ (k = s → hOf H k = N) ∧ (k = t → hOf H k = 0)) := Iff.rfl
      obtain ⟨x, hx⟩ : ∃ x, hOf H k = x := ⟨_, rfl⟩
      rw [hx] at cx hdef
      rw [HN2.out] at hdef
      have HNO := Lib.hid hno; have HYES := Lib.hid hyes; have HD := Lib.hid hdef
      have HA1 := Lib.hid A1
      clear hno hyes hdef hx A1
      obtain ⟨b1, i1⟩ : ∃ b, decide (x < 0) = b := ⟨_, rfl⟩
      obtain ⟨b2, i2⟩ : ∃ b, decide (n2 < x) = b := ⟨_, rfl⟩
      obtain ⟨b3, i3⟩ : ∃ b, decide (k = s) = b := ⟨_, rfl⟩
      obtain ⟨b4, i4⟩ : ∃ b, (x != (N : Int)) = b := ⟨_, rfl⟩
      obtain ⟨b5, i5⟩ : ∃ b, decide (k = t) = b := ⟨_, rfl⟩
      obtain ⟨b6, i6⟩ : ∃ b, (x != 0) = b := ⟨_, rfl⟩
      have j3 : ((k : Int) == (s : Int)) = b3 := by rw [← i3]; by_cases e : k = s <;> simp [e]; omega
      have j5 : ((k : Int) == (t : Int)) = b5 := by rw [← i5]; by_cases e : k = t <;> simp [e]; omega
      have key : (HOk N s t H k ∧ b1 = false ∧ b2 = false ∧ (b3 = false ∨ b4 = false) ∧ (b5 = false ∨ b6 = false)) ∨ (¬ HOk N s t H k ∧ (b1 = true ∨ (b1 = false ∧ b2 = true) ∨ (b1 = false ∧ b2 = false ∧ b3 = true ∧ b4 = true) ∨ (b1 = false ∧ b2 = false ∧ (b3 = false ∨ b4 = false) ∧ b5 = true ∧ b6 = true))) := by
        rw [HD.out]
        have q4 : x = (N : Int) ↔ b4 = false := by rw [← i4]; simp
        have q6 : x = 0 ↔ b6 = false := by rw [← i6]; simp
        have q1 : x < 0 ↔ b1 = true := by rw [← i1]; simp
        have q2 : n2 < x ↔ b2 = true := by rw [← i2]; simp
        have q3 : k = s ↔ b3 = true := by rw [← i3]; simp
        have q5 : k = t ↔ b5 = true := by rw [← i5]; simp
        rw [q4, q3, q5, q6, show (0 ≤ x) ↔ ¬ b1 = true by rw [← q1]; omega, show (x ≤ n2) ↔ ¬ b2 = true by rw [← q2]; omega]
        clear q1 q2 q3 q4 q5 q6 i1 i2 i3 i4 i5 i6 j3 j5
        cases b1 <;> cases b2 <;> cases b3 <;> cases b4 <;> cases b5 <;> cases b6 <;> simp
      clear i3 i5 HD
      rcases key with ⟨hok, rfl, rfl, h34, h56⟩ | ⟨hok, hc⟩
      · have HOKK := Lib.hid (HYES.out hok)
        clear HYES HNO hok
        rcases h34 with rfl | rfl
        · rcases h56 with rfl | rfl
          · go_wp2_with fail
            go_roundw
            case rel => exact ⟨k + 1, by omega, by go_num, trivial, HOKK.out⟩
            case measure => simp [intOf]; omega
          · cases b5
            all_goals
              go_wp2_with fail
              go_roundw
              case rel => exact ⟨k + 1, by omega, by go_num, trivial, HOKK.out⟩
              case measure => simp [intOf]; omega
        · cases b3
          all_goals
            rcases h56 with rfl | rfl
            · go_wp2_with fail
              go_roundw
              case rel => exact ⟨k + 1, by omega, by go_num, trivial, HOKK.out⟩
              case measure => simp [intOf]; omega
            · cases b5
              all_goals
                go_wp2_with fail
                go_roundw
                case rel => exact ⟨k + 1, by omega, by go_num, trivial, HOKK.out⟩
                case measure => simp [intOf]; omega
      · have HR := Lib.hid (HNO.out hok)
        clear HYES HNO hok
        rcases hc with rfl | ⟨rfl, rfl⟩ | ⟨rfl, rfl, rfl, rfl⟩ | ⟨rfl, rfl, h34, rfl, rfl⟩
        · go_wp2_with fail
          go_ret
          exact ⟨ret_bool HR.out, Bw⟩
        · go_wp2_with fail
          go_ret
          exact ⟨ret_bool HR.out, Bw⟩
        · go_wp2_with fail
          go_ret
          exact ⟨ret_bool HR.out, Bw⟩
        · rcases h34 with rfl | rfl
          · go_wp2_with fail
            go_ret
            exact ⟨ret_bool HR.out, Bw⟩
          · cases b3
            all_goals
              go_wp2_with fail
              go_ret
              exact ⟨ret_bool HR.out, Bw⟩
    · obtain rfl : k = N := by omega
      go_wp2_with fail
      go_ret
      exact ⟨ret_bool (HT.out HP.out).symm, Bw⟩

/-! Excesses. -/
theorem hOf_cll {w : World} {x n : Nat} {A : Option Addr} {L : List Int} (h : Ints w x A n L) {i : Nat} (hi : i < n) : ∃ bb oo, A = some ⟨bb, oo, none⟩ ∧ bb < x ∧ w.cell? ⟨bb, oo + i, none⟩ = some (.int .i64 (hOf L i)) := by
  obtain ⟨bb, oo, e⟩ := h.adr (by omega)
  subst e
  obtain ⟨h1, h2⟩ := h.cel (hOf_get h.len hi)
  exact ⟨bb, oo, rfl, h1, h2⟩
theorem Hx.lone {w0 w : World} {base n c : Nat} {t : TypeId} {A : Option Addr} {xs : List Value} (h : w.ownsRow base t 1 (.slice A n c) n xs) (hb : base ≤ w.heap.size) (hl : Below base w0 w) : Hx w0 w base [⟨t, A, n, c, xs⟩] := by
  refine ⟨⟨fun i r hi => ?_, fun i j r s hij hi hj => ?_⟩, hb, hl⟩
  · match i, hi with
    | 0, hi => cases hi; exact h
    | i + 1, hi => simp at hi
  · match i, j, hi, hj with
    | 0, 0, _, _ => exact absurd rfl hij
    | i + 1, _, hi, _ => simp at hi
    | 0, j + 1, _, hj => simp at hj
theorem make_longs (N : Nat) (hN : N ≤ 100000) (W : World) : (Instr.makeSlice 26 (.int .i64 (N : Int)) (.int .i64 (N : Int))).run Try.prog W = .ok (.slice (some ⟨W.heap.size, 0, none⟩) N N) (W.alloc (.cells (ivs (List.replicate N 0)) 2)) := by
  obtain ⟨i0, hi, hz0, hz1, hz2⟩ := info_parts long_info
  have h := run_make_lit (P := Try.prog) 26 2 i0 _ Try.underlying26 hi hz0 N (by rw [hz2]; omega) (by omega) W
  rw [hz1, ivs_made] at h
  exact h
theorem wrap_less (a b : Int) : IntKind.i64.wrap (IntKind.i64.wrap a - b) = IntKind.i64.wrap (a - b) := by
  rw [IntKind.wrap_i64, IntKind.wrap_i64, IntKind.wrap_i64]; omega
theorem wrap_plus (a b : Int) : IntKind.i64.wrap (IntKind.i64.wrap a + b) = IntKind.i64.wrap (a + b) := by
  rw [IntKind.wrap_i64, IntKind.wrap_i64, IntKind.wrap_i64]; omega
abbrev exL (N : Nat) (hd rv : Nat → Nat) (bk : Nat → Bool) (X : List Int) (k : Nat) : List Int := tab N fun v => IntKind.i64.wrap (exbB hd rv bk X v k)
theorem exL_no {N : Nat} {hd rv : Nat → Nat} {bk : Nat → Bool} {X : List Int} {k : Nat} (h : bk k = false) : exL N hd rv bk X (k + 1) = exL N hd rv bk X k :=
  tab_congr fun v _ => by unfold exbB; simp only [sumN]; rw [h]; simp
theorem exL_yes {N : Nat} {hd rv : Nat → Nat} {bk : Nat → Bool} {X : List Int} {k : Nat} (h : bk k = true) (hne : hd (rv k) ≠ hd k) :
    ((exL N hd rv bk X k).set (hd (rv k)) (IntKind.i64.wrap (IntKind.i64.wrap (exbB hd rv bk X (hd (rv k)) k) + hOf X k))).set (hd k) (IntKind.i64.wrap (IntKind.i64.wrap (exbB hd rv bk X (hd k) k) - hOf X k)) = exL N hd rv bk X (k + 1) := by
  rw [tab_set, tab_set]
  refine tab_congr fun v _ => ?_
  rw [wrap_less, wrap_plus]
  have e : exbB hd rv bk X v (k + 1) = exbB hd rv bk X v k + ((if hd (rv k) = v then hOf X k else 0) - (if hd k = v then hOf X k else 0)) := by unfold exbB; simp only [sumN]; rw [h, if_pos rfl]
  rw [e]
  by_cases h1 : v = hd k
  · rw [if_pos h1, if_neg (fun e => hne (e.trans h1)), if_pos h1.symm]
    subst h1
    congr 1; omega
  · by_cases h2 : v = hd (rv k)
    · rw [if_neg h1, if_pos h2, if_pos h2.symm, if_neg (fun e => h1 e.symm)]
      subst h2
      congr 1; omega
    · rw [if_neg h1, if_neg h2, if_neg (fun e => h2 e.symm), if_neg (fun e => h1 e.symm)]
      congr 1; omega

set_option maxHeartbeats 8000000 in
theorem excs_is (N M s t : Nat) (K : CsrS) (fst hd rv ai : Nat → Nat) (cp : Nat → Int) (bk : Nat → Bool) (AX : Option Addr) (cX : Nat) (X : List Int) (w : World) (hG : PNet N M s t fst hd rv ai cp bk) (hI : PIn w w.heap.size N M K fst hd rv ai cp bk)
    (hX : Ints w w.heap.size AX M X) (hb : Bal M rv cp X) :
    Calls Try.prog 68 #[csrW N M s t K, .slice AX M cX] w (RetRow 2 N (tab N fun v => exT M hd rv cp X v) w) := by
  have hfin : exL N hd rv bk X M = tab N fun v => exT M hd rv cp X v := tab_congr fun v hv => by
    have h1 := hG.big X hb v hv
    unfold maxSum at h1
    rw [exB_exT hG hb]
    exact wrap_in (by omega) (by omega)
  have HFIN := Lib.hid hfin
  have hyes : ∀ a, a < M → ∀ W, Below w.heap.size w W → Calls Try.prog 92 #[csrW N M s t K, .int .i64 (a : Int)] W fun e w' => e = .returned (.tuple #[.int .i64 (hd (rv a) : Int), .int .i64 (hd a : Int), .bool true]) ∧ Below W.heap.size W w' := fun a ha W hb => rends_yes N M s t a K fst hd rv W hG.g (hI.gi.on hb) ha
  have HE := Lib.hid hyes
  have hN := hG.nN; have hM := hG.nM; have hn := hG.n2
  have HI := Lib.hid hI; have HG := Lib.hid hG; have HX := Lib.hid hX
  obtain ⟨AF, cF, AH, cH, AR, cR, AC, cC, AA, cA, AB, cB⟩ := K
  dsimp only [csrW] at HE ⊢
  clear hI hG hX hyes hfin hb
  obtain ⟨TE, hTE⟩ : ∃ TE, (tab N fun v => exT M hd rv cp X v) = TE := ⟨_, rfl⟩
  rw [hTE] at HFIN ⊢
  clear hTE
  have hml := make_longs N (by omega)
  have hLX := HX.out.len
  go_enter Try.func68, Try.ntmps68
  go_wp2_with fail
  obtain ⟨w1, hw1⟩ : ∃ w1, w.alloc (.cells #[.int .i64 (N : Int), .int .i64 (s : Int), .int .i64 (t : Int), .slice AF (N + 1) cF, .slice AH M cH, .slice AR M cR, .slice AC M cC, .slice AA M cA, .slice AB M cB] 32) = w1 := ⟨_, rfl⟩
  have S1 : w1.heap.size = w.heap.size + 1 := by rw [← hw1]; simp
  have B1 : Below w.heap.size w w1 := by rw [← hw1]; exact below_alloc _
  have C1 : Blk w1 w.heap.size 32 #[.int .i64 (N : Int), .int .i64 (s : Int), .int .i64 (t : Int), .slice AF (N + 1) cF, .slice AH M cH, .slice AR M cR, .slice AC M cC, .slice AA M cA, .slice AB M cB] := by rw [← hw1]; exact Blk.new rfl
  obtain ⟨w2, hw2⟩ : ∃ w2, w1.alloc (.cells (ivs (List.replicate N 0)) 2) = w2 := ⟨_, rfl⟩
  have S2 : w2.heap.size = w.heap.size + 2 := by rw [← hw2]; simp; omega
  have C2 : Blk w2 w.heap.size 32 #[.int .i64 (N : Int), .int .i64 (s : Int), .int .i64 (t : Int), .slice AF (N + 1) cF, .slice AH M cH, .slice AR M cR, .slice AC M cC, .slice AA M cA, .slice AB M cB] := by rw [← hw2]; exact C1.alloc _
  have O2 : Hx w w2 w.heap.size [⟨2, some ⟨w.heap.size + 1, 0, none⟩, N, N, lvs (exL N hd rv bk X 0)⟩] := by
    have h1 := own_zeros N 2 w1 (by unfold maxLen; omega)
    rw [S1] at h1
    rw [hw2] at h1
    have h2 : exL N hd rv bk X 0 = List.replicate N 0 := by
      refine (tab_ext (by simp) fun i hi => ?_).symm
      simp [exbB, sumN, hi]
      exact (wrap_in (by omega) (by omega)).symm
    rw [h2]
    exact Hx.lone (own_base h1 (by omega)) (by omega) (by rw [← hw2]; exact B1.alloc (by omega) _)
  rw [hw1, hw2]
  clear hw1 hw2 B1 C1 S1 hml
  go_wp2_with fail
  go_loopw [16] (fun i wr => ∃ k : Nat, k ≤ M ∧ i = .int .i64 k ∧ Blk wr w.heap.size 32 #[.int .i64 (N : Int), .int .i64 (s : Int), .int .i64 (t : Int), .slice AF (N + 1) cF, .slice AH M cH, .slice AR M cR, .slice AC M cC, .slice AA M cA, .slice AB M cB] ∧ Hx w wr w.heap.size [⟨2, some ⟨w.heap.size + 1, 0, none⟩, N, N, lvs (exL N hd rv bk X k)⟩]) (fun i _ => M - (intOf i).toNat)
  case atStart => exact ⟨0, Nat.zero_le _, rfl, C2, O2⟩
  case round =>
    clear S2 C2 O2
    obtain ⟨k, hk, rfl, C3, O3⟩ := hrel
    by_cases hlt : k < M
    · have X3 := HX.out.below O3.bel
      have I3 := HI.out.below O3.bel
      obtain ⟨bX, oX, hAX, hbX, cx⟩ := hOf_cll X3 hlt
      obtain ⟨bB, oB, hB, hbB, cb⟩ := tab_bool I3.iB hlt
      dsimp only at hB
      subst hAX; subst hB
      have hu := HG.out.mN hlt
      have hv := HG.out.g.hdl k hlt
      have hne := HG.out.nol k hlt
      have hw3 := O3.bel.size
      obtain ⟨x, hx⟩ : ∃ x, hOf X k = x := ⟨_, rfl⟩
      rw [hx] at cx
      obtain ⟨a0, a1, a2, a3, a4, a5, a6, a7, a8⟩ := C3.at9
      have hcz := C3.lt
      have HC3 := Lib.hid C3; have HO3 := Lib.hid O3; have HXE := Lib.hid hx
      clear X3 I3 C3 O3 hx
      go_wp2_with fail
      refine (HE.out k hlt _ HO3.out.bel).mono ?_
      rintro e w3 ⟨rfl, B3⟩
      have O4 := HO3.out.on B3
      have C4 := HC3.out.below B3 HC3.out.lt
      replace cb := (B3.cell (p := ⟨bB, oB + k, none⟩) (by have := HO3.out.bel.size; simp; omega)).trans cb
      clear a0 a1 a2 a3 a4 a5 a6 a7 a8
      obtain ⟨a0, a1, a2, a3, a4, a5, a6, a7, a8⟩ := C4.at9
      have hz3 := B3.size
      obtain ⟨c, hc⟩ : ∃ c, bk k = c := ⟨_, rfl⟩
      rw [hc] at cb
      cases c with
      | false =>
        have O5 := Lib.hid (exL_no (N := N) (hd := hd) (rv := rv) (X := X) hc ▸ O4)
        have C5 := Lib.hid C4
        clear hc O4 C4 B3
        go_wp2_with fail
        go_roundw
        case rel => exact ⟨k + 1, by omega, by go_num, C5.out, O5.out⟩
        case measure => simp [intOf]; omega
      | true =>
        have hyes := exL_yes (N := N) (hd := hd) (rv := rv) (X := X) hc hne
        rw [HXE.out] at hyes
        obtain ⟨u, hu'⟩ : ∃ u, hd (rv k) = u := ⟨_, rfl⟩
        obtain ⟨v, hv'⟩ : ∃ v, hd k = v := ⟨_, rfl⟩
        rw [hu'] at hyes hu hne ⊢
        rw [hv'] at hyes hv hne ⊢
        obtain ⟨y, hy⟩ : ∃ y, IntKind.i64.wrap (exbB hd rv bk X u k) = y := ⟨_, rfl⟩
        obtain ⟨z, hz⟩ : ∃ z, IntKind.i64.wrap (exbB hd rv bk X v k) = z := ⟨_, rfl⟩
        rw [hy, hz] at hyes
        obtain ⟨y2, hy2⟩ : ∃ y2, IntKind.i64.wrap (y + x) = y2 := ⟨_, rfl⟩
        obtain ⟨z2, hz2⟩ : ∃ z2, IntKind.i64.wrap (z - x) = z2 := ⟨_, rfl⟩
        rw [hy2, hz2] at hyes
        have l1 : hOf (exL N hd rv bk X k) u = y := by rw [← hy]; exact hOf_at (tab_at hu)
        have l2 : hOf (exL N hd rv bk X k) v = z := by rw [← hz]; exact hOf_at (tab_at hv)
        obtain ⟨L, hL⟩ : ∃ L, exL N hd rv bk X k = L := ⟨_, rfl⟩
        have hLl : L.length = N := by rw [← hL]; simp [tab]
        rw [hL] at hyes O4 l1 l2
        obtain ⟨c1, f1, z1, -⟩ := O4.cell (i := 0) (j := u) rfl hu (lvs_at (by omega))
        obtain ⟨c2, f2, -, -⟩ := O4.cell (i := 0) (j := v) rfl hv (lvs_at (by omega))
        rw [l1] at c1
        rw [l2] at c2
        have C5 := Lib.hid C4; have O5 := Lib.hid O4; have HY := Lib.hid hyes
        clear hc C4 O4 B3 hyes hy hz l1 l2 hL hLl hu' hv' HE
        go_wp2_with fail
        go_roundw
        case rel =>
          refine ⟨k + 1, by omega, by go_num, ?_, ?_⟩
          · exact (C5.out.far (p := ⟨w.heap.size + 1, u, none⟩) (by simp) _).far (p := ⟨w.heap.size + 1, v, none⟩) (by simp) _
          · rw [← HY.out]
            have h1 := (O5.out.put (i := 0) rfl u (.int .i64 y2)).put (i := 0) rfl v (.int .i64 z2)
            simp only [List.set_cons_zero, ← lvs_set] at h1
            exact h1
        case measure => simp [intOf]; omega
    · obtain rfl : k = M := by omega
      rw [HFIN.out] at O3
      have O4 := Lib.hid O3
      clear O3 C3
      go_wp2_with fail
      go_ret
      exact ⟨_, _, rfl, O4.out.held.own 0 _ rfl, O4.out.bel⟩

set_option maxHeartbeats 4000000 in
theorem rexc_is (N M s t nH : Nat) (K : CsrS) (Q : PreS) (fst hd rv ai : Nat → Nat) (cp : Nat → Int) (bk : Nat → Bool) (X E H : List Int) (r : Bool) (w : World) (hG : PNet N M s t fst hd rv ai cp bk) (hI : PIn w w.heap.size N M K fst hd rv ai cp bk)
    (hQ : StIn w w.heap.size M N nH Q X E H) (hb : Bal M rv cp X) (hr : r = true ↔ ∀ v, v < N → hOf E v = exT M hd rv cp X v ∧ (0 ≤ exT M hd rv cp X v ∨ v = s)) :
    Calls Try.prog 33 #[csrW N M s t K, preW M N nH Q] w fun e w' => e = .returned (.bool r) ∧ Below w.heap.size w w' := by
  have hfalse : ¬ (∀ v, v < N → hOf E v = exT M hd rv cp X v ∧ (0 ≤ exT M hd rv cp X v ∨ v = s)) → false = r := fun h => by
    cases r with
    | false => rfl
    | true => exact absurd (hr.1 rfl) h
  have HF := Lib.hid hfalse; clear hfalse
  have HT := Lib.hid hr.2; clear hr
  have hex := fun W (hbl : Below w.heap.size w W) => excs_is N M s t K fst hd rv ai cp bk Q.AX Q.cX X W hG (hI.on hbl) (hQ.on hbl).iX hb
  have HEX := Lib.hid hex
  have HQ := Lib.hid hQ
  have hn := hG.n2; have hN := hG.nN
  obtain ⟨bE, oE, hE⟩ := hQ.iE.adr (by omega)
  obtain ⟨AF, cF, AH, cH, AR, cR, AC, cC, AA, cA, AB, cB⟩ := K
  obtain ⟨AX, cX, AE, cE, AHH, cHH⟩ := Q
  dsimp only [csrW, preW] at HEX hE ⊢
  subst hE
  clear hex hI hG hQ hb
  go_enter Try.func33, Try.ntmps33
  go_wp2_with fail
  obtain ⟨w1, hw1⟩ : ∃ w1, ((w.alloc (.cells #[.int .i64 (N : Int), .int .i64 (s : Int), .int .i64 (t : Int), .slice AF (N + 1) cF, .slice AH M cH, .slice AR M cR, .slice AC M cC, .slice AA M cA, .slice AB M cB] 32)).alloc (.cells #[.slice AX M cX, .slice (some ⟨bE, oE, none⟩) N cE, .slice AHH nH cHH] 29)) = w1 := ⟨_, rfl⟩
  have B1 : Below w.heap.size w w1 := by rw [← hw1]; exact ((Below.refl _ w).alloc (Nat.le_refl _) _).alloc (by simp) _
  have C1 : Blk w1 w.heap.size 32 #[.int .i64 (N : Int), .int .i64 (s : Int), .int .i64 (t : Int), .slice AF (N + 1) cF, .slice AH M cH, .slice AR M cR, .slice AC M cC, .slice AA M cA, .slice AB M cB] := by rw [← hw1]; exact (Blk.new rfl).alloc _
  have P1 : Blk w1 (w.heap.size + 1) 29 #[.slice AX M cX, .slice (some ⟨bE, oE, none⟩) N cE, .slice AHH nH cHH] := by rw [← hw1]; exact Blk.new (by simp)
  rw [hw1]
  clear hw1
  refine (HEX.out _ B1).mono ?_
  rintro e w2 ⟨A2, c2, rfl, O2, B2⟩
  obtain ⟨g2, hg2⟩ := own_some O2 (by omega)
  subst hg2
  have C2 := C1.below B2 C1.lt; have P2 := P1.below B2 P1.lt
  have Bw := below_step B1 B2
  have E2 := (HQ.out.on Bw).iE
  have l2 : (tab N fun v => exT M hd rv cp X v).length = N := by simp [tab]
  have R2 : Hx w1 w2 w1.heap.size [⟨2, some ⟨g2, 0, none⟩, N, c2, lvs (tab N fun v => exT M hd rv cp X v)⟩] := Hx.lone O2 B2.size B2
  obtain ⟨a0, a1, a2, a3, a4, a5, a6, a7, a8⟩ := C2.at9
  obtain ⟨⟨p0, p1, p2⟩, -, -⟩ := P2.full3
  have hz1 := C2.lt; have hz2 := P2.lt
  clear C1 P1 C2 P2 B1 B2 O2
  go_wp2_with fail
  go_loopw [12] (fun i wr => ∃ k : Nat, k ≤ N ∧ i = .int .i64 k ∧ wr = w2 ∧ ∀ v, v < k → hOf E v = exT M hd rv cp X v ∧ (0 ≤ exT M hd rv cp X v ∨ v = s)) (fun i _ => N - (intOf i).toNat)
  case atStart => exact ⟨0, Nat.zero_le _, rfl, rfl, fun a h => absurd h (by omega)⟩
  case round =>
    obtain ⟨k, hk, rfl, rfl, hp⟩ := hrel
    have HP := Lib.hid hp; clear hp
    by_cases hlt : k < N
    · obtain ⟨hbE, ce⟩ := E2.cel (hOf_get E2.len hlt)
      obtain ⟨cx, -, hzg, -⟩ := R2.cell (i := 0) (j := k) rfl hlt (lvs_at (by omega))
      rw [hOf_at (tab_at hlt)] at cx
      have hno : ¬ (hOf E k = exT M hd rv cp X k ∧ (0 ≤ exT M hd rv cp X k ∨ k = s)) → false = r := fun h => HF.out fun h' => h (h' k hlt)
      have hyes : (hOf E k = exT M hd rv cp X k ∧ (0 ≤ exT M hd rv cp X k ∨ k = s)) → ∀ v, v < k + 1 → hOf E v = exT M hd rv cp X v ∧ (0 ≤ exT M hd rv cp X v ∨ v = s) := fun h v hv => by
        by_cases e : v = k
        · subst e; exact h
        · exact HP.out v (by omega)
      have HYES := Lib.hid hyes
      clear hyes
      obtain ⟨x, hx⟩ : ∃ x, exT M hd rv cp X k = x := ⟨_, rfl⟩
      obtain ⟨y, hy⟩ : ∃ y, hOf E k = y := ⟨_, rfl⟩
      rw [hx] at cx hno HYES
      rw [hy] at ce hno HYES
      have HNO := Lib.hid hno
      have HE2 := Lib.hid E2; have HR2 := Lib.hid R2; have HL2 := Lib.hid l2
      clear hno hx hy E2 R2 l2
      obtain ⟨b1, i1⟩ : ∃ b, (y != x) = b := ⟨_, rfl⟩
      obtain ⟨b2, i2⟩ : ∃ b, decide (x < 0) = b := ⟨_, rfl⟩
      obtain ⟨b3, i3⟩ : ∃ b, decide (k = s) = b := ⟨_, rfl⟩
      have j3 : ((k : Int) != (s : Int)) = !b3 := by
        rw [← i3]
        by_cases e : k = s
        · simp [e]
        · have : (k : Int) ≠ (s : Int) := by omega
          simp [e, this]
      have key : ((y = x ∧ (0 ≤ x ∨ k = s)) ∧ b1 = false ∧ (b2 = false ∨ b3 = true)) ∨ (¬ (y = x ∧ (0 ≤ x ∨ k = s)) ∧ (b1 = true ∨ (b1 = false ∧ b2 = true ∧ b3 = false))) := by
        have q1 : y = x ↔ b1 = false := by rw [← i1]; simp
        have q2 : x < 0 ↔ b2 = true := by rw [← i2]; simp
        have q3 : k = s ↔ b3 = true := by rw [← i3]; simp
        rw [q1, q3, show (0 ≤ x) ↔ ¬ b2 = true by rw [← q2]; omega]
        clear q1 q2 q3 i1 i2 i3 j3
        cases b1 <;> cases b2 <;> cases b3 <;> simp
      clear i3
      rcases key with ⟨hok, rfl, h23⟩ | ⟨hok, hc⟩
      · have HOKK := Lib.hid (HYES.out hok)
        clear HYES HNO hok
        rcases h23 with rfl | rfl
        · cases b3
          all_goals
            simp only [Bool.not_true, Bool.not_false] at j3
            go_wp2_with fail
            go_roundw
            case rel => exact ⟨k + 1, by omega, by go_num, trivial, HOKK.out⟩
            case measure => simp [intOf]; omega
        · simp only [Bool.not_true] at j3
          cases b2
          all_goals
            go_wp2_with fail
            go_roundw
            case rel => exact ⟨k + 1, by omega, by go_num, trivial, HOKK.out⟩
            case measure => simp [intOf]; omega
      · have HR := Lib.hid (HNO.out hok)
        clear HYES HNO hok
        rcases hc with rfl | ⟨rfl, rfl, rfl⟩
        · go_wp2_with fail
          go_ret
          exact ⟨ret_bool HR.out, Bw⟩
        · simp only [Bool.not_false] at j3
          go_wp2_with fail
          go_ret
          exact ⟨ret_bool HR.out, Bw⟩
    · obtain rfl : k = N := by omega
      go_wp2_with fail
      go_ret
      exact ⟨ret_bool (HT.out HP.out).symm, Bw⟩

end Go.Proofs.Ytanifbofjecpmaa
