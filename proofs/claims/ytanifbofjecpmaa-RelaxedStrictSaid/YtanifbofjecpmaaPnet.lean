/- Layer 7: within: are these numbers what is left of a flow? (csr.Flow, wherever the rows lie.) Layer 7: within (csr.Flow, wherever the rows lie). Layer 7: a right net's residual network, by numbers. Layer 8: a net with its arcs told by its residual network alone: loops at its end left out, the others made arcs of nothing: plain facts. -/
import Derived.Test.YtanifbofjecpmaaVerto
import Derived.Test.YtanifbofjecpmaaCsrh
/-! Pino -/
namespace Go.Proofs.Ytanifbofjecpmaa
open Go.RowKit
set_option maxRecDepth 100000

/-- All rows of a residual network. -/
structure PIn (w : World) (x N M : Nat) (K : CsrS) (fst hd rv ai : Nat → Nat) (cp : Nat → Int) (bk : Nat → Bool) : Prop where
  gi : GridIn w x N M K fst hd rv
  iC : Ints w x K.AC M (tab M cp)
  iA : Ints w x K.AA M (tab M fun a => (ai a : Int))
  iB : Bools w x K.AB M (tab M bk)
section
variable {w w' : World} {x y N M : Nat} {K : CsrS} {fst hd rv ai : Nat → Nat} {cp : Nat → Int} {bk : Nat → Bool}
theorem PIn.below (h : PIn w x N M K fst hd rv ai cp bk) (hb : Below x w w') : PIn w' x N M K fst hd rv ai cp bk := ⟨h.gi.below hb, h.iC.below hb, h.iA.below hb, h.iB.below hb⟩
theorem PIn.more (h : PIn w x N M K fst hd rv ai cp bk) (hb : x ≤ y) : PIn w y N M K fst hd rv ai cp bk := ⟨h.gi.more hb, h.iC.more hb, h.iA.more hb, h.iB.more hb⟩
theorem PIn.on (h : PIn w w.heap.size N M K fst hd rv ai cp bk) (hb : Below w.heap.size w w') : PIn w' w'.heap.size N M K fst hd rv ai cp bk := (h.below hb).more hb.size
theorem PIn.onAlloc (h : PIn w w.heap.size N M K fst hd rv ai cp bk) (o : Obj) : PIn (w.alloc o) (w.alloc o).heap.size N M K fst hd rv ai cp bk := h.on (below_alloc o)
end
theorem tab_bool {w : World} {B n k : Nat} {A : Option Addr} {g : Nat → Bool} (h : Bools w B A n (tab n g)) (hk : k < n) : ∃ b off, A = some ⟨b, off, none⟩ ∧ b < B ∧ w.cell? ⟨b, off + k, none⟩ = some (.bool (g k)) := by
  obtain ⟨b, off, hA, hb, hc⟩ := side_at h hk
  refine ⟨b, off, hA, hb, ?_⟩
  rw [hc]
  have := tab_at (g := g) hk
  simp [inS, this]
/-- As the program asks it. -/
def BalN (M : Nat) (rv : Nat → Nat) (cp : Nat → Int) (bk : Nat → Bool) (X : List Int) (k : Nat) : Prop := ∀ a, a < k → a < M → 0 ≤ hOf X a ∧ (bk a = false → hOf X (rv a) = cp a - hOf X a)
theorem balN_iff {N M s t : Nat} {fst hd rv ai : Nat → Nat} {cp : Nat → Int} {bk : Nat → Bool} {X : List Int} (h : PNet N M s t fst hd rv ai cp bk) (hX : X.length = M) : BalN M rv cp bk X M ↔ Bal M rv cp X := by
  constructor
  · refine fun hb => ⟨hX, fun a ha => ?_⟩
    have h1 := hb a ha ha
    have hr := h.g.rvl a ha
    have h2 := hb (rv a) hr hr
    have h3 := h.bkr a ha
    refine ⟨h1.1, ?_⟩
    cases hba : bk a
    · have := h1.2 hba
      have := h.cpb (rv a) hr (by rw [h3, hba]; rfl)
      omega
    · have := h2.2 (by rw [h3, hba]; rfl)
      rw [h.g.rvv a ha] at this
      have := h.cpb a ha hba
      omega
  · intro hb a ha _
    have h1 := hb.2 a ha
    refine ⟨h1.1, fun hba => ?_⟩
    have := h.cpb (rv a) (h.g.rvl a ha) (by rw [h.bkr a ha, hba]; rfl)
    omega

set_option maxHeartbeats 2000000 in
theorem wf2 (N M s t : Nat) (K : CsrS) (fst hd rv ai : Nat → Nat) (cp : Nat → Int) (bk : Nat → Bool) (w : World) (hG : Grid N M fst hd rv) (hI : PIn w w.heap.size N M K fst hd rv ai cp bk) (hM : M ≤ 100000000) :
    Calls Try.prog 95 #[csrW N M s t K] w fun e w' => e = .returned (.bool true) ∧ Below w.heap.size w w' := by
  have HI := Lib.hid hI; have HG := Lib.hid hG
  have hlen := fun W => len2_any N M s t K W
  have HL := Lib.hid hlen
  obtain ⟨AF, cF, AH, cH, AR, cR, AC, cC, AA, cA, AB, cB⟩ := K
  dsimp only [csrW] at HL ⊢
  clear hI hlen hG
  go_enter Try.func95, Try.ntmps95
  go_wp2_with fail
  refine (HL.out _).mono ?_
  rintro e w1 ⟨rfl, B1⟩
  have K1 : Blk w1 w.heap.size 32 _ := (Blk.new rfl).below B1 (by simp)
  have C1 := (HI.out.onAlloc _).on B1
  have Bw := below_step (below_alloc _) B1
  obtain ⟨a0, a1, a2, a3, a4, a5, a6, a7, a8⟩ := K1.at9
  go_wp2_with fail
  go_loopw [4, 34] (fun _ i wr => ∃ k : Nat, k ≤ M ∧ i = .int .i64 k ∧ wr = w1) (fun _ i _ => M - (intOf i).toNat)
  case atStart => exact ⟨0, Nat.zero_le _, rfl, rfl⟩
  case round =>
    obtain ⟨k, hk, rfl, rfl⟩ := hrel
    by_cases hlt : k < M
    · obtain ⟨bR, oR, hR⟩ := C1.gi.iR.adr (by omega)
      obtain ⟨bA, oA, hA⟩ := C1.iA.adr (by omega)
      dsimp only at hR hA
      subst hR; subst hA
      obtain ⟨hbR, cr⟩ := tab_cell C1.gi.iR hlt
      obtain ⟨hbA, ca⟩ := tab_cell C1.iA hlt
      have hr := HG.out.rvl k hlt
      have x1 := fun W => isIndex_any (rv k : Int) (M : Int) W
      rw [decide_eq_true (show 0 ≤ (rv k : Int) ∧ (rv k : Int) < (M : Int) by omega)] at x1
      have HX := Lib.hid x1
      clear x1
      go_wp2_with fail
      refine (HX.out _).mono ?_
      rintro e W ⟨rfl, rfl⟩
      go_wp2_with fail
      go_roundw
      case rel => exact ⟨k + 1, by omega, by go_num, trivial⟩
      case measure => simp [intOf]; omega
    · go_wp2_with fail
      go_ret
      exact ⟨rfl, Bw⟩

set_option maxHeartbeats 1000000 in
theorem below2 (A : Option Addr) (n c : Nat) (L : List Int) (b : Int) (w : World) (hA : Ints w w.heap.size A n L) (hn : n ≤ 100000000) (hb : ∀ x ∈ L, x < b) :
    Calls Try.prog 97 #[.slice A n c, .int .i64 b] w fun e w' => e = .returned (.bool true) ∧ w' = w := by
  have HB := Lib.hid hb
  clear hb
  go_enter Try.func97, Try.ntmps97
  go_wp2_with fail
  go_loopw [6, 9] (fun _ i wr => ∃ k : Nat, k ≤ n ∧ i = .int .i64 k ∧ wr = w) (fun _ i _ => n - (intOf i).toNat)
  case atStart => exact ⟨0, Nat.zero_le _, rfl, rfl⟩
  case round =>
    obtain ⟨k, hk, rfl, rfl⟩ := hrel
    by_cases hlt : k < n
    · obtain ⟨bb, off, x, hAe, hbb, hx, cx⟩ := intl_at hA hlt
      subst hAe
      have hxb := HB.out x (List.mem_of_getElem? hx)
      have hxb' : ¬ b ≤ x := by omega
      clear hx
      go_wp2_with fail
      go_roundw
      case rel => exact ⟨k + 1, by omega, by go_num, trivial⟩
      case measure => simp [intOf]; omega
    · go_wp2_with fail
      go_ret
      exact ⟨rfl, rfl⟩

set_option maxHeartbeats 4000000 in
theorem bal2 (N M s t : Nat) (K : CsrS) (fst hd rv ai : Nat → Nat) (cp : Nat → Int) (bk : Nat → Bool) (AX : Option Addr) (cX : Nat) (X : List Int) (r : Bool) (w : World) (hG : PNet N M s t fst hd rv ai cp bk) (hI : PIn w w.heap.size N M K fst hd rv ai cp bk)
    (hX : Ints w w.heap.size AX M X) (hXR : ∀ x ∈ X, InR x) (hr : r = true ↔ BalN M rv cp bk X M) :
    Calls Try.prog 98 #[csrW N M s t K, .slice AX M cX] w fun e w' => e = .returned (.bool r) ∧ Below w.heap.size w w' := by
  have hfalse : ¬ BalN M rv cp bk X M → false = r := fun h => by
    cases r with
    | false => rfl
    | true => exact absurd (hr.1 rfl) h
  have HF := Lib.hid hfalse; clear hfalse
  have HT := Lib.hid hr.2; clear hr
  have HI := Lib.hid hI; have HG := Lib.hid hG; have HX := Lib.hid hX; have HXR := Lib.hid hXR
  have hlen := fun W => len2_any N M s t K W
  have HL := Lib.hid hlen
  have hM := hG.nM
  obtain ⟨AF, cF, AH, cH, AR, cR, AC, cC, AA, cA, AB, cB⟩ := K
  dsimp only [csrW] at HL ⊢
  clear hI hlen hG hX hXR
  go_enter Try.func98, Try.ntmps98
  go_wp2_with fail
  refine (HL.out _).mono ?_
  rintro e w1 ⟨rfl, B1⟩
  have K1 : Blk w1 w.heap.size 32 _ := (Blk.new rfl).below B1 (by simp)
  have C1 := (HI.out.onAlloc _).on B1
  have X1 := (HX.out.onAlloc _).on B1
  have Bw := below_step (below_alloc _) B1
  obtain ⟨a0, a1, a2, a3, a4, a5, a6, a7, a8⟩ := K1.at9
  clear B1
  go_wp2_with fail
  go_loopw [5, 8] (fun _ i wr => ∃ k nd : Nat, k ≤ M ∧ i = .int .i64 k ∧ wr = w1.drewN nd ∧ BalN M rv cp bk X k) (fun _ i _ => M - (intOf i).toNat)
  case atStart => exact ⟨0, 0, Nat.zero_le _, rfl, rfl, fun a h => absurd h (by omega)⟩
  case round =>
    obtain ⟨k, nd, hk, rfl, rfl, hp⟩ := hrel
    have HP := Lib.hid hp; clear hp
    by_cases hlt : k < M
    · obtain ⟨bX, oX, hAX⟩ := X1.adr (by omega)
      subst hAX
      have hlX := X1.len
      obtain ⟨hbX, cx⟩ := X1.cel (hOf_get hlX hlt)
      have hr := HG.out.g.rvl k hlt
      obtain ⟨-, cy⟩ := X1.cel (hOf_get hlX hr)
      have hx1 := HXR.out _ (List.mem_of_getElem? (hOf_get hlX hlt))
      have hc := HG.out.cp0 k hlt
      obtain ⟨bR, oR, hR⟩ := C1.gi.iR.adr (by omega)
      obtain ⟨bC, oC, hC⟩ := C1.iC.adr (by omega)
      obtain ⟨bB, oB, hB, hbB, cb⟩ := tab_bool C1.iB hlt
      dsimp only at hR hC hB
      subst hR; subst hC; subst hB
      obtain ⟨hbR, cr⟩ := tab_cell C1.gi.iR hlt
      obtain ⟨hbC, cc⟩ := C1.iC.cel (tab_at (g := cp) hlt)
      unfold InR at hx1
      unfold maxSum at hc
      have hno1 : hOf X k < 0 → ¬ BalN M rv cp bk X M := fun h h' => by have := (h' k hlt hlt).1; omega
      have hno2 : bk k = false → hOf X (rv k) ≠ cp k - hOf X k → ¬ BalN M rv cp bk X M := fun hb h h' => h ((h' k hlt hlt).2 hb)
      have hyes : ¬ hOf X k < 0 → (bk k = false → hOf X (rv k) = cp k - hOf X k) → BalN M rv cp bk X (k + 1) := fun h1 h2 a ha haM => by
        by_cases e : a = k
        · subst e; exact ⟨by omega, h2⟩
        · exact HP.out a (by omega) haM
      obtain ⟨x, hx⟩ : ∃ x, hOf X k = x := ⟨_, rfl⟩
      obtain ⟨y, hy⟩ : ∃ y, hOf X (rv k) = y := ⟨_, rfl⟩
      obtain ⟨c, hcp⟩ : ∃ c, cp k = c := ⟨_, rfl⟩
      obtain ⟨b, hbk⟩ : ∃ b, bk k = b := ⟨_, rfl⟩
      obtain ⟨q, hq⟩ : ∃ q, rv k = q := ⟨_, rfl⟩
      rw [hx] at cx hx1 hno1 hyes hno2
      rw [hy] at cy hno2 hyes
      rw [hcp] at cc hc hno2 hyes
      rw [hbk] at cb hno2 hyes
      rw [hq] at cr cy hr
      have HNO1 := Lib.hid hno1; have HNO2 := Lib.hid hno2; have HYES := Lib.hid hyes
      clear hno1 hno2 hyes hx hy hcp hbk hq
      have HC1 := Lib.hid C1; have HX1 := Lib.hid X1
      clear C1 X1
      by_cases hx0 : x < 0
      · go_wp2_with fail
        go_ret
        exact ⟨ret_bool (HF.out (HNO1.out hx0)), below_drewN' Bw _⟩
      · cases b with
        | true =>
          go_wp2_with fail
          go_quiet (fail)
          go_wp2_with fail
          go_roundw
          case rel => exact ⟨k + 1, nd + nq, by omega, by go_num, rfl, HYES.out hx0 (fun h => (by cases h))⟩
          case measure => simp [intOf]; omega
        | false =>
          have hw : IntKind.i64.wrap (c - x) = c - x := wrap_in (by omega) (by omega)
          by_cases hyc : y = c - x
          · have hyc' : (y != c - x) = false := by simpa using hyc
            go_wp2_with fail
            go_quiet (fail)
            go_wp2_with fail
            go_roundw
            case rel => exact ⟨k + 1, nd + nq, by omega, by go_num, rfl, HYES.out hx0 (fun _ => hyc)⟩
            case measure => simp [intOf]; omega
          · have hyc' : (y != c - x) = true := by simpa using hyc
            go_wp2_with fail
            go_quiet (fail)
            go_wp2_with fail
            go_ret
            exact ⟨ret_bool (HF.out (HNO2.out trivial hyc)), below_drewN' (below_drewN' Bw _) _⟩
    · obtain rfl : k = M := by omega
      go_wp2_with fail
      go_ret
      exact ⟨ret_bool (HT.out HP.out).symm, below_drewN' Bw _⟩

end Go.Proofs.Ytanifbofjecpmaa

/-! Pinb -/
namespace Go.Proofs.Ytanifbofjecpmaa
open Go.RowKit
set_option maxRecDepth 100000

set_option maxHeartbeats 4000000 in
theorem flow2 (N M s t n : Nat) (K : CsrS) (fst hd rv ai : Nat → Nat) (cp : Nat → Int) (bk : Nat → Bool) (AX : Option Addr) (cX : Nat) (X : List Int) (r : Bool) (w : World) (hG : PNet N M s t fst hd rv ai cp bk) (hI : PIn w w.heap.size N M K fst hd rv ai cp bk)
    (hX : Ints w w.heap.size AX M X) (hXR : ∀ x ∈ X, InR x) (hr : r = true ↔ BalN M rv cp bk X M) (hn : n ≤ 16384) (ha : ∀ a, a < M → ai a < n) :
    Calls Try.prog 79 #[csrW N M s t K, .slice AX M cX, .int .i64 n] w fun e w' => (∃ v, e = .returned (.tuple #[v, .int .i64 (if r then 0 else 20)])) ∧ Below w.heap.size w w' := by
  have hct := fun W => isCount_any (n : Int) W
  rw [decide_eq_true (show 0 ≤ (n : Int) ∧ (n : Int) ≤ 16384 by omega)] at hct
  have HCT := Lib.hid hct; clear hct
  have hlen := fun W => len2_any N M s t K W
  have HL := Lib.hid hlen; clear hlen
  have hM := hG.nM
  have hwf := fun W (h : PIn W W.heap.size N M K fst hd rv ai cp bk) => wf2 N M s t K fst hd rv ai cp bk W hG.g h (by omega)
  have HWF := Lib.hid hwf; clear hwf
  have hba := fun W (h : PIn W W.heap.size N M K fst hd rv ai cp bk) (hX : Ints W W.heap.size AX M X) => bal2 N M s t K fst hd rv ai cp bk AX cX X r W hG h hX hXR hr
  have HBA := Lib.hid hba; clear hba hr hXR
  obtain ⟨i1, hi, hz0, hz1, hz2⟩ := info_parts long_info
  have hml := fun W => run_make_lit (P := Try.prog) 26 2 i1 _ Try.underlying26 hi hz0 n (by rw [hz2]; omega) (by omega) W
  rw [hz1, ivs_made] at hml
  clear hi hz0 hz1 hz2
  have HIC := Lib.hid ha; clear ha
  have HI := Lib.hid hI; have HX := Lib.hid hX
  clear hI hX hG
  obtain ⟨AF, cF, AH, cH, AR, cR, AC, cC, AA, cA, AB, cB⟩ := K
  dsimp only [csrW] at HL HWF HBA ⊢
  go_enter Try.func79, Try.ntmps79
  go_wp2_with fail
  refine (HWF.out _ (HI.out.onAlloc _)).mono ?_
  rintro e w1 ⟨rfl, B1⟩
  have K1 : Blk w1 w.heap.size 32 _ := (Blk.new rfl).below B1 (by simp)
  have Bw := below_step (below_alloc _) B1
  have C1 := (HI.out.onAlloc _).on B1
  have X1 := (HX.out.onAlloc _).on B1
  obtain ⟨a0, a1, a2, a3, a4, a5, a6, a7, a8⟩ := K1.at9
  clear B1
  go_wp2_with fail
  refine (HL.out _).mono ?_
  rintro e w2 ⟨rfl, B2⟩
  have K2 := K1.below B2 K1.lt
  have C2 := C1.on B2
  have X2 := X1.on B2
  have Bw2 := below_step Bw B2
  clear a0 a1 a2 a3 a4 a5 a6 a7 a8 K1 C1 X1 Bw B2
  obtain ⟨a0, a1, a2, a3, a4, a5, a6, a7, a8⟩ := K2.at9
  go_wp2_with fail
  refine (HCT.out _).mono ?_
  rintro e w3 ⟨rfl, B3⟩
  have K3 := K2.below B3 K2.lt
  have C3 := C2.on B3
  have X3 := X2.on B3
  have Bw3 := below_step Bw2 B3
  clear a0 a1 a2 a3 a4 a5 a6 a7 a8 K2 C2 X2 Bw2 B3
  obtain ⟨a0, a1, a2, a3, a4, a5, a6, a7, a8⟩ := K3.at9
  go_wp2_with fail
  refine (below2 AA M cA _ n _ C3.iA (by omega) ?_).mono ?_
  · intro x hx
    obtain ⟨k, hk⟩ := List.getElem?_of_mem hx
    have hkM : k < M := by have := (List.getElem?_eq_some_iff.1 hk).1; rw [tab_len] at this; exact this
    rw [tab_at hkM] at hk
    injection hk with hk
    have := HIC.out k hkM
    omega
  rintro e w4 ⟨rfl, rfl⟩
  go_wp2_with fail
  refine (HBA.out _ C3 X3).mono ?_
  rintro e w5 ⟨rfl, B5⟩
  cases r with
  | false =>
    go_wp2_with fail
    go_ret2
    exact ⟨⟨_, rfl⟩, below_step Bw3 B5⟩
  | true =>
  have K5 := K3.below B5 K3.lt
  have C5 := C3.on B5
  have X5 := X3.on B5
  have Bw5 := below_step Bw3 B5
  have hz5 := K5.lt
  clear a0 a1 a2 a3 a4 a5 a6 a7 a8 K3 C3 X3 Bw3 B5
  obtain ⟨a0, a1, a2, a3, a4, a5, a6, a7, a8⟩ := K5.at9
  go_wp2_with fail
  have Y5 : Blk (w5.alloc (.cells (ivs (List.replicate n 0)) 2)) w5.heap.size 2 (ivs (List.replicate n 0)) := Blk.new rfl
  refine (HL.out _).mono ?_
  rintro e w6 ⟨rfl, B6⟩
  have K6 := (K5.alloc (.cells (ivs (List.replicate n 0)) 2)).below B6 (K5.alloc _).lt
  have B56 : Below w5.heap.size w5 w6 := (below_alloc _).trans (B6.mono (by simp))
  have C6 := C5.below B56
  have X6 := X5.below B56
  have Y6 := Y5.below B6 Y5.lt
  have Bw6 := below_step Bw5 B56
  clear a0 a1 a2 a3 a4 a5 a6 a7 a8 K5 C5 X5 Bw5 B6 Y5 B56
  go_wp2_with fail
  go_loopw [9, 40] (fun _ i wr => ∃ (k : Nat) (F : List Int), k ≤ M ∧ i = .int .i64 k ∧ F.length = n ∧ Blk wr w5.heap.size 2 (ivs F) ∧ PIn wr w5.heap.size N M ⟨AF, cF, AH, cH, AR, cR, AC, cC, AA, cA, AB, cB⟩ fst hd rv ai cp bk ∧ Ints wr w5.heap.size AX M X ∧
      Blk wr w.heap.size 32 #[.int .i64 N, .int .i64 s, .int .i64 t, .slice AF (N + 1) cF, .slice AH M cH, .slice AR M cR, .slice AC M cC, .slice AA M cA, .slice AB M cB] ∧ Below w.heap.size w wr) (fun _ i _ => M - (intOf i).toNat)
  case atStart => exact ⟨0, _, Nat.zero_le _, rfl, List.length_replicate, Y6, C6, X6, K6, Bw6⟩
  case round =>
    clear Y6 C6 X6 K6 Bw6
    obtain ⟨k, F, hk, rfl, hFl, Y6, C6, X6, K6, Bw6⟩ := hrel
    obtain ⟨a0, a1, a2, a3, a4, a5, a6, a7, a8⟩ := K6.at9
    by_cases hlt : k < M
    · obtain ⟨bf, off, x, rfl, hbf, hfx, hcx⟩ := intl_at X6 (k := k) hlt
      obtain ⟨bA, oA, hA⟩ := C6.iA.adr (by omega)
      obtain ⟨bB, oB, hB, hbB, cb⟩ := tab_bool C6.iB hlt
      dsimp only at hA hB
      subst hA; subst hB
      obtain ⟨hbA, ca⟩ := tab_cell C6.iA hlt
      have hil := HIC.out k hlt
      clear hfx
      obtain ⟨i, hi⟩ : ∃ i, ai k = i := ⟨_, rfl⟩
      obtain ⟨b, hb⟩ : ∃ b, bk k = b := ⟨_, rfl⟩
      rw [hi] at ca hil
      rw [hb] at cb
      clear hi hb
      have hin : (i : Int) < (n : Int) := by omega
      cases b with
      | false =>
        go_wp2_with fail
        go_roundw
        case rel => exact ⟨k + 1, F, by omega, by go_num, hFl, Y6, C6, X6, K6, Bw6⟩
        case measure => simp [intOf]; omega
      | true =>
        obtain ⟨y1, hy1⟩ : ∃ y, F[i]? = some y := ⟨_, List.getElem?_eq_getElem (by omega)⟩
        have c1 := Y6.iat hy1
        have d1 := Y6.frozen i
        have n1 : w5.heap.size ≠ w.heap.size := by omega
        have n2 : w5.heap.size ≠ bA := by omega
        have n3 : w5.heap.size ≠ bf := by omega
        have HX4 := Lib.hid Y6; have HC := Lib.hid C6; have HF := Lib.hid X6; have HK := Lib.hid K6; have HB := Lib.hid Bw6; have HFL := Lib.hid hFl
        clear Y6 C6 X6 K6 Bw6 hy1 hFl
        go_wp2_with fail
        go_region_held3 (fun W => W.cell? ⟨w.heap.size, 7, none⟩ = some (.slice (some ⟨bA, oA, none⟩) M cA) ∧ W.cell? ⟨bA, oA + k, none⟩ = some (.int .i64 (i : Int)) ∧ W.cell? ⟨bf, off + k, none⟩ = some (.int .i64 x)) (go_keep) (first | fail)
        go_wp2_with fail
        go_roundw
        case rel =>
          have hb2 : Below w5.heap.size wr (wr.setCell ⟨w5.heap.size, i, none⟩ (.int .i64 x)).drew := ((Below.refl _ _).setCell (by simp) _).drew
          exact ⟨k + 1, F.set i x, by omega, by go_num, by simp [HFL.out], (HX4.out.iset i x).drew, HC.out.below hb2, HF.out.below hb2, HK.out.below hb2 (by omega), HB.out.trans (hb2.mono (by omega))⟩
        case measure => simp [intOf]; omega
    · go_wp2_with fail
      go_ret2
      exact ⟨⟨_, rfl⟩, Bw6⟩

set_option maxHeartbeats 4000000 in
theorem within_is (N M s t : Nat) (K : CsrS) (fst hd rv ai : Nat → Nat) (cp : Nat → Int) (bk : Nat → Bool) (AX : Option Addr) (cX : Nat) (X : List Int) (r : Bool) (w : World) (hG : PNet N M s t fst hd rv ai cp bk) (hI : PIn w w.heap.size N M K fst hd rv ai cp bk)
    (hX : Ints w w.heap.size AX M X) (hXR : ∀ x ∈ X, InR x) (hr : r = true ↔ Bal M rv cp X) :
    Calls Try.prog 50 #[csrW N M s t K, .slice AX M cX] w fun e w' => e = .returned (.bool r) ∧ Below w.heap.size w w' := by
  have hr2 : r = true ↔ BalN M rv cp bk X M := hr.trans (balN_iff hG hX.len).symm
  have hM := hG.nM
  have hai := hG.aib
  have hfl := fun (n : Nat) W (h : PIn W W.heap.size N M K fst hd rv ai cp bk) (hX : Ints W W.heap.size AX M X) => flow2 N M s t n K fst hd rv ai cp bk AX cX X r W hG h hX hXR hr2
  have HFL := Lib.hid hfl; have HAI := Lib.hid hai; have HI := Lib.hid hI; have HX := Lib.hid hX
  clear hfl hai hr hr2 hXR hG hI hX
  obtain ⟨AF, cF, AH, cH, AR, cR, AC, cC, AA, cA, AB, cB⟩ := K
  dsimp only [csrW] at HFL ⊢
  go_enter Try.func50, Try.ntmps50
  go_wp2_with fail
  obtain ⟨w1, hw1⟩ : ∃ w1, w.alloc (.cells #[.int .i64 (N : Int), .int .i64 (s : Int), .int .i64 (t : Int), .slice AF (N + 1) cF, .slice AH M cH, .slice AR M cR, .slice AC M cC, .slice AA M cA, .slice AB M cB] 32) = w1 := ⟨_, rfl⟩
  have K1 : Blk w1 w.heap.size 32 #[.int .i64 N, .int .i64 s, .int .i64 t, .slice AF (N + 1) cF, .slice AH M cH, .slice AR M cR, .slice AC M cC, .slice AA M cA, .slice AB M cB] := by rw [← hw1]; exact Blk.new rfl
  have Bw : Below w.heap.size w w1 := by rw [← hw1]; exact below_alloc _
  have C1 := HI.out.on Bw
  have X1 := HX.out.on Bw
  rw [hw1]
  clear hw1
  obtain ⟨a0, a1, a2, a3, a4, a5, a6, a7, a8⟩ := K1.at9
  go_wp2_with fail
  go_loopw [5, 7, 13] (fun x _ i wr => ∃ (k n : Nat), k ≤ M ∧ i = .int .i64 k ∧ x = .int .i64 n ∧ n ≤ 16384 ∧ (∀ a, a < k → ai a < n) ∧ wr = w1) (fun _ _ i _ => M - (intOf i).toNat)
  case atStart => exact ⟨0, 0, Nat.zero_le _, rfl, rfl, Nat.zero_le _, fun a h => absurd h (by omega), rfl⟩
  case round =>
    obtain ⟨k, n, hk, rfl, rfl, hn, hal, rfl⟩ := hrel
    have HAL := Lib.hid hal; clear hal
    by_cases hlt : k < M
    · obtain ⟨bA, oA, hA⟩ := C1.iA.adr (by omega)
      dsimp only at hA
      subst hA
      obtain ⟨hbA, ca⟩ := tab_cell C1.iA hlt
      have hil := HAI.out k hlt
      go_wp2_with fail
      go_roundw
      case rel => exact ⟨k + 1, max n (ai k + 1), by omega, by go_num, by go_num, by omega, fun a h => by
          by_cases e : a = k
          · subst e; omega
          · have := HAL.out a (by omega); omega, trivial⟩
      case measure => simp [intOf]; omega
    · obtain rfl : k = M := by omega
      go_wp2_with fail
      refine (HFL.out n _ C1 X1 hn HAL.out).mono ?_
      rintro e w2 ⟨⟨v, rfl⟩, B2⟩
      have Bw2 := below_step Bw B2
      cases r with
      | false =>
        go_wp2_with fail
        go_ret
        exact ⟨rfl, Bw2⟩
      | true =>
        go_wp2_with fail
        go_ret
        exact ⟨rfl, Bw2⟩

end Go.Proofs.Ytanifbofjecpmaa

/-! Pnet -/
namespace Go.Proofs.Ytanifbofjecpmaa
open Go.RowKit
set_option maxRecDepth 100000

theorem sumN_once {p : Nat → Bool} {c : Int} (hc : 0 ≤ c) : ∀ {M : Nat}, (∀ a b, a < M → b < M → p a = true → p b = true → a = b) → sumN (fun a => if p a = true then c else 0) M ≤ c
  | 0, _ => by simp only [sumN]; exact hc
  | M + 1, h => by
    simp only [sumN]
    by_cases e : p M = true
    · rw [if_pos e, sumN_congr (g := fun _ => 0) (fun j hj => if_neg fun e' => by have := h j M (by omega) (by omega) e' e; omega), sumN_zero]
      omega
    · rw [if_neg e]
      have := sumN_once hc (M := M) (fun a b ha hb => h a b (by omega) (by omega))
      omega
theorem sumN_le {f g : Nat → Int} {n : Nat} (h : ∀ j, j < n → f j ≤ g j) : sumN f n ≤ sumN g n := by
  induction n with
  | zero => exact Int.le_refl _
  | succ n ih =>
    have h1 := ih fun j hj => h j (by omega)
    have h2 := h n (by omega)
    simp only [sumN]; omega
theorem sumN_front (f : Nat → Int) : ∀ n, sumN f (n + 1) = f 0 + sumN (fun j => f (j + 1)) n
  | 0 => by simp [sumN]
  | n + 1 => by
    have := sumN_front f n
    simp only [sumN] at this ⊢
    omega
/-- Of each i at most one a: together no more than all i's. -/
theorem sumN_inj {M n : Nat} {ai : Nat → Nat} {p : Nat → Bool} {c : Nat → Int} (hc : ∀ i, i < n → 0 ≤ c i) (hl : ∀ a, a < M → ai a < n) (h : ∀ a b, a < M → b < M → p a = true → p b = true → ai a = ai b → a = b) :
    sumN (fun a => if p a = true then c (ai a) else 0) M ≤ sumN c n := by
  have e : sumN (fun a => if p a = true then c (ai a) else 0) M = sumN (fun i => sumN (fun a => if (p a && decide (ai a = i)) = true then c i else 0) M) n := by
    refine (sumN_congr fun a ha => ?_).trans (sumN_swap (fun a i => if (p a && decide (ai a = i)) = true then c i else 0) M n)
    by_cases hp : p a = true
    · rw [if_pos hp]
      have := sumN_upd (f := fun _ => 0) (g := fun i => if (p a && decide (ai a = i)) = true then c i else 0) (a := ai a) (n := n) (d := c (ai a)) (hl a ha) (fun j _ hne => if_neg fun e => by simp at e; exact hne e.2.symm) (by simp [hp])
      rw [this, sumN_zero]
      omega
    · rw [if_neg hp]
      refine ((sumN_zero n).symm).trans (sumN_congr fun i _ => ?_)
      rw [if_neg fun e => by simp at e; exact hp e.1]
  rw [e]
  refine sumN_le fun i hi => sumN_once (hc i hi) fun a b ha hb h1 h2 => ?_
  simp at h1 h2
  exact h a b ha hb h1.1 h2.1 (h1.2.trans h2.2.symm)
theorem sumN_caps : ∀ l : List ArcN, sumN (capAt l) l.length = total l
  | [] => rfl
  | a :: r => by
    rw [List.length_cons, sumN_front]
    simp only [total]
    rw [← sumN_caps r]
    rfl
def bOf (B : List Bool) (a : Nat) : Bool := (B[a]?).getD false
theorem hOf_eq {L : List Int} {a : Nat} {x : Int} (h : L[a]? = some x) : hOf L a = x := hOf_at h

/-- The residual network of a right net, by numbers. -/
theorem CsrL.pnet {N s t : Nat} {l : List ArcN} {F H R C Ai : List Int} {B : List Bool} (h : CsrL N l F H R C Ai B) (hc : checkF N s t l = 0) :
    PNet N (firstOf l N) s t (firstOf l) (hdOf H) (hdOf R) (hdOf Ai) (hOf C) (bOf B) ∧ F = tab (N + 1) (fun v => (firstOf l v : Int)) ∧ H = tab (firstOf l N) (fun a => (hdOf H a : Int)) ∧ R = tab (firstOf l N) (fun a => (hdOf R a : Int)) ∧
      C = tab (firstOf l N) (hOf C) ∧ Ai = tab (firstOf l N) (fun a => (hdOf Ai a : Int)) ∧ B = tab (firstOf l N) (bOf B) := by
  obtain ⟨h2, hN, hln, hE, hs0, hs, ht0, ht, hst, hnn, htot⟩ := ends_in hc
  obtain ⟨hg, eH, eR⟩ := h.grid hE
  have key : ∀ a, a < firstOf l N → ∃ (v u : Int) (b : Bool) (c : Int), Inc l (hdOf Ai a) v u b c ∧ posOf l (hdOf Ai a) v = a ∧ hdOf R a = posOf l (hdOf Ai a) u ∧ bOf B a = b ∧ hOf C a = c ∧ B[a]? = some b ∧ C[a]? = some c ∧ Ai[a]? = some (hdOf Ai a : Int) := by
    intro a ha
    obtain ⟨i, q, v, u, b, c, hI, hp, hq, hql, e1, e2, e3, e4, e5⟩ := h.at hE ha
    have hi : hdOf Ai a = i := hdOf_eq e4
    rw [hi]
    exact ⟨v, u, b, c, hI, hp, by rw [hdOf_eq e2, hq], by unfold bOf; rw [e5]; rfl, hOf_at e3, e5, e3, e4⟩
  have hil : ∀ a, a < firstOf l N → hdOf Ai a < l.length := fun a ha => by
    obtain ⟨v, u, b, c, hI, _⟩ := key a ha
    exact hI.lt
  have hair : ∀ a, a < firstOf l N → hdOf Ai (hdOf R a) = hdOf Ai a ∧ bOf B (hdOf R a) = !bOf B a := fun a ha => by
    obtain ⟨v, u, b, c, hI, hp, hr, hb, _⟩ := key a ha
    obtain ⟨c', hI'⟩ := hI.flip
    have h0 := (hI'.ends hE).1
    have e := h.ent.ent _ _ _ _ _ hI' h0 (pos_lt hI' hE)
    rw [← hr] at e
    exact ⟨hdOf_eq e.2.2.1, by unfold bOf; rw [e.2.2.2, ← hb]; rfl⟩
  have haij : ∀ a b, a < firstOf l N → b < firstOf l N → hdOf Ai a = hdOf Ai b → bOf B a = bOf B b → a = b := by
    intro a b ha hb e1 e2
    obtain ⟨v, u, ba, c, hI, hp, hr, hba, -⟩ := key a ha
    obtain ⟨v', u', bb, c', hI', hp', hr', hbb, -⟩ := key b hb
    rw [← e1] at hI' hp'
    have e3 : ba = bb := by rw [← hba, ← hbb]; exact e2
    subst e3
    obtain ⟨-, x, hx, hh⟩ := hI
    obtain ⟨-, x', hx', hh'⟩ := hI'
    rw [hx] at hx'
    injection hx' with hx'
    subst hx'
    have : v = v' := by
      rcases hh with ⟨g0, g1, g2, g3⟩ | ⟨g0, g1, g2, g3⟩ <;> rcases hh' with ⟨k0, k1, k2, k3⟩ | ⟨k0, k1, k2, k3⟩
      · exact g1.symm.trans k1
      · rw [g0] at k0; cases k0
      · rw [g0] at k0; cases k0
      · exact g1.symm.trans k1
    subst this
    exact hp.symm.trans hp'
  have hcap : ∀ a, a < firstOf l N → hOf C a = (if (!bOf B a) = true then capAt l (hdOf Ai a) else 0) ∧ 0 ≤ capAt l (hdOf Ai a) := fun a ha => by
    obtain ⟨v, u, b, c, hI, hp, hr, hb, hcc, -⟩ := key a ha
    have hmem := hnn
    refine ⟨?_, ?_⟩
    · rw [hb, hcc]
      cases b
      · simp only [Bool.not_false, if_true]; exact (capAt_fwd hI).symm
      · simp only [Bool.not_true, Bool.false_eq_true, if_false]
        obtain ⟨_, x, _, hh⟩ := hI
        rcases hh with ⟨e, _⟩ | ⟨_, _, _, e⟩
        · cases e
        · exact e
    · unfold capAt
      cases hx : l[hdOf Ai a]? with
      | none => exact Int.le_refl _
      | some x => exact hnn x (mem_at hx)
  have hca : ∀ i, i < l.length → 0 ≤ capAt l i := fun i hi => by
    unfold capAt
    cases hx : l[i]? with
    | none => exact Int.le_refl _
    | some x => exact hnn x (mem_at hx)
  have hsum : sumN (hOf C) (firstOf l N) ≤ maxSum := by
    have e := sumN_congr (fun a ha => (hcap a ha).1)
    rw [e]
    have := sumN_inj (M := firstOf l N) (n := l.length) (ai := hdOf Ai) (p := fun a => !bOf B a) (c := capAt l) hca hil (fun a b ha hb h1 h2 h3 => haij a b ha hb h3 (by simp at h1 h2; rw [h1, h2]))
    rw [sumN_caps] at this
    exact Int.le_trans this htot
  have hc0 : ∀ a, a < firstOf l N → 0 ≤ hOf C a := fun a ha => by
    rw [(hcap a ha).1]
    split
    · exact (hcap a ha).2
    · exact Int.le_refl _
  have hcount : (firstOf l N : Int) ≤ 2 * l.length := by
    have h1 := sumN_inj (M := firstOf l N) (n := l.length) (ai := hdOf Ai) (p := fun a => bOf B a) (c := fun _ => 1) (fun _ _ => by omega) hil (fun a b ha hb h1 h2 h3 => haij a b ha hb h3 (by rw [h1, h2]))
    have h2 := sumN_inj (M := firstOf l N) (n := l.length) (ai := hdOf Ai) (p := fun a => !bOf B a) (c := fun _ => 1) (fun _ _ => by omega) hil (fun a b ha hb h1 h2 h3 => haij a b ha hb h3 (by simp at h1 h2; rw [h1, h2]))
    have h3 : ∀ n, sumN (fun _ => 1) n = (n : Int) := fun n => by
      induction n with
      | zero => rfl
      | succ n ih => simp only [sumN]; rw [ih]; omega
    have h4 := sumN_add (fun a => if bOf B a = true then (1 : Int) else 0) (fun a => if (!bOf B a) = true then (1 : Int) else 0) (firstOf l N)
    rw [sumN_congr (g := fun _ => 1) fun j _ => by cases bOf B j <;> rfl, h3] at h4
    rw [h3] at h1 h2
    omega
  refine ⟨⟨hg, h2, by omega, by omega, by omega, by omega, fun e => hst (by omega), fun a ha => ?_, fun a ha => (hair a ha).2, fun a ha => ⟨hc0 a ha, ?_⟩, fun a ha hb => ?_, fun a ha => by have := hil a ha; omega, fun a ha => (hair a ha).1, haij, fun X hb v hv => ?_⟩,
    h.fst, eH, eR, tab_ext h.ent.lC fun a ha => ?_, tab_ext h.ent.lA fun a ha => ?_, tab_ext h.ent.lB fun a ha => ?_⟩
  · obtain ⟨i, q, v, u, b, c, hI, hp, hq, hql, e1, e2, e3, e4, e5⟩ := h.at hE ha
    obtain ⟨c', hI'⟩ := hI.flip
    have e := h.ent.ent _ _ _ _ _ hI' (hI'.ends hE).1 (pos_lt hI' hE)
    have h3 := hdOf_at e1 (hI.ends hE).2.2.1
    have h4 : hdOf R a = posOf l i u := by rw [hdOf_eq e2, hq]
    have h5 := hdOf_at e.1 (hI.ends hE).1
    rw [h4]
    intro e'
    have e2' : (hdOf H (posOf l i u) : Int) = (hdOf H a : Int) := by rw [e']
    exact hI.1 (h5.symm.trans (e2'.trans h3))
  · refine Int.le_trans ?_ hsum
    have h1 := sumN_upd (f := fun j => if j = a then 0 else hOf C j) (g := hOf C) (a := a) (n := firstOf l N) (d := hOf C a) ha (fun j _ hne => (if_neg hne).symm) (by simp)
    have h2 := sumN_nonneg (f := fun j => if j = a then 0 else hOf C j) (n := firstOf l N) (fun j hj => by
      show 0 ≤ if j = a then 0 else hOf C j
      split
      · exact Int.le_refl _
      · exact hc0 j hj)
    omega
  · rw [(hcap a ha).1, if_neg (by rw [hb]; simp)]
  · have hf : ∀ j, j < firstOf l N → -hOf C j ≤ (if hdOf H (hdOf R j) = v then hOf X j - hOf C j else 0) ∧ (if hdOf H (hdOf R j) = v then hOf X j - hOf C j else 0) ≤ hOf C (hdOf R j) := fun j hj => by
      have h1 := hb.2 j hj
      have h2 := hb.2 _ (hg.rvl j hj)
      have h3 := hc0 j hj
      have h4 := hc0 _ (hg.rvl j hj)
      split <;> omega
    have h1 := sumN_le fun j hj => (hf j hj).1
    have h2 := sumN_le fun j hj => (hf j hj).2
    rw [sumN_inv hg.rvl hg.rvv] at h2
    have h3 := sumN_sub (fun _ => 0) (hOf C) (firstOf l N)
    rw [sumN_zero, sumN_congr (g := fun i => -hOf C i) fun j _ => by omega] at h3
    unfold exT
    omega
  · obtain ⟨v, u, b, c, hI, hp, hr, hb, hcc, e5, e3, e4⟩ := key a ha
    rw [e3, hcc]
  · obtain ⟨v, u, b, c, hI, hp, hr, hb, hcc, e5, e3, e4⟩ := key a ha
    exact e4
  · obtain ⟨v, u, b, c, hI, hp, hr, hb, hcc, e5, e3, e4⟩ := key a ha
    rw [e5, hb]

/-- The same, where it lies. -/
theorem CsrL.pin {N s t x : Nat} {w : World} {K : CsrS} {l : List ArcN} {F H R C Ai : List Int} {B : List Bool} (h : CsrL N l F H R C Ai B) (hc : checkF N s t l = 0) (hI : CsrIn w x N (firstOf l N) K F H R C Ai B) :
    PIn w x N (firstOf l N) K (firstOf l) (hdOf H) (hdOf R) (hdOf Ai) (hOf C) (bOf B) := by
  obtain ⟨-, e1, e2, e3, e4, e5, e6⟩ := h.pnet hc
  exact ⟨⟨e1 ▸ hI.iF, e2 ▸ hI.iH, e3 ▸ hI.iR⟩, e4 ▸ hI.iC, e5 ▸ hI.iA, e6 ▸ hI.iB⟩

end Go.Proofs.Ytanifbofjecpmaa

/-! Nlp -/
namespace Go.Proofs.Ytanifbofjecpmaa
open Go.RowKit
set_option maxRecDepth 100000

def nrm (a : ArcN) : ArcN := if a.frm = a.to then ⟨0, 0, 0⟩ else a
def nrmL (n0 : Nat) (l : List ArcN) : List ArcN := (l.take n0).map nrm
/-- The greatest number of an arc, and one more. -/
def cntA (ai : Nat → Nat) : Nat → Nat
  | 0 => 0
  | k + 1 => max (cntA ai k) (ai k + 1)
theorem cntA_lt {ai : Nat → Nat} : ∀ {k j : Nat}, j < k → ai j < cntA ai k
  | 0, _, h => by omega
  | k + 1, j, h => by
    simp only [cntA]
    by_cases e : j = k
    · subst e; omega
    · have := cntA_lt (ai := ai) (k := k) (j := j) (by omega); omega
theorem cntA_le {ai : Nat → Nat} {m : Nat} : ∀ {k : Nat}, (∀ j, j < k → ai j < m) → cntA ai k ≤ m
  | 0, _ => Nat.zero_le _
  | k + 1, h => by
    have := cntA_le (ai := ai) (m := m) (k := k) fun j hj => h j (by omega)
    have := h k (by omega)
    simp only [cntA]; omega
section
variable {l : List ArcN} {n0 i j N : Nat} {v u c : Int} {b : Bool} {a : ArcN}
theorem touch_nrm : touch v (nrm a) = touch v a := by
  unfold nrm
  split
  · rename_i h; simp [touch, h]
  · rfl
/-- All arcs behind the first n0 are loops. -/
def LoopsFrom (n0 : Nat) (l : List ArcN) : Prop := ∀ i a, l[i]? = some a → n0 ≤ i → a.frm = a.to
theorem deg_rest (h : LoopsFrom n0 l) : ∀ d, deg (l.take (n0 + d)) v = deg (l.take n0) v
  | 0 => rfl
  | d + 1 => by
    have ih := deg_rest h d
    cases hx : l[n0 + d]? with
    | none =>
      have hl := List.getElem?_eq_none_iff.1 hx
      rw [List.take_of_length_le (by omega : l.length ≤ n0 + (d + 1)), ← ih, List.take_of_length_le hl]
    | some a =>
      have := deg_take_succ hx v
      have hlp := h _ a hx (by omega)
      have ht : touch v a = false := by simp [touch, hlp]
      rw [ht] at this
      simp only [Bool.false_eq_true, if_false, Nat.add_zero] at this
      rw [show n0 + (d + 1) = n0 + d + 1 by omega, this, ih]
theorem deg_map (m : List ArcN) : deg (m.map nrm) v = deg m v := by
  unfold deg
  rw [List.countP_map]
  congr 1
  funext a
  exact touch_nrm
theorem deg_nrm (h : LoopsFrom n0 l) (j : Nat) : deg ((nrmL n0 l).take j) v = deg (l.take j) v := by
  unfold nrmL
  rw [← List.map_take, deg_map, List.take_take]
  by_cases e : j ≤ n0
  · rw [Nat.min_eq_left e]
  · rw [Nat.min_eq_right (by omega)]
    obtain ⟨d, rfl⟩ : ∃ d, j = n0 + d := ⟨j - n0, by omega⟩
    exact (deg_rest h d).symm
theorem deg_nrm' (h : LoopsFrom n0 l) : deg (nrmL n0 l) v = deg l v := by
  have := deg_nrm (v := v) h (l.length + n0)
  rw [List.take_of_length_le (by unfold nrmL; simp; omega), List.take_of_length_le (by omega)] at this
  exact this
theorem first_nrm (h : LoopsFrom n0 l) : ∀ k, firstOf (nrmL n0 l) k = firstOf l k
  | 0 => rfl
  | k + 1 => by simp only [firstOf]; rw [first_nrm h k, deg_nrm' h]
theorem pos_nrm (h : LoopsFrom n0 l) (i : Nat) (v : Int) : posOf (nrmL n0 l) i v = posOf l i v := by unfold posOf; rw [first_nrm h, deg_nrm h]
theorem nrm_at (hi : i < n0) (ha : l[i]? = some a) : (nrmL n0 l)[i]? = some (nrm a) := by
  unfold nrmL
  rw [List.getElem?_map, List.getElem?_take, if_pos hi, ha]
  rfl
theorem inc_nrm (h : LoopsFrom n0 l) : Inc (nrmL n0 l) i v u b c ↔ Inc l i v u b c := by
  constructor
  · rintro ⟨hne, a', ha', hh⟩
    unfold nrmL at ha'
    rw [List.getElem?_map, List.getElem?_take] at ha'
    split at ha'
    · cases hx : l[i]? with
      | none => rw [hx] at ha'; cases ha'
      | some a =>
        rw [hx] at ha'
        injection ha' with ha'
        unfold nrm at ha'
        split at ha'
        · subst ha'
          rcases hh with ⟨_, h1, h2, _⟩ | ⟨_, h1, h2, _⟩
          · exact absurd (h1.symm.trans h2) hne
          · exact absurd (h1.symm.trans h2) hne
        · subst ha'; exact ⟨hne, a, hx, hh⟩
    · cases ha'
  · rintro ⟨hne, a, ha, hh⟩
    have hl : a.frm ≠ a.to := by rcases hh with ⟨_, h1, h2, _⟩ | ⟨_, h1, h2, _⟩ <;> omega
    have hi : i < n0 := by
      refine Classical.byContradiction fun hn => hl (h i a ha (by omega))
    have e := nrm_at hi ha
    unfold nrm at e
    rw [if_neg hl] at e
    exact ⟨hne, a, e, hh⟩
theorem csrL_nrm {F H R C Ai : List Int} {B : List Bool} (h : LoopsFrom n0 l) (hL : CsrL N l F H R C Ai B) : CsrL N (nrmL n0 l) F H R C Ai B := by
  refine ⟨?_, ⟨?_, ?_, ?_, ?_, fun i v u b c hI h0 hp => ?_⟩, ⟨?_, fun i v u b c hI h0 hp => ?_⟩⟩
  · rw [hL.fst]; congr 1; funext v; rw [first_nrm h]
  · rw [first_nrm h]; exact hL.ent.lH
  · rw [first_nrm h]; exact hL.ent.lC
  · rw [first_nrm h]; exact hL.ent.lA
  · rw [first_nrm h]; exact hL.ent.lB
  · rw [pos_nrm h, first_nrm h] at hp
    rw [pos_nrm h]
    exact hL.ent.ent i v u b c ((inc_nrm h).1 hI) h0 hp
  · rw [first_nrm h]; exact hL.rev.len
  · rw [pos_nrm h, first_nrm h] at hp
    rw [pos_nrm h, pos_nrm h]
    exact hL.rev.ent i v u b c ((inc_nrm h).1 hI) h0 hp
theorem csrAt_nrm {w : World} {x gF gH gR gC gA gB : Nat} (h : LoopsFrom n0 l) (hC : CsrAt w x N l gF gH gR gC gA gB) : CsrAt w x N (nrmL n0 l) gF gH gR gC gA gB :=
  ⟨hC.lt, fun v hv => by rw [first_nrm h]; exact hC.first v hv, fun i v u b c hI => by rw [pos_nrm h, pos_nrm h]; exact hC.ent i v u b c ((inc_nrm h).1 hI)⟩
theorem mem_nrm {a : ArcN} (h : a ∈ nrmL n0 l) : a = ⟨0, 0, 0⟩ ∨ a ∈ l := by
  unfold nrmL at h
  obtain ⟨x, hx, rfl⟩ := List.mem_map.1 h
  unfold nrm
  split
  · exact .inl rfl
  · exact .inr (List.mem_of_mem_take hx)
theorem nrm_len (h : n0 ≤ l.length) : (nrmL n0 l).length = n0 := by unfold nrmL; simp; omega
theorem total_map {l : List ArcN} (h : NonNeg l) : total (l.map nrm) ≤ total l := by
  induction l with
  | nil => exact Int.le_refl _
  | cons a r ih =>
    have h1 := ih fun x hx => h x (List.mem_cons_of_mem _ hx)
    have h2 := h a (by simp)
    simp only [List.map_cons, total]
    have h3 : (nrm a).cap ≤ a.cap := by unfold nrm; split <;> simp <;> omega
    omega
theorem total_tk {l : List ArcN} (h : NonNeg l) (n : Nat) : total (l.take n) ≤ total l := by
  have h1 := total_append (l.take n) (l.drop n)
  rw [List.take_append_drop] at h1
  have h2 : ∀ m : List ArcN, NonNeg m → 0 ≤ total m := fun m => by
    induction m with
    | nil => intro _; exact Int.le_refl _
    | cons a r ih =>
      intro hm
      have := ih fun x hx => hm x (List.mem_cons_of_mem _ hx)
      have := hm a (by simp)
      simp only [total]; omega
  have := h2 (l.drop n) fun x hx => h x (List.mem_of_mem_drop hx)
  omega
theorem sumFrom_of : ∀ {l : List ArcN} {s : Int}, NonNeg l → s + total l ≤ maxSum → ∃ r, sumFrom s l = some r
  | [], s, _, _ => ⟨s, rfl⟩
  | a :: r, s, h, ht => by
    have h1 := h a (by simp)
    have h2 : 0 ≤ total r := by
      have := total_tk (l := a :: r) h 1
      simp [total] at this
      omega
    simp only [total] at ht
    simp only [sumFrom]
    rw [if_neg (by omega)]
    exact sumFrom_of (l := r) (s := s + a.cap) (fun x hx => h x (List.mem_cons_of_mem _ hx)) (by omega)
/-- A net of which all this holds is right. -/
theorem check_of {N : Nat} {S T : Int} (h1 : 2 ≤ N) (h2 : N ≤ 4096) (h3 : l.length ≤ 16384) (h4 : EndsIn N l) (h5 : 0 ≤ S) (h6 : S < N) (h7 : 0 ≤ T) (h8 : T < N) (h9 : S ≠ T) (h10 : NonNeg l) (h11 : total l ≤ maxSum) : checkF N S T l = 0 := by
  refine check_all fun j hj => ?_
  have e : j = 0 ∨ j = 1 ∨ j = 2 ∨ j = 3 ∨ j = 4 ∨ j = 5 := by omega
  rcases e with rfl | rfl | rfl | rfl | rfl | rfl
  · simp [condB, vertsB]; omega
  · simp [condB]; omega
  · simp [condB, endsB, isVertB]; omega
  · simp only [condB, betweenB, List.all_eq_true]
    intro a ha
    have := h4 a ha
    simp [isVertB]; omega
  · simp only [condB, capsB, List.all_eq_true]
    intro a ha
    simp; exact h10 a ha
  · obtain ⟨r, hr⟩ := sumFrom_of (l := l) (s := 0) h10 (by omega)
    simp [condB, sumB, sumOf, hr]
theorem check_nrm {S T : Int} (hc : checkF N S T l = 0) (hn : n0 ≤ l.length) : checkF N S T (nrmL n0 l) = 0 := by
  obtain ⟨h1, h2, h3, h4, h5, h6, h7, h8, h9, h10, h11⟩ := ends_in hc
  refine check_of h1 h2 (by rw [nrm_len hn]; omega) (fun a ha => ?_) h5 h6 h7 h8 h9 (fun a ha => ?_) ?_
  · rcases mem_nrm ha with rfl | ha
    · simp; omega
    · exact h4 a ha
  · rcases mem_nrm ha with rfl | ha
    · exact Int.le_refl _
    · exact h10 a ha
  · have e1 := total_map (l := l.take n0) fun x hx => h10 x (List.mem_of_mem_take hx)
    have e2 := total_tk h10 n0
    unfold nrmL
    omega
end

end Go.Proofs.Ytanifbofjecpmaa
