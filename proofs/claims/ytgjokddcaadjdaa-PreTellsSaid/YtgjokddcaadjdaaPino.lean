/- Layer 7: within: are these numbers what is left of a flow? (csr.Flow, wherever the rows lie.) -/
import Derived.Test.YtgjokddcaadjdaaVerto
import Derived.Test.YtgjokddcaadjdaaCsrh
namespace Go.Proofs.Ytgjokddcaadjdaa
open Go.RowKit
set_option maxRecDepth 100000

/-- All rows of a residual network. -/
structure PIn (w : World) (x N M : Nat) (K : CsrS) (fst hd rv ai : Nat → Nat) (cp : Nat → Int) (bk : Nat → Bool) : Prop where
  gi : GridIn w x N M K fst hd rv
  iC : Ints w x K.AC M (tab M cp)
  iA : Ints w x K.AA M (tab M fun a => (ai a : Int))
  iB : Bools w x K.AB M (tab M bk)
section
variable {w w' : World} {x y N M : Nat} {K : CsrS} {fst hd rv ai : Nat → Nat} {cp : Nat → Int} {bk : Nat → Bool}
theorem PIn.below (h : PIn w x N M K fst hd rv ai cp bk) (hb : Below x w w') : PIn w' x N M K fst hd rv ai cp bk := ⟨h.gi.below hb, h.iC.below hb, h.iA.below hb, h.iB.below hb⟩
theorem PIn.more (h : PIn w x N M K fst hd rv ai cp bk) (hb : x ≤ y) : PIn w y N M K fst hd rv ai cp bk := ⟨h.gi.more hb, h.iC.more hb, h.iA.more hb, h.iB.more hb⟩
theorem PIn.on (h : PIn w w.heap.size N M K fst hd rv ai cp bk) (hb : Below w.heap.size w w') : PIn w' w'.heap.size N M K fst hd rv ai cp bk := (h.below hb).more hb.size
theorem PIn.onAlloc (h : PIn w w.heap.size N M K fst hd rv ai cp bk) (o : Obj) : PIn (w.alloc o) (w.alloc o).heap.size N M K fst hd rv ai cp bk := h.on (below_alloc o)
end
theorem tab_bool {w : World} {B n k : Nat} {A : Option Addr} {g : Nat → Bool} (h : Bools w B A n (tab n g)) (hk : k < n) : ∃ b off, A = some ⟨b, off, none⟩ ∧ b < B ∧ w.cell? ⟨b, off + k, none⟩ = some (.bool (g k)) := by
  obtain ⟨b, off, hA, hb, hc⟩ := side_at h hk
  refine ⟨b, off, hA, hb, ?_⟩
  rw [hc]
  have := tab_at (g := g) hk
  simp [inS, this]
/-- As the program asks it. -/
def BalN (M : Nat) (rv : Nat → Nat) (cp : Nat → Int) (bk : Nat → Bool) (X : List Int) (k : Nat) : Prop := ∀ a, a < k → a < M → 0 ≤ hOf X a ∧ (bk a = false → hOf X (rv a) = cp a - hOf X a)
theorem balN_iff {N M s t : Nat} {fst hd rv ai : Nat → Nat} {cp : Nat → Int} {bk : Nat → Bool} {X : List Int} (h : PNet N M s t fst hd rv ai cp bk) (hX : X.length = M) : BalN M rv cp bk X M ↔ Bal M rv cp X := by
  constructor
  · refine fun hb => ⟨hX, fun a ha => ?_⟩
    have h1 := hb a ha ha
    have hr := h.g.rvl a ha
    have h2 := hb (rv a) hr hr
    have h3 := h.bkr a ha
    refine ⟨h1.1, ?_⟩
    cases hba : bk a
    · have := h1.2 hba
      have := h.cpb (rv a) hr (by rw [h3, hba]; rfl)
      omega
    · have := h2.2 (by rw [h3, hba]; rfl)
      rw [h.g.rvv a ha] at this
      have := h.cpb a ha hba
      omega
  · intro hb a ha _
    have h1 := hb.2 a ha
    refine ⟨h1.1, fun hba => ?_⟩
    have := h.cpb (rv a) (h.g.rvl a ha) (by rw [h.bkr a ha, hba]; rfl)
    omega

set_option maxHeartbeats 2000000 in
theorem wf2 (N M s t : Nat) (K : CsrS) (fst hd rv ai : Nat → Nat) (cp : Nat → Int) (bk : Nat → Bool) (w : World) (hG : Grid N M fst hd rv) (hI : PIn w w.heap.size N M K fst hd rv ai cp bk) (hM : M ≤ 100000000) :
    Calls Try.prog 66 #[csrW N M s t K] w fun e w' => e = .returned (.bool true) ∧ Below w.heap.size w w' := by
  have HI := Lib.hid hI; have HG := Lib.hid hG
  have hlen := fun W => len2_any N M s t K W
  have HL := Lib.hid hlen
  obtain ⟨AF, cF, AH, cH, AR, cR, AC, cC, AA, cA, AB, cB⟩ := K
  dsimp only [csrW] at HL ⊢
  clear hI hlen hG
  go_enter Try.func66, Try.ntmps66
  go_wp2_with fail
  refine (HL.out _).mono ?_
  rintro e w1 ⟨rfl, B1⟩
  have K1 : Blk w1 w.heap.size 32 _ := (Blk.new rfl).below B1 (by simp)
  have C1 := (HI.out.onAlloc _).on B1
  have Bw := below_step (below_alloc _) B1
  obtain ⟨a0, a1, a2, a3, a4, a5, a6, a7, a8⟩ := K1.at9
  go_wp2_with fail
  go_loopw [4, 34] (fun _ i wr => ∃ k : Nat, k ≤ M ∧ i = .int .i64 k ∧ wr = w1) (fun _ i _ => M - (intOf i).toNat)
  case atStart => exact ⟨0, Nat.zero_le _, rfl, rfl⟩
  case round =>
    obtain ⟨k, hk, rfl, rfl⟩ := hrel
    by_cases hlt : k < M
    · obtain ⟨bR, oR, hR⟩ := C1.gi.iR.adr (by omega)
      obtain ⟨bA, oA, hA⟩ := C1.iA.adr (by omega)
      dsimp only at hR hA
      subst hR; subst hA
      obtain ⟨hbR, cr⟩ := tab_cell C1.gi.iR hlt
      obtain ⟨hbA, ca⟩ := tab_cell C1.iA hlt
      have hr := HG.out.rvl k hlt
      have x1 := fun W => isIndex_any (rv k : Int) (M : Int) W
      rw [decide_eq_true (show 0 ≤ (rv k : Int) ∧ (rv k : Int) < (M : Int) by omega)] at x1
      have HX := Lib.hid x1
      clear x1
      go_wp2_with fail
      refine (HX.out _).mono ?_
      rintro e W ⟨rfl, rfl⟩
      go_wp2_with fail
      go_roundw
      case rel => exact ⟨k + 1, by omega, by go_num, trivial⟩
      case measure => simp [intOf]; omega
    · go_wp2_with fail
      go_ret
      exact ⟨rfl, Bw⟩

set_option maxHeartbeats 1000000 in
theorem below2 (A : Option Addr) (n c : Nat) (L : List Int) (b : Int) (w : World) (hA : Ints w w.heap.size A n L) (hn : n ≤ 100000000) (hb : ∀ x ∈ L, x < b) :
    Calls Try.prog 69 #[.slice A n c, .int .i64 b] w fun e w' => e = .returned (.bool true) ∧ w' = w := by
  have HB := Lib.hid hb
  clear hb
  go_enter Try.func69, Try.ntmps69
  go_wp2_with fail
  go_loopw [6, 9] (fun _ i wr => ∃ k : Nat, k ≤ n ∧ i = .int .i64 k ∧ wr = w) (fun _ i _ => n - (intOf i).toNat)
  case atStart => exact ⟨0, Nat.zero_le _, rfl, rfl⟩
  case round =>
    obtain ⟨k, hk, rfl, rfl⟩ := hrel
    by_cases hlt : k < n
    · obtain ⟨bb, off, x, hAe, hbb, hx, cx⟩ := intl_at hA hlt
      subst hAe
      have hxb := HB.out x (List.mem_of_getElem? hx)
      have hxb' : ¬ b ≤ x := by omega
      clear hx
      go_wp2_with fail
      go_roundw
      case rel => exact ⟨k + 1, by omega, by go_num, trivial⟩
      case measure => simp [intOf]; omega
    · go_wp2_with fail
      go_ret
      exact ⟨rfl, rfl⟩

set_option maxHeartbeats 4000000 in
theorem bal2 (N M s t : Nat) (K : CsrS) (fst hd rv ai : Nat → Nat) (cp : Nat → Int) (bk : Nat → Bool) (AX : Option Addr) (cX : Nat) (X : List Int) (r : Bool) (w : World) (hG : PNet N M s t fst hd rv ai cp bk) (hI : PIn w w.heap.size N M K fst hd rv ai cp bk)
    (hX : Ints w w.heap.size AX M X) (hXR : ∀ x ∈ X, InR x) (hr : r = true ↔ BalN M rv cp bk X M) :
    Calls Try.prog 70 #[csrW N M s t K, .slice AX M cX] w fun e w' => e = .returned (.bool r) ∧ Below w.heap.size w w' := by
  have hfalse : ¬ BalN M rv cp bk X M → false = r := fun h => by
    cases r with
    | false => rfl
    | true => exact absurd (hr.1 rfl) h
  have HF := Lib.hid hfalse; clear hfalse
  have HT := Lib.hid hr.2; clear hr
  have HI := Lib.hid hI; have HG := Lib.hid hG; have HX := Lib.hid hX; have HXR := Lib.hid hXR
  have hlen := fun W => len2_any N M s t K W
  have HL := Lib.hid hlen
  have hM := hG.nM
  obtain ⟨AF, cF, AH, cH, AR, cR, AC, cC, AA, cA, AB, cB⟩ := K
  dsimp only [csrW] at HL ⊢
  clear hI hlen hG hX hXR
  go_enter Try.func70, Try.ntmps70
  go_wp2_with fail
  refine (HL.out _).mono ?_
  rintro e w1 ⟨rfl, B1⟩
  have K1 : Blk w1 w.heap.size 32 _ := (Blk.new rfl).below B1 (by simp)
  have C1 := (HI.out.onAlloc _).on B1
  have X1 := (HX.out.onAlloc _).on B1
  have Bw := below_step (below_alloc _) B1
  obtain ⟨a0, a1, a2, a3, a4, a5, a6, a7, a8⟩ := K1.at9
  clear B1
  go_wp2_with fail
  go_loopw [5, 8] (fun _ i wr => ∃ k nd : Nat, k ≤ M ∧ i = .int .i64 k ∧ wr = w1.drewN nd ∧ BalN M rv cp bk X k) (fun _ i _ => M - (intOf i).toNat)
  case atStart => exact ⟨0, 0, Nat.zero_le _, rfl, rfl, fun a h => absurd h (by omega)⟩
  case round =>
    obtain ⟨k, nd, hk, rfl, rfl, hp⟩ := hrel
    have HP := Lib.hid hp; clear hp
    by_cases hlt : k < M
    · obtain ⟨bX, oX, hAX⟩ := X1.adr (by omega)
      subst hAX
      have hlX := X1.len
      obtain ⟨hbX, cx⟩ := X1.cel (hOf_get hlX hlt)
      have hr := HG.out.g.rvl k hlt
      obtain ⟨-, cy⟩ := X1.cel (hOf_get hlX hr)
      have hx1 := HXR.out _ (List.mem_of_getElem? (hOf_get hlX hlt))
      have hc := HG.out.cp0 k hlt
      obtain ⟨bR, oR, hR⟩ := C1.gi.iR.adr (by omega)
      obtain ⟨bC, oC, hC⟩ := C1.iC.adr (by omega)
      obtain ⟨bB, oB, hB, hbB, cb⟩ := tab_bool C1.iB hlt
      dsimp only at hR hC hB
      subst hR; subst hC; subst hB
      obtain ⟨hbR, cr⟩ := tab_cell C1.gi.iR hlt
      obtain ⟨hbC, cc⟩ := C1.iC.cel (tab_at (g := cp) hlt)
      unfold InR at hx1
      unfold maxSum at hc
      have hno1 : hOf X k < 0 → ¬ BalN M rv cp bk X M := fun h h' => by have := (h' k hlt hlt).1; omega
      have hno2 : bk k = false → hOf X (rv k) ≠ cp k - hOf X k → ¬ BalN M rv cp bk X M := fun hb h h' => h ((h' k hlt hlt).2 hb)
      have hyes : ¬ hOf X k < 0 → (bk k = false → hOf X (rv k) = cp k - hOf X k) → BalN M rv cp bk X (k + 1) := fun h1 h2 a ha haM => by
        by_cases e : a = k
        · subst e; exact ⟨by omega, h2⟩
        · exact HP.out a (by omega) haM
      obtain ⟨x, hx⟩ : ∃ x, hOf X k = x := ⟨_, rfl⟩
      obtain ⟨y, hy⟩ : ∃ y, hOf X (rv k) = y := ⟨_, rfl⟩
      obtain ⟨c, hcp⟩ : ∃ c, cp k = c := ⟨_, rfl⟩
      obtain ⟨b, hbk⟩ : ∃ b, bk k = b := ⟨_, rfl⟩
      obtain ⟨q, hq⟩ : ∃ q, rv k = q := ⟨_, rfl⟩
      rw [hx] at cx hx1 hno1 hyes hno2
      rw [hy] at cy hno2 hyes
      rw [hcp] at cc hc hno2 hyes
      rw [hbk] at cb hno2 hyes
      rw [hq] at cr cy hr
      have HNO1 := Lib.hid hno1; have HNO2 := Lib.hid hno2; have HYES := Lib.hid hyes
      clear hno1 hno2 hyes hx hy hcp hbk hq
      have HC1 := Lib.hid C1; have HX1 := Lib.hid X1
      clear C1 X1
      by_cases hx0 : x < 0
      · go_wp2_with fail
        go_ret
        exact ⟨ret_bool (HF.out (HNO1.out hx0)), below_drewN' Bw _⟩
      · cases b with
        | true =>
          go_wp2_with fail
          go_quiet (fail)
          go_wp2_with fail
          go_roundw
          case rel => exact ⟨k + 1, nd + nq, by omega, by go_num, rfl, HYES.out hx0 (fun h => (by cases h))⟩
          case measure => simp [intOf]; omega
        | false =>
          have hw : IntKind.i64.wrap (c - x) = c - x := wrap_in (by omega) (by omega)
          by_cases hyc : y = c - x
          · have hyc' : (y != c - x) = false := by simpa using hyc
            go_wp2_with fail
            go_quiet (fail)
            go_wp2_with fail
            go_roundw
            case rel => exact ⟨k + 1, nd + nq, by omega, by go_num, rfl, HYES.out hx0 (fun _ => hyc)⟩
            case measure => simp [intOf]; omega
          · have hyc' : (y != c - x) = true := by simpa using hyc
            go_wp2_with fail
            go_quiet (fail)
            go_wp2_with fail
            go_ret
            exact ⟨ret_bool (HF.out (HNO2.out trivial hyc)), below_drewN' (below_drewN' Bw _) _⟩
    · obtain rfl : k = M := by omega
      go_wp2_with fail
      go_ret
      exact ⟨ret_bool (HT.out HP.out).symm, below_drewN' Bw _⟩

end Go.Proofs.Ytgjokddcaadjdaa
