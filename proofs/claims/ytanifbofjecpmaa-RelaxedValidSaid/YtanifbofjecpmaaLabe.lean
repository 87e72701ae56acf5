/- Layer 6: heights: sloping, Steep, Flat, Valid. -/
import Derived.Test.YtanifbofjecpmaaLabd
namespace Go.Proofs.Ytanifbofjecpmaa
open Go.RowKit
set_option maxRecDepth 100000

set_option maxHeartbeats 8000000 in
theorem slop1 (N M s t gc ga gh fq : Nat) (K : CsrS) (fst hd rv : Nat → Nat) (q : Int → Bool) (A : Option Addr) (n c : Nat) (X H : List Int) (k : Nat) (x : Int) (w : World) (hG : Grid N M fst hd rv) (hI : GridIn w w.heap.size N M K fst hd rv) (hA : Ints w w.heap.size A n H) (hH : HtIs N s t H) (hN : N ≤ 4096)
    (hk : k < M) (hx : X[k]? = some x) (Kc : Blk w gc 32 #[.int .i64 (N : Int), .int .i64 (s : Int), .int .i64 (t : Int), .slice K.AF (N + 1) K.cF, .slice K.AH M K.cH, .slice K.AR M K.cR, .slice K.AC M K.cC, .slice K.AA M K.cA, .slice K.AB M K.cB])
    (Ka : Blk w ga 94 #[.func (.func fq) #[] #[]]) (Kh : Blk w gh 27 #[.slice A n c])
    (hq : ∀ (y : Int) (W : World), Calls Try.prog fq #[.int .i64 y] W fun e w' => e = .returned (.bool (q y)) ∧ w' = W)
    (hqf : ∀ (xs : Array Value) (W : World), (callFunc fq xs).run Try.prog W = .ok (.enter fq xs) W) :
    Calls Try.prog 104 #[.int .i64 (k : Int), .int .i64 x, .pointer (some ⟨gc, 0, none⟩), .pointer (some ⟨ga, 0, none⟩), .pointer (some ⟨gh, 0, none⟩)] w fun e w' => e = .returned (.bool (slp s hd rv X H q k)) ∧ Below w.heap.size w w' := by
  have HSLP := Lib.hid (show slp s hd rv X H q k = (decide (0 < x) && decide (hd (rv k) ≠ s) && q (hOf H (hd (rv k)) - hOf H (hd k))) by unfold slp; rw [opn_at hx])
  have HHD := Lib.hid (hG.hdl k hk)
  have hrk := hG.rvl k hk
  have HU := Lib.hid (hG.hdl (rv k) hrk)
  have hln : N = n := hH.len.symm.trans hA.len
  subst hln
  obtain ⟨bA, oA, hAa⟩ := hA.adr (by have := HHD.out; omega)
  subst hAa
  have hAc := hA.2 (by have := HHD.out; omega)
  obtain ⟨bA', oA', he, hbA, hcell⟩ := hAc
  injection he with he
  injection he with e1 e2
  subst e1; subst e2
  have hcel : ∀ v, v < N → w.cell? ⟨bA, oA + v, none⟩ = some (.int .i64 (hOf H v)) := fun v hv => by simpa using hcell v _ (hOf_get hH.len hv) 0 _ rfl
  have cu := hcel _ HU.out
  have cv := hcel _ HHD.out
  have hbu := hH.bnd _ HU.out
  have hbv := hH.bnd _ HHD.out
  obtain ⟨AF, cF, AH, cH, AR, cR, AC, cC, AA, cA, AB, cB⟩ := K
  dsimp only at *
  obtain ⟨bH, oH, hHa⟩ := hI.iH.adr (by omega)
  dsimp only at hHa
  subst hHa
  obtain ⟨hb1, c1⟩ := tab_cell hI.iH hk
  have HG := Lib.hid hG; have HI := Lib.hid hI; have HQ := Lib.hid hq
  have HC := Lib.hid Kc; have HKA := Lib.hid Ka; have HKH := Lib.hid Kh
  have hUN := HU.out
  have hVN := HHD.out
  generalize hv : hd k = v at *
  generalize hu : hd (rv k) = u at *
  have HV := Lib.hid hv; have HUU := Lib.hid hu
  generalize hOf H u = y at *
  generalize hOf H v = z at *
  clear hv hu hG hI hq Kc Ka Kh hcel hcell hA hH hx hrk
  obtain ⟨a0, a1, a2, a3, a4, a5, a6, a7, a8⟩ := HC.out.at9
  have hz1 := HC.out.lt
  go_enter Try.func104, Try.ntmps104
  go_wp2_with fail
  refine (tail2_at N M s t ⟨AF, cF, some ⟨bH, oH, none⟩, cH, AR, cR, AC, cC, AA, cA, AB, cB⟩ fst hd rv k _ HG.out HI.out hk).mono ?_
  rintro e w1 ⟨rfl, B1⟩
  rw [HUU.out]
  have c1' : w1.cell? ⟨bH, oH + k, none⟩ = some (.int .i64 (v : Int)) := (B1.cell (by simpa using hb1)).trans c1
  have cu' : w1.cell? ⟨bA, oA + u, none⟩ = some (.int .i64 y) := (B1.cell (by simpa using hbA)).trans cu
  have cv' : w1.cell? ⟨bA, oA + v, none⟩ = some (.int .i64 z) := (B1.cell (by simpa using hbA)).trans cv
  have C1 := HC.out.below B1 HC.out.lt
  have D1 := HKA.out.below B1 HKA.out.lt
  have E1 := HKH.out.below B1 HKH.out.lt
  have hz := B1.size
  have HB1 := Lib.hid B1
  clear B1 c1 cu cv a0 a1 a2 a3 a4 a5 a6 a7 a8 HC HKA HKH HI HG
  obtain ⟨a0, a1, a2, a3, a4, a5, a6, a7, a8⟩ := C1.at9
  have d0 := D1.cell 0
  have e0 := E1.cell 0
  simp only [List.getElem?_toArray, List.getElem?_cons_zero] at d0 e0
  have hz1 := C1.lt; have hz2 := D1.lt; have hz3 := E1.lt
  clear C1 D1 E1
  by_cases h0 : 0 < x
  · by_cases h1 : u = s
    · subst h1
      have hv2 : (decide (0 < x) && decide (u ≠ u) && q (y - z)) = false := by simp
      rw [hv2] at HSLP
      go_wp2_with fail
      go_quiet (fail)
      go_wp2_with fail
      go_ret
      exact ⟨ret_bool (HSLP.out).symm, below_drewN' HB1.out _⟩
    · have h1' : ¬ (u : Int) = (s : Int) := by omega
      have h1b : ((u : Int) == (s : Int)) = false := beq_false_of_ne h1'
      have h1d : decide ((u : Int) = (s : Int)) = false := decide_eq_false h1'
      have hw : IntKind.i64.wrap (y - z) = y - z := wrap_any (by omega) (by omega)
      have hv2 : (decide (0 < x) && decide (u ≠ s) && q (y - z)) = q (y - z) := by simp [h0, h1]
      rw [hv2] at HSLP
      go_wp2_with fail
      go_quiet (exact Calls.quiet_of_same (HQ.out _ _))
      go_wp2_with fail
      go_ret
      exact ⟨ret_bool (by rw [HSLP.out, bne_iff_ne.2 h1']; rfl), below_drewN' HB1.out _⟩
  · have h0d : decide (0 < x) = false := decide_eq_false h0
    have hv2 : (decide (0 < x) && decide (u ≠ s) && q (y - z)) = false := by simp [h0]
    rw [hv2] at HSLP
    go_wp2_with fail
    go_quiet (fail)
    go_wp2_with fail
    go_ret
    exact ⟨ret_bool (HSLP.out).symm, below_drewN' HB1.out _⟩

set_option maxHeartbeats 8000000 in
theorem slop_is (N M s t fq : Nat) (K : CsrS) (fst hd rv : Nat → Nat) (q : Int → Bool) (AX : Option Addr) (nX cX : Nat) (X : List Int) (A : Option Addr) (n c : Nat) (H : List Int) (w : World) (hG : Grid N M fst hd rv) (hI : GridIn w w.heap.size N M K fst hd rv) (hX : Ints w w.heap.size AX nX X) (hA : Ints w w.heap.size A n H)
    (hs : s < N) (ht : t < N) (hN : N ≤ 4096) (hM : M ≤ 100000000)
    (hq : ∀ (y : Int) (W : World), Calls Try.prog fq #[.int .i64 y] W fun e w' => e = .returned (.bool (q y)) ∧ w' = W)
    (hqf : ∀ (xs : Array Value) (W : World), (callFunc fq xs).run Try.prog W = .ok (.enter fq xs) W) :
    Calls Try.prog 88 #[csrW N M s t K, .slice AX nX cX, .slice A n c, .func (.func fq) #[] #[]] w (RetSel (slps N M s t nX hd rv X H q) w) := by
  have HG := Lib.hid hG; have HI := Lib.hid hI; have HX := Lib.hid hX; have HA := Lib.hid hA; have HQ := Lib.hid hq; have HQF := Lib.hid hqf
  clear hG hI hX hA hq hqf
  obtain ⟨L, hL⟩ : ∃ L, slps N M s t nX hd rv X H q = L := ⟨_, rfl⟩
  rw [hL]
  have HL := Lib.hid hL
  obtain ⟨r, hr⟩ : ∃ r, (decide (nX = M) && htsB N s t H) = r := ⟨_, rfl⟩
  have HR := Lib.hid hr
  have hfit := fun W h1 h2 => lfit_is N M s t K fst hd rv AX nX cX A n c H W HG.out h1 h2 hs ht hN hM
  rw [hr] at hfit
  have HFIT := Lib.hid hfit
  obtain ⟨AF, cF, AH, cH, AR, cR, AC, cC, AA, cA, AB, cB⟩ := K
  dsimp only [csrW] at HFIT ⊢
  clear hL hr hfit
  go_enter Try.func88, Try.ntmps88
  go_wp2_with fail
  refine (HFIT.out _ (((HI.out.onAlloc _).onAlloc _).onAlloc _) (((HA.out.onAlloc _).onAlloc _).onAlloc _)).mono ?_
  rintro e w1 ⟨rfl, B1⟩
  cases r with
  | false =>
    have HB := Lib.hid (below_step (((below_alloc (w := w) _).alloc (by simp) _).alloc (by simp; omega) _) B1)
    have HN := Lib.hid (show L = [] by
      rw [← HL.out]; unfold slps
      rw [if_neg]
      have := HR.out
      simpa using this)
    clear B1
    go_wp2_with fail
    go_ret
    rw [HN.out]
    exact ⟨none, 0, rfl, World.ownsRow_nil _ _ _ _, HB.out⟩
  | true =>
    have hb : nX = M ∧ htsB N s t H = true := by have := HR.out; simpa using this
    obtain ⟨hnM, hrb⟩ := hb
    subst hnM
    have HH := Lib.hid (htsB_yes.1 hrb)
    have HN := Lib.hid (show L = selTo (slp s hd rv X H q) nX by
      rw [← HL.out]; unfold slps
      rw [if_pos ⟨rfl, hrb⟩])
    have Kc : Blk w1 w.heap.size 32 #[.int .i64 (N : Int), .int .i64 (s : Int), .int .i64 (t : Int), .slice AF (N + 1) cF, .slice AH nX cH, .slice AR nX cR, .slice AC nX cC, .slice AA nX cA, .slice AB nX cB] := (((Blk.new rfl).alloc _).alloc _).below B1 (by simp; omega)
    have Kh : Blk w1 (w.heap.size + 1) 27 #[.slice A n c] := ((Blk.new (by simp)).alloc _).below B1 (by simp <;> omega)
    have Ka : Blk w1 (w.heap.size + 1 + 1) 94 #[.func (.func fq) #[] #[]] := (Blk.new (by simp)).below B1 (by simp)
    have I1 := (((HI.out.onAlloc (.cells #[.int .i64 (N : Int), .int .i64 (s : Int), .int .i64 (t : Int), .slice AF (N + 1) cF, .slice AH nX cH, .slice AR nX cR, .slice AC nX cC, .slice AA nX cA, .slice AB nX cB] 32)).onAlloc (.cells #[.slice A n c] 27)).onAlloc (.cells #[.func (.func fq) #[] #[]] 94)).on B1
    have A1 := (((HA.out.onAlloc (.cells #[.int .i64 (N : Int), .int .i64 (s : Int), .int .i64 (t : Int), .slice AF (N + 1) cF, .slice AH nX cH, .slice AR nX cR, .slice AC nX cC, .slice AA nX cA, .slice AB nX cB] 32)).onAlloc (.cells #[.slice A n c] 27)).onAlloc (.cells #[.func (.func fq) #[] #[]] 94)).on B1
    have X1 := (((HX.out.onAlloc (.cells #[.int .i64 (N : Int), .int .i64 (s : Int), .int .i64 (t : Int), .slice AF (N + 1) cF, .slice AH nX cH, .slice AR nX cR, .slice AC nX cC, .slice AA nX cA, .slice AB nX cB] 32)).onAlloc (.cells #[.slice A n c] 27)).onAlloc (.cells #[.func (.func fq) #[] #[]] 94)).on B1
    have HB := Lib.hid (below_step (((below_alloc (w := w) (.cells #[.int .i64 (N : Int), .int .i64 (s : Int), .int .i64 (t : Int), .slice AF (N + 1) cF, .slice AH nX cH, .slice AR nX cR, .slice AC nX cC, .slice AA nX cA, .slice AB nX cB] 32)).alloc (by simp) (.cells #[.slice A n c] 27)).alloc (by simp; omega) (.cells #[.func (.func fq) #[] #[]] 94)) B1)
    have HKc := Lib.hid Kc; have HKh := Lib.hid Kh; have HKa := Lib.hid Ka; have HI1 := Lib.hid I1; have HA1 := Lib.hid A1; have HX1 := Lib.hid X1
    clear B1 Kc Kh Ka I1 A1 X1 hrb
    have hcf : ∀ (xs : Array Value) (W : World), (callFunc 104 xs).run Try.prog W = .ok (.enter 104 xs) W := fun xs W => by kernel_rfl
    have CH := Lib.hid (chosenl_is 104 #[.pointer (some ⟨w.heap.size, 0, none⟩), .pointer (some ⟨w.heap.size + 1 + 1, 0, none⟩), .pointer (some ⟨w.heap.size + 1, 0, none⟩)] (slp s hd rv X H q) AX nX cX X w1 HX1.out hM (fun k x W hk hx hB => slop1 N nX s t w.heap.size (w.heap.size + 1 + 1) (w.heap.size + 1) fq ⟨AF, cF, AH, cH, AR, cR, AC, cC, AA, cA, AB, cB⟩ fst hd rv q A n c X H k x W HG.out (HI1.out.on hB) (HA1.out.on hB) HH.out hN hk hx (HKc.out.below hB HKc.out.lt) (HKa.out.below hB HKa.out.lt) (HKh.out.below hB HKh.out.lt) HQ.out HQF.out) hcf)
    clear hcf HKc HKa HKh HI1 HA1 HX1
    go_wp2_with fail
    refine CH.out.mono ?_
    rintro e w2 ⟨AQ, cQ, rfl, hO, hB⟩
    have HO := Lib.hid hO; have HBB := Lib.hid (below_step HB.out hB)
    have HZ := Lib.hid HB.out.size
    clear hO hB
    obtain ⟨L', hL'⟩ : ∃ L', selTo (slp s hd rv X H q) nX = L' := ⟨_, rfl⟩
    rw [hL'] at HO HN ⊢
    clear hL'
    go_wp2_with fail
    go_ret
    rw [HN.out]
    exact ⟨AQ, cQ, rfl, own_less HO.out HZ.out, HBB.out⟩

set_option maxHeartbeats 400000 in
theorem steep1_is (y : Int) (W : World) : Calls Try.prog 89 #[.int .i64 y] W fun e w' => e = .returned (.bool (qSteep y)) ∧ w' = W := by
  unfold qSteep
  by_cases h : 1 < y
  all_goals
    go_enter Try.func89, Try.ntmps89
    go_wp2_with fail
    go_ret
    exact ⟨ret_bool (by simp [h]), rfl⟩

set_option maxHeartbeats 4000000 in
theorem lsteep_is (N M s t : Nat) (K : CsrS) (fst hd rv : Nat → Nat) (AX : Option Addr) (nX cX : Nat) (X : List Int) (A : Option Addr) (n c : Nat) (H : List Int) (w : World) (hG : Grid N M fst hd rv) (hI : GridIn w w.heap.size N M K fst hd rv) (hX : Ints w w.heap.size AX nX X) (hA : Ints w w.heap.size A n H)
    (hs : s < N) (ht : t < N) (hN : N ≤ 4096) (hM : M ≤ 100000000) :
    Calls Try.prog 64 #[csrW N M s t K, .slice AX nX cX, .slice A n c] w (RetSel (slps N M s t nX hd rv X H qSteep) w) := by
  have HI := Lib.hid hI; have HX := Lib.hid hX; have HA := Lib.hid hA
  have hcf : ∀ (xs : Array Value) (W : World), (callFunc 89 xs).run Try.prog W = .ok (.enter 89 xs) W := fun xs W => by kernel_rfl
  have hall := fun W h1 h2 h3 => slop_is N M s t 89 K fst hd rv qSteep AX nX cX X A n c H W hG h1 h2 h3 hs ht hN hM steep1_is hcf
  generalize slps N M s t nX hd rv X H qSteep = L at *
  have HALL := Lib.hid hall
  clear hI hX hA hcf hall
  obtain ⟨AF, cF, AH, cH, AR, cR, AC, cC, AA, cA, AB, cB⟩ := K
  dsimp only [csrW] at HALL ⊢
  go_enter Try.func64, Try.ntmps64
  go_wp2_with fail
  refine (HALL.out _ (HI.out.onAlloc _) (HX.out.onAlloc _) (HA.out.onAlloc _)).mono ?_
  rintro e w1 ⟨AQ, cQ, rfl, hO, hB⟩
  have HO := Lib.hid hO; have HBB := Lib.hid (below_step (below_alloc _) hB)
  clear hO hB
  go_wp2_with fail
  go_ret
  exact ⟨AQ, cQ, rfl, own_less HO.out (by simp), HBB.out⟩


/-- Do they fit, are they heights, and is none steep? -/
noncomputable def validB (N M s t nX : Nat) (hd rv : Nat → Nat) (X H : List Int) : Bool := (decide (nX = M) && htsB N s t H) && decide ((slps N M s t nX hd rv X H qSteep).length = 0)
theorem beq_nat (q : Nat) : ((q : Int) == 0) = decide (q = 0) := by rw [Bool.eq_iff_iff, beq_iff_eq, decide_eq_true_eq]; omega

set_option maxHeartbeats 4000000 in
theorem lvalid_is (N M s t : Nat) (K : CsrS) (fst hd rv : Nat → Nat) (AX : Option Addr) (nX cX : Nat) (X : List Int) (A : Option Addr) (n c : Nat) (H : List Int) (w : World) (hG : Grid N M fst hd rv) (hI : GridIn w w.heap.size N M K fst hd rv) (hX : Ints w w.heap.size AX nX X) (hA : Ints w w.heap.size A n H)
    (hs : s < N) (ht : t < N) (hN : N ≤ 4096) (hM : M ≤ 100000000) :
    Calls Try.prog 27 #[csrW N M s t K, .slice AX nX cX, .slice A n c] w fun e w' => e = .returned (.bool (validB N M s t nX hd rv X H)) ∧ Below w.heap.size w w' := by
  have HI := Lib.hid hI; have HX := Lib.hid hX; have HA := Lib.hid hA
  obtain ⟨v, hv⟩ : ∃ v, validB N M s t nX hd rv X H = v := ⟨_, rfl⟩
  rw [hv]
  have HV := Lib.hid hv
  have hfit := fun W h1 h2 => lfit_is N M s t K fst hd rv AX nX cX A n c H W hG h1 h2 hs ht hN hM
  have hall := fun W h1 h2 h3 => lsteep_is N M s t K fst hd rv AX nX cX X A n c H W hG h1 h2 h3 hs ht hN hM
  unfold validB at HV
  generalize slps N M s t nX hd rv X H qSteep = L at *
  generalize (decide (nX = M) && htsB N s t H) = r at *
  have HFIT := Lib.hid hfit; have HALL := Lib.hid hall
  clear hI hX hA hfit hall hv
  obtain ⟨AF, cF, AH, cH, AR, cR, AC, cC, AA, cA, AB, cB⟩ := K
  dsimp only [csrW] at HFIT HALL ⊢
  have Kc : Blk (w.alloc (.cells #[.int .i64 (N : Int), .int .i64 (s : Int), .int .i64 (t : Int), .slice AF (N + 1) cF, .slice AH M cH, .slice AR M cR, .slice AC M cC, .slice AA M cA, .slice AB M cB] 32)) w.heap.size 32 #[.int .i64 (N : Int), .int .i64 (s : Int), .int .i64 (t : Int), .slice AF (N + 1) cF, .slice AH M cH, .slice AR M cR, .slice AC M cC, .slice AA M cA, .slice AB M cB] := Blk.new rfl
  have HKc := Lib.hid Kc
  clear Kc
  go_enter Try.func27, Try.ntmps27
  go_wp2_with fail
  refine (HFIT.out _ (HI.out.onAlloc _) (HA.out.onAlloc _)).mono ?_
  rintro e w1 ⟨rfl, B1⟩
  have K1 := HKc.out.below B1 HKc.out.lt
  have I1 := (HI.out.onAlloc _).on B1
  have A1 := (HA.out.onAlloc _).on B1
  have X1 := (HX.out.onAlloc _).on B1
  have HB := Lib.hid (below_step (below_alloc _) B1)
  clear B1
  cases r with
  | false =>
    have HVF := Lib.hid (show false = v by have := HV.out; simpa using this)
    clear K1 I1 A1 X1
    go_wp2_with fail
    go_ret
    exact ⟨ret_bool HVF.out, HB.out⟩
  | true =>
    have HVF := Lib.hid (show decide (L.length = 0) = v by have := HV.out; simpa using this)
    obtain ⟨a0, a1, a2, a3, a4, a5, a6, a7, a8⟩ := K1.at9
    have hz1 := K1.lt
    have HI1 := Lib.hid I1; have HA1 := Lib.hid A1; have HX1 := Lib.hid X1
    clear K1 I1 A1 X1
    go_wp2_with fail
    refine (HALL.out _ HI1.out HX1.out HA1.out).mono ?_
    rintro e w2 ⟨AQ, cQ, rfl, hO, hB⟩
    have HBB := Lib.hid (below_step HB.out hB)
    generalize L.length = q at *
    clear hO hB a0 a1 a2 a3 a4 a5 a6 a7 a8 hz1
    go_wp2_with fail
    go_ret
    exact ⟨ret_bool (by rw [← HVF.out, beq_nat]), HBB.out⟩

section
variable {N M s t : Nat} {fst hd rv : Nat → Nat} {X H : List Int}
/-- No residual arc is steep: none leads down by more than one. -/
theorem steep_nil (hH : HtIs N s t H) : slps N M s t M hd rv X H qSteep = [] ↔ ∀ a, a < M → opn X a = true → hd (rv a) ≠ s → hOf H (hd (rv a)) ≤ hOf H (hd a) + 1 := by
  unfold slps
  rw [if_pos ⟨rfl, htsB_yes.2 hH⟩, sel_nil]
  constructor
  · intro h a ha ho hs
    have h1 := h a ha
    rw [Bool.eq_false_iff] at h1
    apply Classical.byContradiction
    intro hc
    exact h1 (slp_iff.2 ⟨ho, hs, by unfold qSteep; rw [decide_eq_true_eq]; omega⟩)
  · intro h a ha
    rw [Bool.eq_false_iff]
    intro hc
    obtain ⟨h1, h2, h3⟩ := slp_iff.1 hc
    have := h a ha h1 h2
    unfold qSteep at h3
    rw [decide_eq_true_eq] at h3
    omega
theorem valid_iff : validB N M s t M hd rv X H = true ↔ HtIs N s t H ∧ ∀ a, a < M → opn X a = true → hd (rv a) ≠ s → hOf H (hd (rv a)) ≤ hOf H (hd a) + 1 := by
  unfold validB
  rw [Bool.and_eq_true, Bool.and_eq_true, htsB_yes, decide_eq_true_eq, decide_eq_true_eq, List.length_eq_zero_iff]
  constructor
  · rintro ⟨⟨-, h1⟩, h2⟩
    exact ⟨h1, (steep_nil h1).1 h2⟩
  · rintro ⟨h1, h2⟩
    exact ⟨⟨rfl, h1⟩, (steep_nil h1).2 h2⟩
end
end Go.Proofs.Ytanifbofjecpmaa
