/- DistRows: the walk. -/
import Derived.Test.YtdbfngamplkjeaaDsteps
import Derived.Test.YtdbfngamplkjeaaMaps
namespace Go.Proofs.Ytdbfngamplkjeaa
open Go.RowKit Go.Maps
set_option maxRecDepth 100000

section
variable {N k u v i : Nat} {d : Nat → Nat} {R : Nat → Nat → Prop} {t : Nat}
theorem rowK_pw (d : Nat → Nat) (n k : Nat) : (rowK d n k).Pairwise (· < ·) := List.Pairwise.filter _ List.pairwise_lt_range
theorem rowK_lt {i j a b : Nat} (h : i < j) (ha : (rowK d N k)[i]? = some a) (hb : (rowK d N k)[j]? = some b) : a < b := by
  obtain ⟨hi, rfl⟩ := List.getElem?_eq_some_iff.1 ha
  obtain ⟨hj, rfl⟩ := List.getElem?_eq_some_iff.1 hb
  exact List.pairwise_iff_getElem.1 (rowK_pw d N k) i j hi hj h
theorem rowK_at {i a : Nat} (ha : (rowK d N k)[i]? = some a) : a < N ∧ d a = k := rowK_mem.1 (List.mem_of_getElem? ha)
theorem rowK_find {a : Nat} (h1 : a < N) (h2 : d a = k) : ∃ i : Nat, (rowK d N k)[i]? = some a := List.getElem?_of_mem (rowK_mem.2 ⟨h1, h2⟩)
/-- Up to row k, and in it up to vertex u, each vertex is met once. -/
def metF (d : Nat → Nat) (N k u : Nat) : Int → Option Int := fun x => if 0 ≤ x ∧ x < (N : Int) ∧ (d x.toNat < k ∨ (d x.toNat = k ∧ x.toNat < u)) then some 1 else none
/-- The first i of row k are those below u. -/
def Seen (d : Nat → Nat) (N k i u : Nat) : Prop := ∀ (j a : Nat), (rowK d N k)[j]? = some a → (a < u ↔ j < i)
theorem seen_zero : Seen d N k 0 0 := fun j a _ => by omega
theorem Seen.step (hv : (rowK d N k)[i]? = some v) : Seen d N k (i + 1) (v + 1) := by
  intro j a ha
  rcases Nat.lt_trichotomy j i with h | h | h
  · have := rowK_lt h ha hv
    omega
  · subst h
    rw [hv] at ha
    injection ha with ha
    omega
  · have := rowK_lt h hv ha
    omega
theorem met_new (h : Seen d N k i u) (hv : (rowK d N k)[i]? = some v) : metF d N k u (v : Int) = none := by
  unfold metF
  have h1 := (rowK_at hv).2
  have h2 := h i v hv
  rw [if_neg]
  rintro ⟨_, _, h3⟩
  rw [Int.toNat_natCast] at h3
  omega
theorem met_put (h : Seen d N k i u) (hv : (rowK d N k)[i]? = some v) (x : Int) : metF d N k (v + 1) x = (if x = (v : Int) then some 1 else metF d N k u x) := by
  obtain ⟨h1, h2⟩ := rowK_at hv
  by_cases e : x = (v : Int)
  · subst e
    rw [if_pos rfl]
    unfold metF
    rw [if_pos]
    rw [Int.toNat_natCast]
    omega
  · rw [if_neg e]
    unfold metF
    have key : (0 ≤ x ∧ x < (N : Int) ∧ (d x.toNat < k ∨ (d x.toNat = k ∧ x.toNat < v + 1))) ↔ (0 ≤ x ∧ x < (N : Int) ∧ (d x.toNat < k ∨ (d x.toNat = k ∧ x.toNat < u))) := by
      have hh : 0 ≤ x → x < (N : Int) → d x.toNat = k → (x.toNat < v + 1 ↔ x.toNat < u) := by
        intro h3 h4 h5
        obtain ⟨j, hj⟩ := rowK_find (N := N) (show x.toNat < N by omega) h5
        have h6 := h j _ hj
        have h7 := Seen.step hv j _ hj
        have h8 : j ≠ i := by
          intro e'
          subst e'
          rw [hv] at hj
          injection hj with hj
          omega
        omega
      constructor
      · rintro ⟨h3, h4, h5⟩
        refine ⟨h3, h4, ?_⟩
        rcases h5 with h5 | ⟨h5, h6⟩
        · exact .inl h5
        · exact .inr ⟨h5, (hh h3 h4 h5).1 h6⟩
      · rintro ⟨h3, h4, h5⟩
        refine ⟨h3, h4, ?_⟩
        rcases h5 with h5 | ⟨h5, h6⟩
        · exact .inl h5
        · exact .inr ⟨h5, (hh h3 h4 h5).2 h6⟩
    by_cases hc : 0 ≤ x ∧ x < (N : Int) ∧ (d x.toNat < k ∨ (d x.toNat = k ∧ x.toNat < u))
    · rw [if_pos hc, if_pos (key.2 hc)]
    · rw [if_neg hc, if_neg (fun h' => hc (key.1 h'))]
theorem met_end (h : Seen d N k i u) (hi : (rowK d N k).length = i) (x : Int) : metF d N (k + 1) 0 x = metF d N k u x := by
  unfold metF
  have key : (0 ≤ x ∧ x < (N : Int) ∧ (d x.toNat < k + 1 ∨ (d x.toNat = k + 1 ∧ x.toNat < 0))) ↔ (0 ≤ x ∧ x < (N : Int) ∧ (d x.toNat < k ∨ (d x.toNat = k ∧ x.toNat < u))) := by
    have hh : 0 ≤ x → x < (N : Int) → d x.toNat = k → x.toNat < u := by
      intro h3 h4 h5
      obtain ⟨j, hj⟩ := rowK_find (N := N) (show x.toNat < N by omega) h5
      have := (List.getElem?_eq_some_iff.1 hj).1
      exact (h j _ hj).2 (by omega)
    constructor
    · rintro ⟨h3, h4, h5⟩
      refine ⟨h3, h4, ?_⟩
      by_cases e : d x.toNat = k
      · exact .inr ⟨e, hh h3 h4 e⟩
      · exact .inl (by omega)
    · rintro ⟨h3, h4, h5⟩
      exact ⟨h3, h4, by omega⟩
  by_cases hc : 0 ≤ x ∧ x < (N : Int) ∧ (d x.toNat < k ∨ (d x.toNat = k ∧ x.toNat < u))
  · rw [if_pos hc, if_pos (key.2 hc)]
  · rw [if_neg hc, if_neg (fun h' => hc (key.1 h'))]
theorem met_none (x : Int) : metF d N 0 0 x = none := by
  unfold metF
  rw [if_neg]
  omega
theorem met_all (hv : v < N) : metF d N k 0 (v : Int) = if d v < k then some 1 else none := by
  unfold metF
  rw [Int.toNat_natCast]
  by_cases h : d v < k
  · rw [if_pos h, if_pos (by omega)]
  · rw [if_neg h, if_neg (by omega)]
/-- Each distance up to one that occurs occurs. -/
theorem IsDist.level (h : IsDist R N t d) (ht : t < N) : ∀ {j u : Nat}, u < N → d u < N → k ≤ d u → d u = k + j → ∃ x, x < N ∧ d x = k := by
  intro j
  induction j with
  | zero => intro u h1 _ _ h4; exact ⟨u, h1, h4⟩
  | succ j ih =>
    intro u h1 h2 h3 h4
    by_cases e : u = t
    · subst e
      rw [h.zero] at h4
      omega
    · obtain ⟨x, k1, _, k3⟩ := h.near u h1 h2 e
      exact ih k1 (by omega) (by omega) (by omega)
theorem row_some (h : IsDist R N t d) (ht : t < N) {L : List (List Nat)} (hR : RowsTo N d N L) (hk : k < L.length) : ∃ a, (rowK d N k)[0]? = some a ∧ 0 < (rowK d N k).length := by
  obtain ⟨u, h1, h2, h3⟩ := hR.low k hk
  obtain ⟨x, h4, h5⟩ := h.level ht h1 h2 h3 (j := d u - k) (by omega)
  obtain ⟨j, hj⟩ := rowK_find h4 h5
  have := (List.getElem?_eq_some_iff.1 hj).1
  exact ⟨_, List.getElem?_eq_getElem (by omega), by omega⟩
theorem row_first (h : IsDist R N t d) (ht : t < N) : rowK d N 0 = [t] := by
  obtain ⟨j, hj⟩ := rowK_find (N := N) ht h.zero
  have only : ∀ (j a : Nat), (rowK d N 0)[j]? = some a → a = t := fun j a ha => (h.zero_iff (rowK_at ha).1).1 (rowK_at ha).2
  have hl : (rowK d N 0).length = 1 := by
    have h1 := (List.getElem?_eq_some_iff.1 hj).1
    by_cases h2 : 1 < (rowK d N 0).length
    · have e0 := List.getElem?_eq_getElem (l := rowK d N 0) (i := 0) (by omega)
      have e1 := List.getElem?_eq_getElem h2
      have := rowK_lt (by omega) e0 e1
      have := only _ _ e0
      have := only _ _ e1
      omega
    · omega
  obtain ⟨a, ha⟩ := List.length_eq_one_iff.1 hl
  rw [ha]
  have := only 0 a (by rw [ha]; rfl)
  rw [this]
theorem rows_len {L : List (List Nat)} (hR : RowsTo N d N L) : L.length ≤ N := by
  rcases Nat.lt_or_ge N L.length with hc | hc
  · obtain ⟨u, h1, h2, h3⟩ := hR.low N hc
    omega
  · exact hc
theorem rowK_len (d : Nat → Nat) (N k : Nat) : (rowK d N k).length ≤ N := by
  have := List.length_filter_le (fun v => d v == k) (List.range N)
  simpa [rowK] using this
end

section
variable {κ : Type} {key : κ → Value} {P : Program} {kT eT : TypeId} {w w' : World} {b n : Nat} {m : κ → Option Int}
theorem MapsTo.cell_ne (h : MapsTo key P kT eT w b n m) {p : Addr} {v : Value} (hc : w.cell? p = some v) : some p.block ≠ some b := by
  intro e
  injection e with e
  obtain ⟨D, ⟨es, clock, hb, _⟩, _⟩ := h
  unfold World.cell? at hc
  rw [e, hb] at hc
  simp at hc
end
/-- All that reads in one world reads so in the other. -/
structure Keeps (w w' : World) : Prop where
  cell : ∀ (p : Addr) (v : Value), w.cell? p = some v → w'.cell? p = some v
  size : w.heap.size ≤ w'.heap.size
theorem Keeps.refl (w : World) : Keeps w w := ⟨fun _ _ h => h, Nat.le_refl _⟩
theorem Keeps.grown {κ : Type} {key : κ → Value} {P : Program} {kT eT : TypeId} {w0 w w' : World} {b n : Nat} {m : κ → Option Int} (h : Keeps w0 w) (hM : MapsTo key P kT eT w b n m) (hg : w.grownBy w' (some b)) : Keeps w0 w' :=
  ⟨fun p v hc => by have h1 := h.cell p v hc; exact hg.cell h1 (hM.cell_ne h1), Nat.le_trans h.size hg.size⟩

def intV (x : Int) : Value := .int .i64 x
theorem intV_inj : ∀ x y : Int, intV x = intV y → x = y := by
  intro x y h
  simpa [intV] using h
theorem zero_int (w : World) : (zeroValue 3).run Try.prog w = .ok (.int .i64 0) w := by kernel_rfl
theorem keyInt {x : Int} (h : InR x) : keyOf Try.prog 3 (intV x) = some (.int .i64 x) := keyOf_int_mk Try.underlying3 (wf_i64 h)

set_option maxHeartbeats 16000000 in
theorem drows_walk (N S T : Int) (A : Option Addr) (n c : Nat) (l : List ArcN) (AL : Option Addr) (nl cl : Nat) (L : List Int) (a : Nat) (w : World) (hA : Arcs w w.heap.size A n l) (hf : FitsAll l) (hnc : n ≤ c) (hL : Ints w w.heap.size AL nl L) (hLR : ∀ x ∈ L, InR x) (ha : a ≤ 255) :
    Calls Try.prog 8 #[.agg #[.int .i64 N, .int .i64 S, .int .i64 T, .slice A n c], .slice AL nl cl, .int .u8 (a : Int)] w fun e w' => e = .returned (.bool true) ∧ Below w.heap.size w w' := by
  have hso := fun W hW => some_any N S T A n c 16 40 l W hW hf hnc (by omega) (by omega) (by omega)
  obtain ⟨N1, hN1, hN2, hN3, hck, hln, hmem⟩ := some_net N S T 16 40 l (by omega) (by omega) (by omega)
  rw [hN1] at hso hck hln hmem
  generalize S % (N1 : Int) = S1 at *
  generalize someT (N1 : Int) S T = T1 at *
  generalize someL (N1 : Int) 40 l = l1 at *
  have HSO := Lib.hid hso; have HCK := Lib.hid hck; have HLR := Lib.hid hLR
  have HCAP := Lib.hid fun (x : ArcN) (hx : x ∈ l1) => (show 0 ≤ x.cap ∧ x.cap < 1125899906842624 by have := hmem x hx; omega)
  obtain ⟨t, ht⟩ : ∃ t, a % N1 = t := ⟨_, rfl⟩
  have htN : t < N1 := by rw [← ht]; exact Nat.mod_lt _ (by omega)
  have HT := Lib.hid ht
  clear hso hck hN1 hmem hLR ht
  go_enter Try.func8, Try.ntmps8
  go_wp2_with fail
  refine (HSO.out _ (hA.onAlloc _)).mono ?_
  rintro e w1 ⟨A1, n1, c1, rfl, o1, hl1, B1⟩
  have a1 := arcs_own o1 hl1
  have Bw1 := below_step (below_alloc _) B1
  have L1 := (hL.below Bw1).more Bw1.size
  clear B1 o1 hA hL HSO
  go_wp2_with fail
  refine (left_grid N1 S1 T1 A1 n1 c1 l1 AL nl cl L _ a1 HCK.out L1 HLR.out HCAP.out (by omega) (by omega)).mono ?_
  rintro e w2 ⟨M, K, fst, hd, rv, AX, cX, X, rfl, hG, G2, X2, ⟨hM, hXb⟩, B2⟩
  have Bw2 := below_step Bw1 B2
  have HG := Lib.hid hG; have HXB := Lib.hid hXb
  have hXl : X.length = M := X2.len
  clear B2 Bw1 a1 L1 hG hXb HCK HLR HCAP hl1 hln
  dsimp only [csrW]
  have hwa : IntKind.i64.wrap (a : Int) = (a : Int) := by rw [IntKind.wrap_i64]; omega
  have hn0 : ¬ N1 = 0 := by omega
  have hn0' : ¬ (N1 : Int) = 0 := by omega
  have ht : (a : Int) % (N1 : Int) = (t : Int) := by rw [← HT.out, Int.natCast_emod]
  have hmm := @run_makeMap Try.prog
  have KI := int_keyed (P := Try.prog) Try.underlying3
  go_wp2_with fail
  try simp only [ht]
  clear ht hwa
  have C3 : Blk (w2.alloc (.cells #[.int .i64 (N1 : Int), .int .i64 S1, .int .i64 T1, .slice K.AF (N1 + 1) K.cF, .slice K.AH M K.cH, .slice K.AR M K.cR, .slice K.AC M K.cC, .slice K.AA M K.cA, .slice K.AB M K.cB] 29)) w2.heap.size 29 #[.int .i64 (N1 : Int), .int .i64 S1, .int .i64 T1, .slice K.AF (N1 + 1) K.cF, .slice K.AH M K.cH, .slice K.AR M K.cR, .slice K.AC M K.cC, .slice K.AA M K.cA, .slice K.AB M K.cB] := Blk.new rfl
  have G3 := G2.onAlloc (.cells #[.int .i64 (N1 : Int), .int .i64 S1, .int .i64 T1, .slice K.AF (N1 + 1) K.cF, .slice K.AH M K.cH, .slice K.AR M K.cR, .slice K.AC M K.cC, .slice K.AA M K.cA, .slice K.AB M K.cB] 29)
  have X3 := X2.onAlloc (.cells #[.int .i64 (N1 : Int), .int .i64 S1, .int .i64 T1, .slice K.AF (N1 + 1) K.cF, .slice K.AH M K.cH, .slice K.AR M K.cR, .slice K.AC M K.cC, .slice K.AA M K.cA, .slice K.AB M K.cB] 29)
  have Bw3 := Bw2.alloc Bw2.size (.cells #[.int .i64 (N1 : Int), .int .i64 S1, .int .i64 T1, .slice K.AF (N1 + 1) K.cF, .slice K.AH M K.cH, .slice K.AR M K.cR, .slice K.AC M K.cC, .slice K.AA M K.cA, .slice K.AB M K.cB] 29)
  generalize w2.alloc (.cells #[.int .i64 (N1 : Int), .int .i64 S1, .int .i64 T1, .slice K.AF (N1 + 1) K.cF, .slice K.AH M K.cH, .slice K.AR M K.cR, .slice K.AC M K.cC, .slice K.AA M K.cA, .slice K.AB M K.cB] 29) = w3 at *
  clear G2 X2 Bw2
  refine (to_dist N1 M S1 T1 K fst hd rv AX cX X t _ HG.out G3 X3 (by omega) (by omega) htN).mono ?_
  rintro e w4 ⟨gD, d0, rfl, D4, hD4, -, B4⟩
  have C4 := C3.below B4 C3.lt
  have G4 := G3.on B4
  have X4 := X3.on B4
  have Bw4 := below_step Bw3 B4
  clear C3 G3 X3 Bw3 B4
  have HD4 := Lib.hid hD4
  clear hD4
  obtain ⟨a0, a1, a2, a3, a4, a5, a6, a7, a8⟩ := C4.at9
  have hz4 := C4.lt
  go_wp2_with fail
  clear a0 a1 a2 a3 a4 a5 a6 a7 a8 hz4 hmm
  refine (rows_good N1 M S1 T1 K fst hd rv AX cX X t _ HG.out (G4.onAlloc (.map #[] 0)) (X4.onAlloc (.map #[] 0)) (by omega) (by omega) htN).mono ?_
  rintro e w5 ⟨AR, nR, cR, LR, d, rfl, hD, hR, RA, B5⟩
  have M5 : MapsTo intV Try.prog 3 3 w5 w4.heap.size 0 (metF d N1 0 0) := ((MapsTo.made w4).kept (row := none) ⟨B5.os, B5.tape, B5.output, B5.size, fun k hk _ => B5.block k hk⟩ (by simp)).as fun x => met_none x
  have hsame := HD4.out.same hD fun _ _ _ _ => Iff.rfl
  rw [tab_same hsame] at D4
  have C5 := (C4.alloc (.map #[] 0)).below B5 (C4.alloc _).lt
  have D5 := (D4.onAlloc (.map #[] 0)).on B5
  have Bw5 := below_step (Bw4.alloc Bw4.size (.map #[] 0)) B5
  have hlR := RA.1
  have HZW := Lib.hid Bw4.size
  have HD := Lib.hid hD; have HR := Lib.hid hR; have HRA := Lib.hid RA; have HM5 := Lib.hid M5; have HC5 := Lib.hid C5; have HD5 := Lib.hid D5; have HB5 := Lib.hid Bw5
  have hnR := rows_len hR
  have HLR := Lib.hid hlR
  clear C4 G4 X4 Bw4 D4 B5 hD hR RA M5 hsame C5 D5 Bw5 HD4 hlR
  have hnN : nR ≤ N1 := by rw [← HLR.out]; exact hnR
  clear hnR
  have hzm := HM5.out.lt
  go_wp2_with fail
  go_loopw [40] (fun i wr => ∃ k cnt : Nat, k ≤ nR ∧ cnt ≤ k * 1001 ∧ i = .int .i64 k ∧ Keeps w5 wr ∧ Below w.heap.size w wr ∧ MapsTo intV Try.prog 3 3 wr w4.heap.size cnt (metF d N1 k 0)) (fun i _ => nR - (intOf i).toNat)
  case atStart => exact ⟨0, 0, Nat.zero_le _, Nat.zero_le _, rfl, Keeps.refl _, HB5.out, HM5.out⟩
  case round =>
    obtain ⟨k, cnt, hk, hcnt, rfl, hkp, hBr, hMr⟩ := hrel
    obtain ⟨w6, hw6⟩ := world_name hBr
    subst hw6
    by_cases hlt : k < nR
    · obtain ⟨bR, oR, hAR, hbR, hrow⟩ := HRA.out.2 (by omega)
      subst hAR
      obtain ⟨l, hl⟩ : ∃ l, LR[k]? = some l := ⟨_, List.getElem?_eq_getElem (by rw [HLR.out]; exact hlt)⟩
      obtain ⟨Ak, ck, cslice, hrk⟩ := hrow k l hl
      have hle := HR.out.ent k l hl
      have cs := hkp.cell _ _ cslice
      have hsz := hkp.size
      have HKP := Lib.hid hkp; have HBr := Lib.hid hBr; have HMr := Lib.hid hMr; have HLE := Lib.hid hle; have HRK := Lib.hid hrk
      have hll : l.length ≤ N1 := by rw [hle]; exact rowK_len d N1 k
      clear hkp hBr hMr hle hrk cslice hrow hl
      go_wp2_with fail
      go_loopw [47] (fun s wr => ∃ i u cnt2 : Nat, i ≤ l.length ∧ cnt2 ≤ k * 1001 + i ∧ s = .int .i64 i ∧ Seen d N1 k i u ∧ Keeps w5 wr ∧ Below w.heap.size w wr ∧ MapsTo intV Try.prog 3 3 wr w4.heap.size cnt2 (metF d N1 k u)) (fun s _ => l.length - (intOf s).toNat)
      case atStart => exact ⟨0, 0, cnt, Nat.zero_le _, by omega, rfl, seen_zero, HKP.out, HBr.out, HMr.out⟩
      case round =>
        clear HKP HBr HMr cs hsz
        obtain ⟨i, u, cnt2, hi, hcnt2, rfl, hseen, hkp, hBr, hM⟩ := hrel
        obtain ⟨w7, hw7⟩ := world_name hBr
        subst hw7
        have hsz := hkp.size
        by_cases hil : i < l.length
        · obtain ⟨v, hv⟩ : ∃ v, l[i]? = some v := ⟨_, List.getElem?_eq_getElem hil⟩
          obtain ⟨bk, ok, hAk⟩ := HRK.out.adr (by omega)
          subst hAk
          obtain ⟨hbk, cvv⟩ := HRK.out.cel (k := i) (x := (v : Int)) (by simp [hv])
          have cv := hkp.cell _ _ cvv
          have hv' := hv
          rw [HLE.out] at hv'
          obtain ⟨hvN, hdv⟩ := rowK_at hv'
          obtain ⟨hbD, cdd⟩ := tab_cell HD5.out hvN
          rw [Nat.zero_add, hdv] at cdd
          have cd := hkp.cell _ _ cdd
          have hne := met_new hseen hv'
          have hlk := hM.look (t := 48) KI Try.underlying48 Try.underlying3 (zero_int _) (keyInt (x := (v : Int)) (by unfold InR; omega))
          rw [hne] at hlk
          have hlk' : (Instr.lookup 48 (.map (some w4.heap.size)) (.int .i64 (v : Int)) false).run Try.prog w7 = .ok (.int .i64 0) w7 := hlk
          have HPUT := Lib.hid (met_put hseen hv')
          have HSE := Lib.hid (Seen.step hv')
          have HKP := Lib.hid hkp; have HBr := Lib.hid hBr; have HM := Lib.hid hM
          have hpv : Hid (∀ i', i = i' + 1 → ∃ p : Nat, p < v ∧ w7.cell? ⟨bk, ok + i', none⟩ = some (.int .i64 (p : Int))) := Lib.hid fun i' e => by
            subst e
            obtain ⟨p, hp⟩ : ∃ p, l[i']? = some p := ⟨_, List.getElem?_eq_getElem (by omega)⟩
            have hp' := hp
            rw [HLE.out] at hp'
            exact ⟨p, rowK_lt (Nat.lt_succ_self _) hp' hv', hkp.cell _ _ (HRK.out.cel (k := i') (x := (p : Int)) (by simp [hp])).2⟩
          clear hne hlk cvv cdd hv hv' hseen hkp hBr hM hdv
          have g1 : decide ((v : Int) < 0) = false := decide_eq_false (by omega)
          have g2 : decide ((N1 : Int) ≤ (v : Int)) = false := decide_eq_false (by omega)
          have hq : IntKind.i64.wrap (0 + 1) = 1 := by decide
          cases i with
          | zero =>
            rw [Nat.add_zero] at cv
            go_wp2_with (first
              | (at_mapUpdate
                 refine wpList_mapUpdate_to _ rfl _ _ _ 48 rfl HM.out KI intV_inj Try.underlying48 Try.underlying3 (by unfold maxLen; omega) (v : Int) _ (keyInt (by unfold InR; omega)) 1 (wf_i64 (by unfold InR; omega)) rfl rfl rfl ?_)
              | fail)
            intro w8 hM8 hg8
            clear hlk' cv cd
            go_wp2_with fail
            go_roundw
            case rel => exact ⟨0 + 1, v + 1, cnt2 + 1, by omega, by omega, by go_num, HSE.out, HKP.out.grown HM.out hg8, HBr.out.grown hg8 HBr.out.size (fun j hj => by injection hj with hj; have := HZW.out; omega), hM8.out.as HPUT.out⟩
            case measure => simp [intOf]; omega
          | succ i' =>
            obtain ⟨p, hp, cp⟩ := hpv.out i' rfl
            have g3 : decide ((v : Int) ≤ (p : Int)) = false := decide_eq_false (by omega)
            have g4 : decide (0 < ((i' + 1 : Nat) : Int)) = true := decide_eq_true (by omega)
            have g5 : IntKind.i64.wrap (((i' + 1 : Nat) : Int) - 1) = (i' : Int) := by rw [IntKind.wrap_i64]; omega
            go_wp2_with (first
              | (at_mapUpdate
                 refine wpList_mapUpdate_to _ rfl _ _ _ 48 rfl HM.out KI intV_inj Try.underlying48 Try.underlying3 (by unfold maxLen; omega) (v : Int) _ (keyInt (by unfold InR; omega)) 1 (wf_i64 (by unfold InR; omega)) rfl rfl rfl ?_)
              | fail)
            intro w8 hM8 hg8
            clear hlk' cv cd cp g5
            go_wp2_with fail
            go_roundw
            case rel => exact ⟨i' + 1 + 1, v + 1, cnt2 + 1, by omega, by omega, by go_num, HSE.out, HKP.out.grown HM.out hg8, HBr.out.grown hg8 HBr.out.size (fun j hj => by injection hj with hj; have := HZW.out; omega), hM8.out.as HPUT.out⟩
            case measure => simp [intOf]; omega
        · obtain rfl : i = l.length := by omega
          have hM' := hM.as (met_end hseen (by rw [HLE.out]))
          obtain ⟨a, ha, hpos⟩ := row_some HD.out htN HR.out (k := k) (by rw [HLR.out]; exact hlt)
          rw [← HLE.out] at hpos
          have HKP := Lib.hid hkp; have HBr := Lib.hid hBr; have HM := Lib.hid hM'
          have hzk : Hid (k = 0 → l = [t]) := Lib.hid fun e => by
            rw [HLE.out, e]
            exact row_first HD.out htN
          clear hM hM' hseen hBr ha
          have g1 : decide ((l.length : Int) = 0) = false := decide_eq_false (by omega)
          have g2 : ((l.length : Int) == 0) = false := beq_eq_false_iff_ne.2 (by omega)
          by_cases hk0 : k = 0
          · have hlt1 := hzk.out hk0
            subst hk0
            have hl1 : l.length = 1 := by rw [hlt1]; rfl
            obtain ⟨bk, ok, hAk⟩ := HRK.out.adr (by omega)
            subst hAk
            obtain ⟨hbk, cvv⟩ := HRK.out.cel (k := 0) (x := (t : Int)) (by simp [hlt1])
            have cv := hkp.cell _ _ cvv
            rw [Nat.add_zero] at cv
            clear hkp hlt1 hzk cvv
            go_wp2_with fail
            go_roundw
            case rel => exact ⟨0 + 1, cnt2, by omega, by omega, by go_num, HKP.out, HBr.out, HM.out⟩
            case measure => simp [intOf]; omega
          · have g3 : decide ((k : Int) = 0) = false := decide_eq_false (by omega)
            have g4 : ((k : Int) == 0) = false := beq_eq_false_iff_ne.2 (by omega)
            clear hkp hzk
            go_wp2_with fail
            go_roundw
            case rel => exact ⟨k + 1, cnt2, by omega, by omega, by go_num, HKP.out, HBr.out, HM.out⟩
            case measure => simp [intOf]; omega
    · obtain rfl : nR = k := by omega
      have HKP := Lib.hid hkp; have HBr := Lib.hid hBr; have HM := Lib.hid hMr
      have a0 := hkp.cell _ _ HC5.out.at9.1
      have hsz := hkp.size
      have hz5 := HC5.out.lt
      clear hkp hBr hMr HM5 HC5 HB5
      go_wp2_with fail
      go_loopw [113] (fun s wr => ∃ v : Nat, v ≤ N1 ∧ s = .int .i64 v ∧ wr = w6) (fun s _ => N1 - (intOf s).toNat)
      case atStart => exact ⟨0, Nat.zero_le _, rfl, rfl⟩
      case round =>
        obtain ⟨v, hv, rfl, rfl⟩ := hrel
        by_cases hvl : v < N1
        · obtain ⟨hbD, cdd⟩ := tab_cell HD5.out hvl
          rw [Nat.zero_add] at cdd
          have cd := HKP.out.cell _ _ cdd
          have hlk := HM.out.look (t := 48) KI Try.underlying48 Try.underlying3 (zero_int _) (keyInt (x := (v : Int)) (by unfold InR; omega))
          rw [met_all hvl] at hlk
          have htop := HR.out.top v hvl
          rw [HLR.out] at htop
          clear cdd
          generalize d v = x at *
          by_cases hx : x < N1
          · rw [if_pos (htop hx)] at hlk
            have hlk' : (Instr.lookup 48 (.map (some w4.heap.size)) (.int .i64 (v : Int)) false).run Try.prog wr = .ok (.int .i64 1) wr := hlk
            have g1 : decide ((x : Int) < (N1 : Int)) = true := decide_eq_true (by omega)
            clear hlk htop
            go_wp2_with fail
            go_roundw
            case rel => exact ⟨v + 1, by omega, by go_num, trivial⟩
            case measure => simp [intOf]; omega
          · rw [if_neg (by omega)] at hlk
            have hlk' : (Instr.lookup 48 (.map (some w4.heap.size)) (.int .i64 (v : Int)) false).run Try.prog wr = .ok (.int .i64 0) wr := hlk
            have g1 : decide ((x : Int) < (N1 : Int)) = false := decide_eq_false (by omega)
            clear hlk htop
            go_wp2_with fail
            go_roundw
            case rel => exact ⟨v + 1, by omega, by go_num, trivial⟩
            case measure => simp [intOf]; omega
        · clear a0
          go_wp2_with fail
          refine (awake5_any _).mono ?_
          rintro e w14 ⟨rfl, B14⟩
          go_wp2_with fail
          go_ret
          exact ⟨rfl, below_step HBr.out B14⟩

end Go.Proofs.Ytdbfngamplkjeaa
