/- What Way tells, whatever is asked: dist's, and the document's answer. -/
import Derived.Test.YtdbfngamplkjeaaTella
import Derived.Test.YtdbfngamplkjeaaDway
namespace Go.Proofs.Ytdbfngamplkjeaa
open Go.RowKit
set_option maxRecDepth 100000

section
variable {N M : Nat} {fst hd rv : Nat → Nat} {X : List Int} {d d' : Nat → Nat}
theorem Near.congr {v a : Nat} (hG : Grid N M fst hd rv) (hs : ∀ v, v < N → d v = d' v) (hv : v < N) (h : Near fst hd X d v a) : Near fst hd X d' v a := by
  have hf := hG.fle (v := v + 1) (by omega)
  have h1 := h.hi
  refine ⟨h.lo, h.hi, h.op, ?_, fun a' h2 h3 h4 => ?_⟩
  · rw [← hs _ (hG.hdl a (by omega)), ← hs v hv]; exact h.dd
  · rw [← hs _ (hG.hdl a' (by omega)), ← hs v hv]; exact h.least a' h2 h3 h4
theorem WayOf.congr (hG : Grid N M fst hd rv) (hs : ∀ v, v < N → d v = d' v) : ∀ {W : List Nat} {v u : Nat} (_ : v < N) (_ : WayOf fst hd X d v W u), WayOf fst hd X d' v W u
  | [], _, _, _, h => h
  | a :: r, v, u, hv, h => by
    have hf := hG.fle (v := v + 1) (by omega)
    have h1 := h.1.hi
    exact ⟨h.1.congr hG hs hv, WayOf.congr hG hs (hG.hdl a (by omega)) h.2⟩
end
/-- What Way tells. -/
def WayAns (N M n : Nat) (fst hd rv : Nat → Nat) (X : List Int) (s t : Int) (l : List Int) (ok : Bool) : Prop :=
  (n = M ∧ ∃ sn tn : Nat, s = (sn : Int) ∧ t = (tn : Int) ∧ sn < N ∧ tn < N ∧ ∃ d, IsDist (linkOf true M hd rv X) N tn d ∧ ((d sn < N ∧ ok = true ∧ ∃ W, WayOf fst hd X d sn W tn ∧ l = W.map fun a : Nat => (a : Int)) ∨ (d sn = N ∧ ok = false ∧ l = []))) ∨
    ((n ≠ M ∨ ¬ (0 ≤ s ∧ s < (N : Int)) ∨ ¬ (0 ≤ t ∧ t < (N : Int))) ∧ ok = false ∧ l = [])
theorem WayAns.same {N M n : Nat} {fst hd rv : Nat → Nat} {X : List Int} {s t : Int} {l l' : List Int} {ok ok' : Bool} (hG : Grid N M fst hd rv) (h : WayAns N M n fst hd rv X s t l ok) (h' : WayAns N M n fst hd rv X s t l' ok') : ok = ok' ∧ l = l' := by
  rcases h with ⟨hn, sn, tn, hs, ht, hsN, htN, d, hD, hc⟩ | ⟨hn, rfl, rfl⟩
  · rcases h' with ⟨hn', sn', tn', hs', ht', hsN', htN', d', hD', hc'⟩ | ⟨hn', rfl, rfl⟩
    · obtain rfl : sn = sn' := by omega
      obtain rfl : tn = tn' := by omega
      have hsm := hD'.same hD fun _ _ _ _ => Iff.rfl
      have e := hsm sn hsN
      rcases hc with ⟨h1, rfl, W, hW, rfl⟩ | ⟨h1, rfl, rfl⟩
      · rcases hc' with ⟨h2, rfl, W', hW', rfl⟩ | ⟨h2, rfl, rfl⟩
        · have hW2 := hW'.congr hG hsm hsN
          have k1 := hW.len
          have k2 := hW2.len
          rw [hW.same hW2 (by omega)]
          exact ⟨rfl, rfl⟩
        · exfalso; omega
      · rcases hc' with ⟨h2, rfl, W', hW', rfl⟩ | ⟨h2, rfl, rfl⟩
        · exfalso; omega
        · exact ⟨rfl, rfl⟩
    · exfalso; omega
  · rcases h' with ⟨hn', sn', tn', hs', ht', hsN', htN', d', hD', hc'⟩ | ⟨hn', rfl, rfl⟩
    · exfalso; omega
    · exact ⟨rfl, rfl⟩
/-- A list and whether there is one are answered. -/
def RetPair (P : List Int → Bool → Prop) (w : World) (e : Ending) (w' : World) : Prop :=
  ∃ (A : Option Addr) (n c : Nat) (l : List Int) (ok : Bool), e = .returned (.tuple #[.slice A n c, .bool ok]) ∧ Ints w' w'.heap.size A n l ∧ n ≤ 1000000 ∧ P l ok ∧ Below w.heap.size w w'
theorem ret_pair {P : List Int → Bool → Prop} {w w' : World} (hP : P [] false) (hB : Below w.heap.size w w') : RetPair P w (.returned (.tuple #[.slice none 0 0, .bool false])) w' := ⟨none, 0, 0, [], false, rfl, RdBy.empty, by omega, hP, hB⟩

set_option maxHeartbeats 4000000 in
theorem dway_any (N M : Nat) (S T : Int) (K : CsrS) (fst hd rv : Nat → Nat) (AX : Option Addr) (n cX : Nat) (X : List Int) (s t : Int) (w : World) (hG : Grid N M fst hd rv) (hI : GridIn w w.heap.size N M K fst hd rv) (hX : Ints w w.heap.size AX n X) (hM : M ≤ 100000000) (hN : N ≤ 4096) :
    Calls Try.prog 11 #[csrW N M S T K, .slice AX n cX, .int .i64 s, .int .i64 t] w (RetPair (WayAns N M n fst hd rv X s t) w) := by
  by_cases hv : n = M ∧ (0 ≤ s ∧ s < (N : Int)) ∧ (0 ≤ t ∧ t < (N : Int))
  · obtain ⟨hn, hs, ht⟩ := hv
    subst hn
    obtain ⟨sn, rfl⟩ := Int.eq_ofNat_of_zero_le hs.1
    obtain ⟨tn, rfl⟩ := Int.eq_ofNat_of_zero_le ht.1
    refine (way_good N n S T K fst hd rv AX cX X sn tn w hG hI hX hM hN (by omega) (by omega)).mono ?_
    rintro e w' ⟨A, m, c, W, d, ok, rfl, hD, hok, I, h0, h1, B⟩
    have hlen := I.len
    have hle := hD.le sn (by omega)
    refine ⟨A, m, c, _, ok, rfl, I, ?_, .inl ⟨rfl, sn, tn, rfl, rfl, by omega, by omega, d, hD, ?_⟩, B⟩
    · by_cases hd : d sn < N
      · have := (h1 hd).len
        rw [List.length_map] at hlen
        omega
      · rw [h0 (by omega)] at hlen
        simp at hlen
        omega
    · by_cases hd : d sn < N
      · exact .inl ⟨hd, by rw [hok]; exact decide_eq_true hd, W, h1 hd, rfl⟩
      · exact .inr ⟨by omega, by rw [hok]; exact decide_eq_false hd, by rw [h0 (by omega)]; rfl⟩
  · have hP : WayAns N M n fst hd rv X s t [] false := .inr ⟨by omega, rfl, rfl⟩
    have HP := Lib.hid hP; have HG := Lib.hid hG; have HI := Lib.hid hI; have HX := Lib.hid hX; have HV := Lib.hid hv
    clear hP hG hI hX hv
    obtain ⟨AF, cF, AH, cH, AR, cR, AC, cC, AA, cA, AB, cB⟩ := K
    dsimp only [csrW]
    go_enter Try.func11, Try.ntmps11
    go_wp2_with fail
    refine (dto_any N M S T ⟨AF, cF, AH, cH, AR, cR, AC, cC, AA, cA, AB, cB⟩ fst hd rv AX n cX X t _ HG.out (HI.out.onAlloc _) (HX.out.onAlloc _) hM hN).mono ?_
    rintro e w1 ⟨A, m, c, l, rfl, I, hm, hA, B1⟩
    have hno : ¬ (0 ≤ s ∧ s < (m : Int)) := by
      have hl := I.len
      have := HV.out
      rcases hA with ⟨h1, tn, h2, h3, d, _, rfl⟩ | ⟨_, rfl⟩
      · rw [tab_len] at hl
        omega
      · simp at hl
        omega
    have HNO := Lib.hid hno
    have HB := Lib.hid (below_step (below_alloc (w := w) _) B1)
    clear hno I hA B1
    go_wp2_with fail
    go_quiet ((go_at_call 27; exact Calls.quiet_of_same (dindex_no HNO.out _)))
    go_wp2_with fail
    go_ret2
    exact ret_pair HP.out (below_drewN' HB.out _)

set_option maxHeartbeats 4000000 in
theorem ropen_is (N M : Nat) (S T : Int) (K : CsrS) (fst hd rv : Nat → Nat) (AX : Option Addr) (cX : Nat) (X : List Int) (u a : Nat) (ob : Bool) (w : World) (hG : Grid N M fst hd rv) (hI : GridIn w w.heap.size N M K fst hd rv) (hX : Ints w w.heap.size AX M X) (hN : N ≤ 4096) (hu : u < N) (h1 : fst u ≤ a) (h2 : a < fst (u + 1)) (ho : opn X a = ob) :
    Calls Try.prog 29 #[csrW N M S T K, .slice AX M cX, .int .i64 (u : Int), .int .i64 (a : Int)] w fun e w' => e = .returned (.bool ob) ∧ Below w.heap.size w w' := by
  obtain ⟨AF, cF, AH, cH, AR, cR, AC, cC, AA, cA, AB, cB⟩ := K
  dsimp only [csrW]
  have hf := hG.fle (v := u + 1) (by omega)
  obtain ⟨bF, oF, hAF⟩ := hI.iF.adr (by omega)
  dsimp only at hAF
  subst hAF
  obtain ⟨hbF, c0⟩ := tab_cell hI.iF (k := u) (by omega)
  obtain ⟨-, c1⟩ := tab_cell hI.iF (k := u + 1) (by omega)
  obtain ⟨bX, oX, x, rfl, hbX, hx, cx⟩ := intl_at hX (k := a) (by omega)
  rw [opn_at hx] at ho
  subst ho
  have hw : IntKind.i64.wrap ((u : Int) + 1) = (u : Int) + 1 := by rw [IntKind.wrap_i64]; omega
  have e1 : decide (fst u ≤ a) = true := decide_eq_true h1
  have e2 : decide (a < fst (u + 1)) = true := decide_eq_true h2
  have e3 : decide ((fst u : Int) ≤ (a : Int)) = true := decide_eq_true (by omega)
  have e4 : decide ((a : Int) < (fst (u + 1) : Int)) = true := decide_eq_true (by omega)
  clear hG hI hX hx
  generalize fst u = p at *
  generalize fst (u + 1) = q at *
  go_enter Try.func29, Try.ntmps29
  go_wp2_with fail
  go_ret
  exact ⟨rfl, below_alloc _⟩

theorem csr_keep3 {w W : World} {b : Nat} {t : TypeId} {v0 v1 v2 v3 v4 v5 v6 v7 v8 u1 u2 u3 : Value} {p1 p2 p3 : Addr} (C : Blk w b t #[v0, v1, v2, v3, v4, v5, v6, v7, v8]) (h1 : p1.block < w.heap.size ∧ w.cell? p1 = some u1) (h2 : p2.block < w.heap.size ∧ w.cell? p2 = some u2) (h3 : p3.block < w.heap.size ∧ w.cell? p3 = some u3) (B : Below w.heap.size w W) :
    Below w.heap.size w W ∧ W.cell? ⟨b, 0, none⟩ = some v0 ∧ W.cell? ⟨b, 1, none⟩ = some v1 ∧ W.cell? ⟨b, 2, none⟩ = some v2 ∧ W.cell? ⟨b, 3, none⟩ = some v3 ∧ W.cell? ⟨b, 4, none⟩ = some v4 ∧ W.cell? ⟨b, 5, none⟩ = some v5 ∧ W.cell? ⟨b, 6, none⟩ = some v6 ∧ W.cell? ⟨b, 7, none⟩ = some v7 ∧ W.cell? ⟨b, 8, none⟩ = some v8 ∧
      W.cell? p1 = some u1 ∧ W.cell? p2 = some u2 ∧ W.cell? p3 = some u3 := by
  obtain ⟨a0, a1, a2, a3, a4, a5, a6, a7, a8⟩ := (C.below B C.lt).at9
  exact ⟨B, a0, a1, a2, a3, a4, a5, a6, a7, a8, (B.cell h1.1).trans h1.2, (B.cell h2.1).trans h2.2, (B.cell h3.1).trans h3.2⟩

end Go.Proofs.Ytdbfngamplkjeaa
