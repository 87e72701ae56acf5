/- Layer 9: the document's own Legal. -/
import Derived.BigQuiet
import Derived.Test.YtanifbofjecpmaaRlc
namespace Go.Proofs.Ytanifbofjecpmaa
open Go.RowKit
set_option maxRecDepth 100000

section
variable {N s t : Nat} {fst : Nat → Nat} {X E H : List Int} {e : EvS}
theorem legI_else (h : e.what ≠ 1) (h2 : e.what ≠ 2) : legI N s t fst X E H e = 2 := by
  unfold legI
  rw [if_neg h, if_neg h2]
  split <;> rfl
theorem legI_out (h : ¬ isV N s t e.u) : legI N s t fst X E H e = 2 := by
  unfold legI
  rw [if_neg h]
theorem legI_L (h : isV N s t e.u) (hw : e.what = 2) : legI N s t fst X E H e = chkL N H e := by
  unfold legI
  rw [if_pos h, if_neg (by omega), if_pos hw]
theorem legI_P (h : isV N s t e.u) (hw : e.what = 1) : legI N s t fst X E H e = chkP fst X E H e := by
  unfold legI
  rw [if_pos h, if_pos hw]
end

set_option maxHeartbeats 16000000 in
theorem tlegal_is (N M s t : Nat) (K : CsrS) (Q : PreS) (fst hd rv : Nat → Nat) (X E H : List Int) (ev : EvS) (w : World) (hG : Grid N M fst hd rv) (hI : GridIn w w.heap.size N M K fst hd rv) (hQ : StIn w w.heap.size M N N Q X E H) (hN : N ≤ 4096) :
    Calls Try.prog 39 #[csrW N M s t K, preW M N N Q, evW ev] w fun e' w' => e' = .returned (.int .i64 (legI N s t fst X E H ev)) ∧ Below w.heap.size w w' := by
  obtain ⟨AF, cF, AH, cH, AR, cR, AC, cC, AA, cA, AB, cB⟩ := K
  obtain ⟨AX, cX, AE, cE, AHH, cHH⟩ := Q
  obtain ⟨who, what, u, arc, d, h, low⟩ := ev
  obtain ⟨L, hL⟩ : ∃ L, legI N s t fst X E H ⟨who, what, u, arc, d, h, low⟩ = L := ⟨_, rfl⟩
  rw [hL]
  have HL := Lib.hid hL; have HG := Lib.hid hG; have HI := Lib.hid hI; have HQ := Lib.hid hQ
  clear hL hG hI hQ
  dsimp only [csrW, preW, evW]
  go_enter Try.func39, Try.ntmps39
  go_upto_region 1 with fail
  obtain ⟨w1, hw1⟩ : ∃ w1, (((w.alloc (.cells #[.int .i64 (N : Int), .int .i64 (s : Int), .int .i64 (t : Int), .slice AF (N + 1) cF, .slice AH M cH, .slice AR M cR, .slice AC M cC, .slice AA M cA, .slice AB M cB] 32)).alloc (.cells #[.slice AX M cX, .slice AE N cE, .slice AHH N cHH] 29)).alloc (.cells #[.int .i64 who, .int .u8 what, .int .i64 u, .int .i64 arc, .int .i64 d, .int .i64 h, .int .i64 low] 39)) = w1 := ⟨_, rfl⟩
  have B1 : Below w.heap.size w w1 := by rw [← hw1]; exact ((below_alloc _).alloc (by simp) _).alloc (by simp; omega) _
  have C1 : Blk w1 w.heap.size 32 #[.int .i64 (N : Int), .int .i64 (s : Int), .int .i64 (t : Int), .slice AF (N + 1) cF, .slice AH M cH, .slice AR M cR, .slice AC M cC, .slice AA M cA, .slice AB M cB] := by rw [← hw1]; exact ((Blk.new rfl).alloc _).alloc _
  have P1 : Blk w1 (w.heap.size + 1) 29 #[.slice AX M cX, .slice AE N cE, .slice AHH N cHH] := by rw [← hw1]; exact (Blk.new (by simp)).alloc _
  have E1 : Blk w1 (w.heap.size + 1 + 1) 39 #[.int .i64 who, .int .u8 what, .int .i64 u, .int .i64 arc, .int .i64 d, .int .i64 h, .int .i64 low] := by rw [← hw1]; exact Blk.new (by simp)
  have I1 := HI.out.on B1
  have Q1 := HQ.out.on B1
  rw [hw1]
  clear hw1
  obtain ⟨c0, c1, c2, c3, c4, c5, c6, c7, c8⟩ := C1.at9
  obtain ⟨⟨p0, p1, p2⟩, -, zp⟩ := P1.full3
  obtain ⟨e0, e1, e2, e3, e4, e5, e6⟩ := E1.at7
  have zc := C1.lt; have ze := E1.lt
  have HB1 := Lib.hid B1; have HI1 := Lib.hid I1; have HQ1 := Lib.hid Q1
  clear B1 C1 P1 E1 I1 Q1 HI HQ
  by_cases hw1 : what = 1 ∨ what = 2
  · skip
    rcases hw1 with hw1 | hw1
    · skip
      subst hw1
      by_cases hu0 : u < 0
      · obtain rfl : L = 2 := by rw [← HL.out]; exact legI_out (fun h => by have := h.1.1; dsimp only at this; omega)
        have d0 : decide (u < 0) = true := decide_eq_true hu0
        go_wp2_with fail
        go_ret
        exact ⟨rfl, HB1.out⟩
      have d0 : decide (u < 0) = false := decide_eq_false hu0
      by_cases hu1 : (N : Int) ≤ u
      · obtain rfl : L = 2 := by rw [← HL.out]; exact legI_out (fun h => by have := h.1.2; dsimp only at this; omega)
        have d1 : decide ((N : Int) ≤ u) = true := decide_eq_true hu1
        go_wp2_with fail
        go_ret
        exact ⟨rfl, HB1.out⟩
      have d1 : decide ((N : Int) ≤ u) = false := decide_eq_false hu1
      by_cases hu2 : u = (s : Int)
      · obtain rfl : L = 2 := by rw [← HL.out]; exact legI_out (fun h => h.2.1 hu2)
        have d2 : (u == (s : Int)) = true := by simpa using hu2
        clear hu2
        go_wp2_with fail
        go_ret
        exact ⟨rfl, HB1.out⟩
      have d2 : (u == (s : Int)) = false := by simpa using hu2
      by_cases hu3 : u = (t : Int)
      · obtain rfl : L = 2 := by rw [← HL.out]; exact legI_out (fun h => h.2.2 hu3)
        have d3 : (u == (t : Int)) = true := by simpa using hu3
        clear hu3
        go_wp2_with fail
        go_ret
        exact ⟨rfl, HB1.out⟩
      have d3 : (u == (t : Int)) = false := by simpa using hu3
      have hv : isV N s t u := ⟨⟨by omega, by omega⟩, hu2, hu3⟩
      have HVV := Lib.hid hv
      clear hu2 hu3 hv
      obtain ⟨bH, oH, hAH⟩ := HQ1.out.iH.adr (by omega)
      dsimp only at hAH
      subst hAH
      obtain ⟨zh, ch⟩ := HQ1.out.iH.cel (hOf_get HQ1.out.iH.len (show u.toNat < N by omega))
      obtain ⟨y, hy⟩ : ∃ y, hOf H u.toNat = y := ⟨_, rfl⟩
      rw [hy] at ch
      have HY := Lib.hid hy
      clear hy
      have hu4 : 0 ≤ u := by omega
      have hu5 : u < (N : Int) := by omega
      obtain ⟨bF, oF, hAF⟩ := HI1.out.iF.adr (by omega)
      dsimp only at hAF
      subst hAF
      obtain ⟨zf, cf⟩ := tab_cell HI1.out.iF (k := u.toNat) (by omega)
      obtain ⟨z, hz⟩ : ∃ z, u.toNat + 1 = z := ⟨_, rfl⟩
      obtain ⟨-, cg⟩ := tab_cell HI1.out.iF (k := z) (by omega)
      have hzw : IntKind.i64.wrap (u + 1) = (z : Int) := by rw [wrap_in (by omega) (by omega)]; omega
      have hz0 : (0 : Int) ≤ (z : Int) := by omega
      have hz1 : (z : Int) < (N : Int) + 1 := by omega
      have HZ := Lib.hid hz
      obtain ⟨f1, hf1⟩ : ∃ x : Int, (fst u.toNat : Int) = x := ⟨_, rfl⟩
      obtain ⟨f2, hf2⟩ : ∃ x : Int, (fst z : Int) = x := ⟨_, rfl⟩
      rw [hf1] at cf; rw [hf2] at cg
      have HF := Lib.hid (And.intro hf1 hf2)
      clear hz hf1 hf2
      have hrow : inRow fst ⟨who, 1, u, arc, d, h, low⟩ ↔ f1 ≤ arc ∧ arc < f2 := by
        unfold inRow
        dsimp only
        rw [HZ.out, HF.out.1, HF.out.2]
      have HRW := Lib.hid hrow
      clear hrow
      by_cases g1 : arc < f1
      · have g1' : decide (arc < f1) = true := decide_eq_true g1
        obtain rfl : L = 2 := by rw [← HL.out, legI_P HVV.out rfl]; unfold chkP; rw [if_neg (fun h => by have := (HRW.out.1 h).1; omega)]
        go_wp2_with fail
        go_quiet (fail)
        go_wp2_with fail
        go_ret
        exact ⟨rfl, below_drewN' HB1.out _⟩
      have g1' : decide (arc < f1) = false := decide_eq_false g1
      by_cases g2 : f2 ≤ arc
      · have g2' : decide (f2 ≤ arc) = true := decide_eq_true g2
        obtain rfl : L = 2 := by rw [← HL.out, legI_P HVV.out rfl]; unfold chkP; rw [if_neg (fun h => by have := (HRW.out.1 h).2; omega)]
        go_wp2_with fail
        go_quiet (fail)
        go_wp2_with fail
        go_ret
        exact ⟨rfl, below_drewN' HB1.out _⟩
      have g2' : decide (f2 ≤ arc) = false := decide_eq_false g2
      have hin := HRW.out.2 ⟨by omega, by omega⟩
      have hL2 : L = if pushFits X E H ⟨who, 1, u, arc, d, h, low⟩ then 0 else 30 := by rw [← HL.out, legI_P HVV.out rfl]; unfold chkP; rw [if_pos hin]
      have hfl := HG.out.fle (v := z) (by omega)
      have ha0 : 0 ≤ arc := by have := HF.out.1; omega
      have ha1 : arc < (M : Int) := by have := HF.out.2; omega
      have HL2 := Lib.hid hL2
      clear hL2 hin hfl
      obtain ⟨bX, oX, hAX⟩ := HQ1.out.iX.adr (by omega)
      dsimp only at hAX
      subst hAX
      obtain ⟨bE, oE, hAE⟩ := HQ1.out.iE.adr (by omega)
      dsimp only at hAE
      subst hAE
      obtain ⟨zx, cx⟩ := HQ1.out.iX.cel (hOf_get HQ1.out.iX.len (show arc.toNat < M by omega))
      obtain ⟨ze', ce⟩ := HQ1.out.iE.cel (hOf_get HQ1.out.iE.len (show u.toNat < N by omega))
      obtain ⟨x, hx⟩ : ∃ x, hOf X arc.toNat = x := ⟨_, rfl⟩
      obtain ⟨v, hv⟩ : ∃ v, hOf E u.toNat = v := ⟨_, rfl⟩
      rw [hx] at cx; rw [hv] at ce
      have hpf : pushFits X E H ⟨who, 1, u, arc, d, h, low⟩ ↔ 1 ≤ d ∧ d ≤ v ∧ d ≤ x ∧ h = y ∧ low < h := by
        unfold pushFits
        dsimp only
        rw [hv, hx, HY.out]
      have HPF := Lib.hid hpf
      clear hpf hx hv
      by_cases hq1 : d < 1
      · have q1' : decide (d < 1) = true := decide_eq_true hq1
        obtain rfl : L = 30 := by rw [HL2.out, if_neg (fun h => by have := (HPF.out.1 h).1; omega)]
        go_wp2_with fail
        go_quiet (fail)
        go_wp2_with fail
        go_quiet (fail)
        go_wp2_with fail
        go_ret
        exact ⟨rfl, below_drewN' (below_drewN' HB1.out _) _⟩
      have q1' : decide (d < 1) = false := decide_eq_false hq1
      by_cases hq2 : v < d
      · have q2' : decide (v < d) = true := decide_eq_true hq2
        obtain rfl : L = 30 := by rw [HL2.out, if_neg (fun h => by have := (HPF.out.1 h).2.1; omega)]
        go_wp2_with fail
        go_quiet (fail)
        go_wp2_with fail
        go_quiet (fail)
        go_wp2_with fail
        go_ret
        exact ⟨rfl, below_drewN' (below_drewN' HB1.out _) _⟩
      have q2' : decide (v < d) = false := decide_eq_false hq2
      by_cases hq3 : x < d
      · have q3' : decide (x < d) = true := decide_eq_true hq3
        obtain rfl : L = 30 := by rw [HL2.out, if_neg (fun h => by have := (HPF.out.1 h).2.2.1; omega)]
        go_wp2_with fail
        go_quiet (fail)
        go_wp2_with fail
        go_quiet (fail)
        go_wp2_with fail
        go_ret
        exact ⟨rfl, below_drewN' (below_drewN' HB1.out _) _⟩
      have q3' : decide (x < d) = false := decide_eq_false hq3
      by_cases hq4 : h ≠ y
      · have q4' : (h != y) = true := by simpa using hq4
        obtain rfl : L = 30 := by rw [HL2.out, if_neg (fun h => by exact hq4 (HPF.out.1 h).2.2.2.1)]
        clear hq4
        go_wp2_with fail
        go_quiet (fail)
        go_wp2_with fail
        go_quiet (fail)
        go_wp2_with fail
        go_ret
        exact ⟨rfl, below_drewN' (below_drewN' HB1.out _) _⟩
      have q4' : (h != y) = false := by simp only [ne_eq, Decidable.not_not] at hq4; simp [hq4]
      by_cases hq5 : h ≤ low
      · have q5' : decide (h ≤ low) = true := decide_eq_true hq5
        obtain rfl : L = 30 := by rw [HL2.out, if_neg (fun h => by have := (HPF.out.1 h).2.2.2.2; omega)]
        go_wp2_with fail
        go_quiet (fail)
        go_wp2_with fail
        go_quiet (fail)
        go_wp2_with fail
        go_ret
        exact ⟨rfl, below_drewN' (below_drewN' HB1.out _) _⟩
      have q5' : decide (h ≤ low) = false := decide_eq_false hq5
      obtain rfl : L = 0 := by rw [HL2.out, if_pos (HPF.out.2 ⟨by omega, by omega, by omega, Classical.not_not.1 hq4, by omega⟩)]
      clear hq4
      go_wp2_with fail
      go_quiet (fail)
      go_wp2_with fail
      go_quiet (fail)
      go_wp2_with fail
      go_ret
      exact ⟨rfl, below_drewN' (below_drewN' HB1.out _) _⟩
    · skip
      subst hw1
      by_cases hu0 : u < 0
      · obtain rfl : L = 2 := by rw [← HL.out]; exact legI_out (fun h => by have := h.1.1; dsimp only at this; omega)
        have d0 : decide (u < 0) = true := decide_eq_true hu0
        go_wp2_with fail
        go_ret
        exact ⟨rfl, HB1.out⟩
      have d0 : decide (u < 0) = false := decide_eq_false hu0
      by_cases hu1 : (N : Int) ≤ u
      · obtain rfl : L = 2 := by rw [← HL.out]; exact legI_out (fun h => by have := h.1.2; dsimp only at this; omega)
        have d1 : decide ((N : Int) ≤ u) = true := decide_eq_true hu1
        go_wp2_with fail
        go_ret
        exact ⟨rfl, HB1.out⟩
      have d1 : decide ((N : Int) ≤ u) = false := decide_eq_false hu1
      by_cases hu2 : u = (s : Int)
      · obtain rfl : L = 2 := by rw [← HL.out]; exact legI_out (fun h => h.2.1 hu2)
        have d2 : (u == (s : Int)) = true := by simpa using hu2
        clear hu2
        go_wp2_with fail
        go_ret
        exact ⟨rfl, HB1.out⟩
      have d2 : (u == (s : Int)) = false := by simpa using hu2
      by_cases hu3 : u = (t : Int)
      · obtain rfl : L = 2 := by rw [← HL.out]; exact legI_out (fun h => h.2.2 hu3)
        have d3 : (u == (t : Int)) = true := by simpa using hu3
        clear hu3
        go_wp2_with fail
        go_ret
        exact ⟨rfl, HB1.out⟩
      have d3 : (u == (t : Int)) = false := by simpa using hu3
      have hv : isV N s t u := ⟨⟨by omega, by omega⟩, hu2, hu3⟩
      have HVV := Lib.hid hv
      clear hu2 hu3 hv
      obtain ⟨bH, oH, hAH⟩ := HQ1.out.iH.adr (by omega)
      dsimp only at hAH
      subst hAH
      obtain ⟨zh, ch⟩ := HQ1.out.iH.cel (hOf_get HQ1.out.iH.len (show u.toNat < N by omega))
      obtain ⟨y, hy⟩ : ∃ y, hOf H u.toNat = y := ⟨_, rfl⟩
      rw [hy] at ch
      have HY := Lib.hid hy
      clear hy
      have hu4 : 0 ≤ u := by omega
      have hu5 : u < (N : Int) := by omega
      have hmw : IntKind.i64.wrap (2 * (N : Int)) = 2 * (N : Int) := wrap_in (by omega) (by omega)
      have hL2 : L = if liftFits N H ⟨who, 2, u, arc, d, h, low⟩ then 0 else 30 := by rw [← HL.out, legI_L HVV.out rfl]; rfl
      have hlf : liftFits N H ⟨who, 2, u, arc, d, h, low⟩ ↔ y < h ∧ h ≤ 2 * (N : Int) := by
        unfold liftFits
        dsimp only
        rw [HY.out]
      have HL2 := Lib.hid hL2; have HLF := Lib.hid hlf
      clear hL2 hlf
      by_cases hq1 : h ≤ y
      · have q1' : decide (h ≤ y) = true := decide_eq_true hq1
        obtain rfl : L = 30 := by rw [HL2.out, if_neg (fun h => by have := (HLF.out.1 h).1; omega)]
        go_wp2_with fail
        go_quiet (fail)
        go_wp2_with fail
        go_ret
        exact ⟨rfl, below_drewN' HB1.out _⟩
      have q1' : decide (h ≤ y) = false := decide_eq_false hq1
      by_cases hq2 : 2 * (N : Int) < h
      · have q2' : decide (2 * (N : Int) < h) = true := decide_eq_true hq2
        obtain rfl : L = 30 := by rw [HL2.out, if_neg (fun h => by have := (HLF.out.1 h).2; omega)]
        go_wp2_with fail
        go_quiet (fail)
        go_wp2_with fail
        go_ret
        exact ⟨rfl, below_drewN' HB1.out _⟩
      have q2' : decide (2 * (N : Int) < h) = false := decide_eq_false hq2
      obtain rfl : L = 0 := by rw [HL2.out, if_pos (HLF.out.2 ⟨by omega, by omega⟩)]
      go_wp2_with fail
      go_quiet (fail)
      go_wp2_with fail
      go_ret
      exact ⟨rfl, below_drewN' HB1.out _⟩
  · skip
    have hb1 : (what != 1) = true := by
      rw [bne_iff_ne]
      exact fun h => hw1 (.inl h)
    have hb2 : (what != 2) = true := by
      rw [bne_iff_ne]
      exact fun h => hw1 (.inr h)
    obtain rfl : L = 2 := by rw [← HL.out]; exact legI_else (fun h => hw1 (.inl h)) (fun h => hw1 (.inr h))
    clear hw1
    go_wp2_with fail
    go_ret
    exact ⟨rfl, HB1.out⟩
end Go.Proofs.Ytanifbofjecpmaa
