/- Layer 9, plainly: two moves of unlike vertices. -/
import Derived.Test.YtanifbofjecpmaaRru
namespace Go.Proofs.Ytanifbofjecpmaa
open Go.RowKit
set_option maxRecDepth 100000

theorem ext_hOf {n : Nat} {L L' : List Int} (h : L.length = n) (h' : L'.length = n) (he : ∀ j, j < n → hOf L j = hOf L' j) : L = L' := by
  refine List.ext_getElem? fun i => ?_
  by_cases hi : i < n
  · rw [hOf_get h hi, hOf_get h' hi, he i hi]
  · rw [List.getElem?_eq_none (by omega), List.getElem?_eq_none (by omega)]
section
variable {N M s t : Nat} {fst hd rv ai : Nat → Nat} {cp : Nat → Int} {bk : Nat → Bool} {X E H : List Int} {d e : EvS}
theorem legI_mkP (h1 : isV N s t e.u) (h2 : e.what = 1) (h3 : inRow fst e) (h4 : pushFits X E H e) : legI N s t fst X E H e = 0 := by
  unfold legI chkP
  rw [if_pos h1, if_pos h2, if_pos h3, if_pos h4]
theorem legI_mkL (h1 : isV N s t e.u) (h2 : e.what = 2) (h4 : liftFits N H e) : legI N s t fst X E H e = 0 := by
  unfold legI chkL
  rw [if_pos h1, if_neg (by omega), if_pos h2, if_pos h4]
/-- What may be done may be done behind a move of another vertex. -/
theorem leg_after (hG : PNet N M s t fst hd rv ai cp bk) (hS : SndIs N M s t hd rv cp X E H) (h1 : legI N s t fst X E H d = 0) (h2 : legI N s t fst X E H e = 0) (hne : d.u ≠ e.u) :
    legI N s t fst (movX rv X d) (movE hd rv E d) (movH H d) e = 0 := by
  have hdv : isV N s t d.u := by
    rcases legI_what h1 with h | h
    · exact (legI_push h1 h).1
    · exact (legI_lift h1 h).1
  have hH : ∀ v : Nat, (v : Int) ≠ d.u → hOf (movH H d) v = hOf H v := fun v hv => by
    unfold movH
    split
    · have := hdv.1
      rw [hOf_put (by rw [hS.lh]; omega), if_neg (by omega)]
    · rfl
  rcases legI_what h2 with hw | hw
  · obtain ⟨hv, hr, hp⟩ := legI_push h2 hw
    obtain ⟨u, a, hu, ha, k1, k2, k3, k4, k5, k6, k7⟩ := push_lies hG hv hr
    obtain ⟨p1, p2, p3, p4, p5⟩ := hp
    refine legI_mkP hv hw hr ⟨p1, ?_, ?_, ?_, p5⟩
    · have := hS.less (fst := fst) hG h1 (v := e.u.toNat) (by omega)
      omega
    · refine Int.le_trans p3 ?_
      unfold movX
      split
      · omega
      · rename_i hw1
        have hw2 : d.what = 1 := by rcases legI_what h1 with h | h <;> omega
        obtain ⟨hv', hr', hp'⟩ := legI_push h1 hw2
        obtain ⟨u', a', hu', ha', j1, j2, j3, j4, j5, j6, j7⟩ := push_lies hG hv' hr'
        rw [ha, ha']
        simp only [Int.toNat_natCast]
        rw [mvX_at hG hS.bal.1 j4]
        have hp1 := hp'.1
        by_cases e1 : a = a'
        · subst e1; omega
        · rw [if_neg e1]
          split
          · rename_i e2; rw [e2]; omega
          · omega
    · rw [hH e.u.toNat (by omega)]; exact p4
  · obtain ⟨hv, hp⟩ := legI_lift h2 hw
    refine legI_mkL hv hw ⟨?_, hp.2⟩
    have := hv.1
    rw [hH e.u.toNat (by omega)]; exact hp.1
/-- Moves of unlike vertices come to the same in either order. -/
theorem mov_comm (hG : PNet N M s t fst hd rv ai cp bk) (hS : SndIs N M s t hd rv cp X E H) (h1 : legI N s t fst X E H d = 0) (h2 : legI N s t fst X E H e = 0) (hne : d.u ≠ e.u) :
    movX rv (movX rv X d) e = movX rv (movX rv X e) d ∧ movE hd rv (movE hd rv E d) e = movE hd rv (movE hd rv E e) d ∧ movH (movH H d) e = movH (movH H e) d := by
  unfold movX movE movH
  by_cases w1 : d.what = 2
  · rw [if_pos w1, if_pos w1, if_pos w1]
    by_cases w2 : e.what = 2
    · obtain ⟨hv, hp⟩ := legI_lift h1 w1
      obtain ⟨hv', hp'⟩ := legI_lift h2 w2
      rw [if_pos w2, if_pos w2, if_pos w2, if_pos w1, if_pos w1, if_pos w1, if_pos w2]
      have := hv.1; have := hv'.1
      exact ⟨rfl, rfl, List.set_comm _ _ (by omega)⟩
    · rw [if_neg w2, if_neg w2, if_neg w2, if_pos w1, if_pos w1, if_pos w1, if_neg w2]
      exact ⟨rfl, rfl, rfl⟩
  · rw [if_neg w1, if_neg w1, if_neg w1]
    by_cases w2 : e.what = 2
    · rw [if_pos w2, if_pos w2, if_pos w2, if_neg w1, if_neg w1, if_neg w1, if_pos w2]
      exact ⟨rfl, rfl, rfl⟩
    · rw [if_neg w2, if_neg w2, if_neg w2, if_neg w1, if_neg w1, if_neg w1, if_neg w2]
      obtain ⟨hv, hr, hp⟩ := legI_push h1 (by rcases legI_what h1 with h | h <;> omega)
      obtain ⟨hv', hr', hp'⟩ := legI_push h2 (by rcases legI_what h2 with h | h <;> omega)
      obtain ⟨u, a, hu, ha, k1, k2, k3, k4, k5, k6, k7⟩ := push_lies hG hv hr
      obtain ⟨u', a', hu', ha', j1, j2, j3, j4, j5, j6, j7⟩ := push_lies hG hv' hr'
      rw [ha, ha']
      simp only [Int.toNat_natCast]
      have hl := hS.bal.1
      have hl1 : (mvX rv X a d.d).length = M := by rw [mvX_len]; exact hl
      have hl2 : (mvX rv X a' e.d).length = M := by rw [mvX_len]; exact hl
      have hm1 : (mvE hd rv E a d.d).length = N := by rw [mvE_len]; exact hS.le
      have hm2 : (mvE hd rv E a' e.d).length = N := by rw [mvE_len]; exact hS.le
      have hne' : a ≠ a' := fun e => hne (by rw [hu, hu', ← k7, ← j7, e])
      have hrr := hG.g.rvv a k4; have hrr' := hG.g.rvv a' j4
      have hn1 := hG.rne k4; have hn2 := hG.rne j4
      refine ⟨ext_hOf (n := M) (by rw [mvX_len]; exact hl1) (by rw [mvX_len]; exact hl2) fun j hj => ?_, ext_hOf (n := N) (by rw [mvE_len]; exact hm1) (by rw [mvE_len]; exact hm2) fun v hv => ?_, trivial⟩
      · have hinj : rv a ≠ rv a' := fun e => hne' (by rw [← hrr, ← hrr', e])
        rw [mvX_at hG hl1 j4, mvX_at hG hl2 k4, mvX_at hG hl k4, mvX_at hG hl k4, mvX_at hG hl k4, mvX_at hG hl j4, mvX_at hG hl j4, mvX_at hG hl j4]
        by_cases c1 : j = a
        · subst c1
          by_cases c2 : j = rv a'
          · simp [← c2, hne']
            omega
          · simp [hne', c2]
        · by_cases c2 : j = a'
          · subst c2
            by_cases c3 : j = rv a
            · simp [← c3, c1]
              omega
            · simp [c1, c3]
          · by_cases c3 : j = rv a
            · subst c3
              have c5 : ¬ rv a = a' := c2
              simp [c1, c2, hinj]
            · by_cases c4 : j = rv a'
              · subst c4
                simp [c1, c2, c3]
              · simp [c1, c2, c3, c4]
      · rw [mvE_at hG hm1 j4, mvE_at hG hm2 k4, mvE_at hG hS.le k4, mvE_at hG hS.le j4]
        omega
/-- Two runs of two moves. -/
theorem run_two (hG : PNet N M s t fst hd rv ai cp bk) (hS : SndIs N M s t hd rv cp X E H) (h1 : legI N s t fst X E H d = 0) (h2 : legI N s t fst X E H e = 0) (hne : d.u ≠ e.u) :
    runTo N s t fst hd rv [d, e] X E H = ⟨movX rv (movX rv X d) e, movE hd rv (movE hd rv E d) e, movH (movH H d) e, 2, 0⟩ ∧ runTo N s t fst hd rv [e, d] X E H = ⟨movX rv (movX rv X d) e, movE hd rv (movE hd rv E d) e, movH (movH H d) e, 2, 0⟩ := by
  obtain ⟨c1, c2, c3⟩ := mov_comm hG hS h1 h2 hne
  constructor
  · simp only [runTo, if_pos h1, if_pos (leg_after hG hS h1 h2 hne)]
  · simp only [runTo, if_pos h2, if_pos (leg_after hG hS h2 h1 (Ne.symm hne))]
    rw [c1, c2, c3]
theorem run_two_n (h : (runTo N s t fst hd rv [d, e] X E H).n = 2) : legI N s t fst X E H d = 0 := by
  apply Classical.byContradiction
  intro hc
  simp only [runTo, if_neg hc] at h
  cases h
theorem run_or (hG : PNet N M s t fst hd rv ai cp bk) (hS : SndIs N M s t hd rv cp X E H) (hne : d.u ≠ e.u) :
    (legI N s t fst X E H d = 0 ∧ legI N s t fst X E H e = 0 ∧ runTo N s t fst hd rv [d, e] X E H = runTo N s t fst hd rv [e, d] X E H ∧ (runTo N s t fst hd rv [d, e] X E H).n = 2) ∨
      ((legI N s t fst X E H d ≠ 0 ∨ legI N s t fst X E H d = 0 ∧ legI N s t fst X E H e ≠ 0) ∧ ((runTo N s t fst hd rv [d, e] X E H).n ≠ 2 ∨ (runTo N s t fst hd rv [d, e] X E H).n = 2 ∧ (runTo N s t fst hd rv [e, d] X E H).n ≠ 2)) := by
  by_cases h1 : legI N s t fst X E H d = 0
  · by_cases h2 : legI N s t fst X E H e = 0
    · obtain ⟨r1, r2⟩ := run_two hG hS h1 h2 hne
      exact .inl ⟨h1, h2, by rw [r1, r2], by rw [r1]⟩
    · refine .inr ⟨.inr ⟨h1, h2⟩, ?_⟩
      by_cases h3 : (runTo N s t fst hd rv [d, e] X E H).n = 2
      · exact .inr ⟨h3, fun h => h2 (run_two_n h)⟩
      · exact .inl h3
  · exact .inr ⟨.inl h1, .inl fun h => h1 (run_two_n h)⟩
end
end Go.Proofs.Ytanifbofjecpmaa
