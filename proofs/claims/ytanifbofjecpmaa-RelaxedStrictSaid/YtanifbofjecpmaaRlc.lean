/- Layer 9: check, Legal. -/
import Derived.Test.YtanifbofjecpmaaRlb
import Derived.Test.YtanifbofjecpmaaHxf
namespace Go.Proofs.Ytanifbofjecpmaa
open Go.RowKit Go.Shelf
set_option maxRecDepth 100000


set_option maxHeartbeats 4000000 in
theorem check_else (g b N M s t : Nat) (K : CsrS) (Q : PreS) (fst : Nat → Nat) (X E H : List Int) (e : EvS) (w : World) (hM : Mch w g b N M s t K M N N Q) (h1 : e.what ≠ 1) (h2 : e.what ≠ 2) :
    Calls Try.prog 42 #[.pointer (some ⟨g, 0, none⟩), evW e] w fun e' w' => e' = .returned (.int .i64 (legI N s t fst X E H e)) ∧ Below w.heap.size w w' := by
  have hbox := hM.box
  have hmap := hM.map
  have hl : legI N s t fst X E H e = 2 := by unfold legI; rw [if_neg h1, if_neg h2]; split <;> rfl
  rw [hl]
  clear hl hM
  obtain ⟨AF, cF, AH, cH, AR, cR, AC, cC, AA, cA, AB, cB⟩ := K
  obtain ⟨AX, cX, AE, cE, AHH, cHH⟩ := Q
  obtain ⟨who, what, eu, arc, d0, h0, low⟩ := e
  dsimp only [evW] at hbox h1 h2 ⊢
  have hgl := hbox.lt
  go_enter Try.func42, Try.ntmps42
  go_wp2_with fail
  obtain ⟨w1, hw1⟩ : ∃ w1, w.alloc (.cells #[.int .i64 who, .int .u8 what, .int .i64 eu, .int .i64 arc, .int .i64 d0, .int .i64 h0, .int .i64 low] 39) = w1 := ⟨_, rfl⟩
  have B1 : Below w.heap.size w w1 := by rw [← hw1]; exact below_alloc _
  have C1 : Blk w1 w.heap.size 39 #[.int .i64 who, .int .u8 what, .int .i64 eu, .int .i64 arc, .int .i64 d0, .int .i64 h0, .int .i64 low] := by rw [← hw1]; exact Blk.new rfl
  have M1 := hbox.below B1 hgl
  have K1 := (B1.block _ (Array.getElem?_eq_some_iff.1 hmap).1).trans hmap
  rw [hw1]
  clear hw1
  have hkeep : ∀ W', Below w1.heap.size w1 W' → Below w1.heap.size w1 W' ∧ W'.cell? ⟨g, 0, none⟩ = some (.int .i64 (N : Int)) ∧ W'.cell? ⟨g, 1, none⟩ = some (.int .i64 (s : Int)) ∧ W'.cell? ⟨g, 2, none⟩ = some (.int .i64 (t : Int)) ∧ W'.cell? ⟨g, 3, none⟩ = some (.slice AF (N + 1) cF) ∧ W'.cell? ⟨g, 4, none⟩ = some (.slice AH M cH) ∧ W'.cell? ⟨g, 5, none⟩ = some (.slice AR M cR) ∧ W'.cell? ⟨g, 6, none⟩ = some (.slice AC M cC) ∧ W'.cell? ⟨g, 7, none⟩ = some (.slice AA M cA) ∧ W'.cell? ⟨g, 8, none⟩ = some (.slice AB M cB) ∧ W'.cell? ⟨g, 9, none⟩ = some (.slice AX M cX) ∧ W'.cell? ⟨g, 10, none⟩ = some (.slice AE N cE) ∧ W'.cell? ⟨g, 11, none⟩ = some (.slice AHH N cHH) ∧ W'.cell? ⟨g, 12, none⟩ = some (.map (some b)) ∧ W'.cell? ⟨w.heap.size, 0, none⟩ = some (.int .i64 who) ∧ W'.cell? ⟨w.heap.size, 1, none⟩ = some (.int .u8 what) ∧ W'.cell? ⟨w.heap.size, 2, none⟩ = some (.int .i64 eu) ∧ W'.cell? ⟨w.heap.size, 3, none⟩ = some (.int .i64 arc) ∧ W'.cell? ⟨w.heap.size, 4, none⟩ = some (.int .i64 d0) ∧ W'.cell? ⟨w.heap.size, 5, none⟩ = some (.int .i64 h0) ∧ W'.cell? ⟨w.heap.size, 6, none⟩ = some (.int .i64 low) := fun W' hb => by
    obtain ⟨m0, m1, m2, m3, m4, m5, m6, m7, m8, m9, m10, m11, m12⟩ := (M1.below hb M1.lt).at13
    obtain ⟨e0, e1, e2, e3, e4, e5, e6⟩ := (C1.below hb C1.lt).at7
    exact ⟨hb, m0, m1, m2, m3, m4, m5, m6, m7, m8, m9, m10, m11, m12, e0, e1, e2, e3, e4, e5, e6⟩
  have HKEEP := Lib.hid hkeep
  have HB1 := Lib.hid B1
  obtain ⟨-, m0, m1, m2, m3, m4, m5, m6, m7, m8, m9, m10, m11, m12, e0, e1, e2, e3, e4, e5, e6⟩ := hkeep _ (Below.refl _ _)
  clear hkeep hbox hmap B1 C1 M1
  obtain ⟨z, hz⟩ := chk_none K1 h1 h2
  clear K1 h1 h2
  go_quiet (fail)
  clear hz
  go_wp2_with fail
  go_quiet (fail)
  go_wp2_with fail
  go_ret
  exact ⟨rfl, below_drewN' (below_drewN' HB1.out _) _⟩


theorem checkPush_is (g b N M s t u : Nat) (K : CsrS) (Q : PreS) (fst hd rv : Nat → Nat) (X E H : List Int) (e : EvS) (w : World) (hG : Grid N M fst hd rv) (hI : GridIn w w.heap.size N M K fst hd rv) (hM : Mch w g b N M s t K M N N Q) (hQ : StIn w w.heap.size M N N Q X E H) (he : e.u = u) (hu : u < N) :
    Calls Try.prog 70 #[.pointer (some ⟨g, 0, none⟩), evW e] w fun e' w' => e' = .returned (.int .i64 (chkP fst X E H e)) ∧ Below w.heap.size w w' := by
  have hr : inRow fst e ↔ ((fst u : Int) ≤ e.arc ∧ e.arc < fst (u + 1)) := by unfold inRow; rw [he]; exact Iff.rfl
  have hfl := hG.fle (v := u + 1) (by omega)
  by_cases ha : 0 ≤ e.arc ∧ e.arc < (M : Int)
  · obtain ⟨a, hea⟩ : ∃ a : Nat, e.arc = a := ⟨e.arc.toNat, by omega⟩
    have haM : a < M := by omega
    by_cases hv : hd (rv a) = u
    · have h1 := hG.row haM
      rw [hv] at h1
      unfold chkP
      rw [if_pos (hr.2 (by omega))]
      exact checkPush_row g b N M s t u K Q fst hd rv X E H e w hG hI hM hQ he hu a hea haM hv _ rfl
    · unfold chkP
      rw [if_neg (fun k => hv (hG.tail u a hu (by have := hr.1 k; omega) (by have := hr.1 k; omega)))]
      exact checkPush_else g b N M s t u K Q fst hd rv X E H e w hG hI hM hQ he hu a hea haM hv
  · unfold chkP
    rw [if_neg (fun k => ha (by have := hr.1 k; omega))]
    exact checkPush_none g b N M s t u K Q fst hd rv X E H e w hG hI hM hQ he hu ha


set_option maxHeartbeats 4000000 in
theorem check_push (g b N M s t : Nat) (K : CsrS) (Q : PreS) (fst hd rv : Nat → Nat) (X E H : List Int) (e : EvS) (w : World) (hG : Grid N M fst hd rv) (hI : GridIn w w.heap.size N M K fst hd rv) (hM : Mch w g b N M s t K M N N Q) (hQ : StIn w w.heap.size M N N Q X E H) (hN : N ≤ 4096) (hk : e.what = 1) :
    Calls Try.prog 42 #[.pointer (some ⟨g, 0, none⟩), evW e] w fun e' w' => e' = .returned (.int .i64 (legI N s t fst X E H e)) ∧ Below w.heap.size w w' := by
  have hbox := hM.box
  have hmap := hM.map
  have hmov := fun W (hb : Below w.heap.size w W) => moves_is g b N M s t M N N K Q e.u W (hM.below hb) _ rfl
  have HMV0 := Lib.hid hmov
  have hfit := fun W => rfit_is N M s t K M N N Q W hN true (by simp)
  have HF := Lib.hid hfit
  have hcall : isV N s t e.u → ∀ W, Below w.heap.size w W → Calls Try.prog 70 #[.pointer (some ⟨g, 0, none⟩), evW e] W fun e' w' => e' = .returned (.int .i64 (legI N s t fst X E H e)) ∧ Below W.heap.size W w' := fun hv W hb => by
    obtain ⟨u, hu⟩ : ∃ u : Nat, e.u = u := ⟨e.u.toNat, by have := hv.1; omega⟩
    have hl : legI N s t fst X E H e = chkP fst X E H e := by unfold legI; rw [if_pos hv]; rw [if_pos hk]
    rw [hl]
    exact checkPush_is g b N M s t u K Q fst hd rv X E H e W hG (hI.on hb) (hM.below hb) (hQ.on hb) hu (by have := hv.1; omega)
  have hno : ¬ isV N s t e.u → (2 : Int) = legI N s t fst X E H e := fun hv => by unfold legI; rw [if_neg hv]
  have HCH := Lib.hid hcall
  have HNO := Lib.hid hno
  obtain ⟨r, hr⟩ : ∃ r, legI N s t fst X E H e = r := ⟨_, rfl⟩
  rw [hr] at HCH HNO ⊢
  clear hmov hfit hcall hno hr hI hQ hM hG
  obtain ⟨AF, cF, AH, cH, AR, cR, AC, cC, AA, cA, AB, cB⟩ := K
  obtain ⟨AX, cX, AE, cE, AHH, cHH⟩ := Q
  obtain ⟨who, what, eu, arc, d0, h0, low⟩ := e
  dsimp only [evW, csrW, preW] at hbox hk HMV0 HF HCH HNO ⊢
  subst hk
  have hgl := hbox.lt
  go_enter Try.func42, Try.ntmps42
  go_wp2_with fail
  obtain ⟨w1, hw1⟩ : ∃ w1, w.alloc (.cells #[.int .i64 who, .int .u8 1, .int .i64 eu, .int .i64 arc, .int .i64 d0, .int .i64 h0, .int .i64 low] 39) = w1 := ⟨_, rfl⟩
  have B1 : Below w.heap.size w w1 := by rw [← hw1]; exact below_alloc _
  have C1 : Blk w1 w.heap.size 39 #[.int .i64 who, .int .u8 1, .int .i64 eu, .int .i64 arc, .int .i64 d0, .int .i64 h0, .int .i64 low] := by rw [← hw1]; exact Blk.new rfl
  have M1 := hbox.below B1 hgl
  have K1 := (B1.block _ (Array.getElem?_eq_some_iff.1 hmap).1).trans hmap
  rw [hw1]
  clear hw1
  have hkeep : ∀ W', Below w1.heap.size w1 W' → Below w1.heap.size w1 W' ∧ W'.cell? ⟨g, 0, none⟩ = some (.int .i64 (N : Int)) ∧ W'.cell? ⟨g, 1, none⟩ = some (.int .i64 (s : Int)) ∧ W'.cell? ⟨g, 2, none⟩ = some (.int .i64 (t : Int)) ∧ W'.cell? ⟨g, 3, none⟩ = some (.slice AF (N + 1) cF) ∧ W'.cell? ⟨g, 4, none⟩ = some (.slice AH M cH) ∧ W'.cell? ⟨g, 5, none⟩ = some (.slice AR M cR) ∧ W'.cell? ⟨g, 6, none⟩ = some (.slice AC M cC) ∧ W'.cell? ⟨g, 7, none⟩ = some (.slice AA M cA) ∧ W'.cell? ⟨g, 8, none⟩ = some (.slice AB M cB) ∧ W'.cell? ⟨g, 9, none⟩ = some (.slice AX M cX) ∧ W'.cell? ⟨g, 10, none⟩ = some (.slice AE N cE) ∧ W'.cell? ⟨g, 11, none⟩ = some (.slice AHH N cHH) ∧ W'.cell? ⟨g, 12, none⟩ = some (.map (some b)) ∧ W'.cell? ⟨w.heap.size, 0, none⟩ = some (.int .i64 who) ∧ W'.cell? ⟨w.heap.size, 1, none⟩ = some (.int .u8 1) ∧ W'.cell? ⟨w.heap.size, 2, none⟩ = some (.int .i64 eu) ∧ W'.cell? ⟨w.heap.size, 3, none⟩ = some (.int .i64 arc) ∧ W'.cell? ⟨w.heap.size, 4, none⟩ = some (.int .i64 d0) ∧ W'.cell? ⟨w.heap.size, 5, none⟩ = some (.int .i64 h0) ∧ W'.cell? ⟨w.heap.size, 6, none⟩ = some (.int .i64 low) := fun W' hb => by
    obtain ⟨m0, m1, m2, m3, m4, m5, m6, m7, m8, m9, m10, m11, m12⟩ := (M1.below hb M1.lt).at13
    obtain ⟨e0, e1, e2, e3, e4, e5, e6⟩ := (C1.below hb C1.lt).at7
    exact ⟨hb, m0, m1, m2, m3, m4, m5, m6, m7, m8, m9, m10, m11, m12, e0, e1, e2, e3, e4, e5, e6⟩
  have HKEEP := Lib.hid hkeep
  have HB1 := Lib.hid B1
  obtain ⟨-, m0, m1, m2, m3, m4, m5, m6, m7, m8, m9, m10, m11, m12, e0, e1, e2, e3, e4, e5, e6⟩ := hkeep _ (Below.refl _ _)
  clear hkeep hbox hmap B1 C1 M1
  have hz := chk_one K1
  clear K1
  have hmv := fun W (hb : Below w1.heap.size w1 W) => HMV0.out W (below_step HB1.out hb)
  have HMV := Lib.hid hmv
  clear hmv
  obtain ⟨c, hc⟩ : ∃ c, decide (isV N s t eu) = c := ⟨_, rfl⟩
  rw [hc] at HMV
  clear HMV0
  go_quiet (fail)
  clear hz
  go_wp2_with fail
  cases c
  · have HR := Lib.hid (HNO.out (of_decide_eq_false hc))
    clear hc HCH HNO
    refine wp_region_held_drew (S := fun W' => Below w1.heap.size w1 W' ∧ W'.cell? ⟨g, 0, none⟩ = some (.int .i64 (N : Int)) ∧ W'.cell? ⟨g, 1, none⟩ = some (.int .i64 (s : Int)) ∧ W'.cell? ⟨g, 2, none⟩ = some (.int .i64 (t : Int)) ∧ W'.cell? ⟨g, 3, none⟩ = some (.slice AF (N + 1) cF) ∧ W'.cell? ⟨g, 4, none⟩ = some (.slice AH M cH) ∧ W'.cell? ⟨g, 5, none⟩ = some (.slice AR M cR) ∧ W'.cell? ⟨g, 6, none⟩ = some (.slice AC M cC) ∧ W'.cell? ⟨g, 7, none⟩ = some (.slice AA M cA) ∧ W'.cell? ⟨g, 8, none⟩ = some (.slice AB M cB) ∧ W'.cell? ⟨g, 9, none⟩ = some (.slice AX M cX) ∧ W'.cell? ⟨g, 10, none⟩ = some (.slice AE N cE) ∧ W'.cell? ⟨g, 11, none⟩ = some (.slice AHH N cHH) ∧ W'.cell? ⟨g, 12, none⟩ = some (.map (some b)) ∧ W'.cell? ⟨w.heap.size, 0, none⟩ = some (.int .i64 who) ∧ W'.cell? ⟨w.heap.size, 1, none⟩ = some (.int .u8 1) ∧ W'.cell? ⟨w.heap.size, 2, none⟩ = some (.int .i64 eu) ∧ W'.cell? ⟨w.heap.size, 3, none⟩ = some (.int .i64 arc) ∧ W'.cell? ⟨w.heap.size, 4, none⟩ = some (.int .i64 d0) ∧ W'.cell? ⟨w.heap.size, 5, none⟩ = some (.int .i64 h0) ∧ W'.cell? ⟨w.heap.size, 6, none⟩ = some (.int .i64 low)) (by kernel_rfl) (HKEEP.out _ ((below_drewN' (Below.refl _ _) nq).drew)) (fun hS0 => ?_)
    refine tk (v := ?_) 0 17 rfl ?_ ?_
    rotate_left
    · (intro W hSw; obtain ⟨-, m0, m1, m2, m3, m4, m5, m6, m7, m8, m9, m10, m11, m12, e0, e1, e2, e3, e4, e5, e6⟩ := hSw; go_simp; try with_reducible rfl)
    simp only [Act.put, pa, pz, ps]
    refine tk (v := ?_) 1 18 rfl ?_ ?_
    rotate_left
    · (intro W hSw; obtain ⟨-, m0, m1, m2, m3, m4, m5, m6, m7, m8, m9, m10, m11, m12, e0, e1, e2, e3, e4, e5, e6⟩ := hSw; go_simp; try with_reducible rfl)
    simp only [Act.put, pa, pz, ps]
    refine tk (v := ?_) 2 19 rfl ?_ ?_
    rotate_left
    · (intro W hSw; obtain ⟨-, m0, m1, m2, m3, m4, m5, m6, m7, m8, m9, m10, m11, m12, e0, e1, e2, e3, e4, e5, e6⟩ := hSw; go_simp; try with_reducible rfl)
    simp only [Act.put, pa, pz, ps]
    first
      | (refine tk (v := ?_) 3 20 rfl ?_ ?_
         rotate_left
         · (intro W hSw; obtain ⟨-, m0, m1, m2, m3, m4, m5, m6, m7, m8, m9, m10, m11, m12, e0, e1, e2, e3, e4, e5, e6⟩ := hSw; go_simp; try with_reducible rfl))
      | (refine tu 3 20 rfl ?_)
    simp only [Act.put, pa, pz, ps]
    first
      | (refine tk (v := ?_) 4 21 rfl ?_ ?_
         rotate_left
         · (intro W hSw; obtain ⟨-, m0, m1, m2, m3, m4, m5, m6, m7, m8, m9, m10, m11, m12, e0, e1, e2, e3, e4, e5, e6⟩ := hSw; go_simp; try with_reducible rfl))
      | (refine tu 4 21 rfl ?_)
    simp only [Act.put, pa, pz, ps]
    first
      | (refine tk (v := ?_) 5 22 rfl ?_ ?_
         rotate_left
         · (intro W hSw; obtain ⟨-, m0, m1, m2, m3, m4, m5, m6, m7, m8, m9, m10, m11, m12, e0, e1, e2, e3, e4, e5, e6⟩ := hSw; go_simp; try with_reducible rfl))
      | (refine tu 5 22 rfl ?_)
    simp only [Act.put, pa, pz, ps]
    first
      | (refine tk (v := ?_) 6 23 rfl ?_ ?_
         rotate_left
         · (intro W hSw; obtain ⟨-, m0, m1, m2, m3, m4, m5, m6, m7, m8, m9, m10, m11, m12, e0, e1, e2, e3, e4, e5, e6⟩ := hSw; go_simp; try with_reducible rfl))
      | (refine tu 6 23 rfl ?_)
    simp only [Act.put, pa, pz, ps]
    first
      | (refine tk (v := ?_) 7 24 rfl ?_ ?_
         rotate_left
         · (intro W hSw; obtain ⟨-, m0, m1, m2, m3, m4, m5, m6, m7, m8, m9, m10, m11, m12, e0, e1, e2, e3, e4, e5, e6⟩ := hSw; go_simp; try with_reducible rfl))
      | (refine tu 7 24 rfl ?_)
    simp only [Act.put, pa, pz, ps]
    first
      | (refine tk (v := ?_) 8 25 rfl ?_ ?_
         rotate_left
         · (intro W hSw; obtain ⟨-, m0, m1, m2, m3, m4, m5, m6, m7, m8, m9, m10, m11, m12, e0, e1, e2, e3, e4, e5, e6⟩ := hSw; go_simp; try with_reducible rfl))
      | (refine tu 8 25 rfl ?_)
    simp only [Act.put, pa, pz, ps]
    first
      | (refine tk (v := ?_) 9 26 rfl ?_ ?_
         rotate_left
         · (intro W hSw; obtain ⟨-, m0, m1, m2, m3, m4, m5, m6, m7, m8, m9, m10, m11, m12, e0, e1, e2, e3, e4, e5, e6⟩ := hSw; go_simp; try with_reducible rfl))
      | (refine tu 9 26 rfl ?_)
    simp only [Act.put, pa, pz, ps]
    first
      | (refine tk (v := ?_) 10 27 rfl ?_ ?_
         rotate_left
         · (intro W hSw; obtain ⟨-, m0, m1, m2, m3, m4, m5, m6, m7, m8, m9, m10, m11, m12, e0, e1, e2, e3, e4, e5, e6⟩ := hSw; go_simp; try with_reducible rfl))
      | (refine tu 10 27 rfl ?_)
    simp only [Act.put, pa, pz, ps]
    refine wpAnyH_ready (rs := [11]) (by kernel_rfl) (by simp) ?_
    refine AllReadyH.cons rfl (fun K hK => ?_) AllReadyH.nil
    go_simp
    first
      | (go_at_call 31; ((with_reducible refine (HF.out _).mono ?_); rintro e W8 ⟨rfl, B8⟩); refine hK.out _ _ (by first | assumption | exact HKEEP.out _ (below_step hS0.1 B8)) (fun hS12 => ?_))
      | (refine hK.out _ _ (by assumption) (fun hS12 => ?_))
    clear hK K
    try simp only [Act.put, pa, pz, ps]
    first
      | (refine tk (v := ?_) 12 29 rfl ?_ ?_
         rotate_left
         · (intro W hSw; obtain ⟨-, m0, m1, m2, m3, m4, m5, m6, m7, m8, m9, m10, m11, m12, e0, e1, e2, e3, e4, e5, e6⟩ := hSw; go_simp; try with_reducible rfl))
      | (refine tu 12 29 rfl ?_)
    simp only [Act.put, pa, pz, ps]
    refine tk (v := ?_) 13 30 rfl ?_ ?_
    rotate_left
    · (intro W hSw; obtain ⟨-, m0, m1, m2, m3, m4, m5, m6, m7, m8, m9, m10, m11, m12, e0, e1, e2, e3, e4, e5, e6⟩ := hSw; go_simp; try with_reducible rfl)
    simp only [Act.put, pa, pz, ps]
    refine tk (v := ?_) 14 31 rfl ?_ ?_
    rotate_left
    · (intro W hSw; obtain ⟨-, m0, m1, m2, m3, m4, m5, m6, m7, m8, m9, m10, m11, m12, e0, e1, e2, e3, e4, e5, e6⟩ := hSw; go_simp; try with_reducible rfl)
    simp only [Act.put, pa, pz, ps]
    first
      | (refine tk (v := ?_) 15 32 rfl ?_ ?_
         rotate_left
         · (intro W hSw; obtain ⟨-, m0, m1, m2, m3, m4, m5, m6, m7, m8, m9, m10, m11, m12, e0, e1, e2, e3, e4, e5, e6⟩ := hSw; go_simp; try with_reducible rfl))
      | (refine tu 15 32 rfl ?_)
    simp only [Act.put, pa, pz, ps]
    first
      | (refine tk (v := ?_) 16 33 rfl ?_ ?_
         rotate_left
         · (intro W hSw; obtain ⟨-, m0, m1, m2, m3, m4, m5, m6, m7, m8, m9, m10, m11, m12, e0, e1, e2, e3, e4, e5, e6⟩ := hSw; go_simp; try with_reducible rfl))
      | (refine tu 16 33 rfl ?_)
    simp only [Act.put, pa, pz, ps]
    first
      | (refine tk (v := ?_) 17 34 rfl ?_ ?_
         rotate_left
         · (intro W hSw; obtain ⟨-, m0, m1, m2, m3, m4, m5, m6, m7, m8, m9, m10, m11, m12, e0, e1, e2, e3, e4, e5, e6⟩ := hSw; go_simp; try with_reducible rfl))
      | (refine tu 17 34 rfl ?_)
    simp only [Act.put, pa, pz, ps]
    refine wpAnyH_ready (rs := [18]) (by kernel_rfl) (by simp) ?_
    refine AllReadyH.cons rfl (fun K hK => ?_) AllReadyH.nil
    go_simp
    first
      | (go_at_call 73; ((with_reducible refine (HMV.out _ ?_).mono ?_); (first | exact hS12.1 | skip); rintro e W9 ⟨rfl, rfl⟩); refine hK.out _ _ (by first | assumption | exact HKEEP.out _ (below_step hS0.1 B8)) (fun hS19 => ?_))
      | (refine hK.out _ _ (by assumption) (fun hS19 => ?_))
    clear hK K
    try simp only [Act.put, pa, pz, ps]
    first
      | (refine tk (v := ?_) 19 36 rfl ?_ ?_
         rotate_left
         · (intro W hSw; obtain ⟨-, m0, m1, m2, m3, m4, m5, m6, m7, m8, m9, m10, m11, m12, e0, e1, e2, e3, e4, e5, e6⟩ := hSw; go_simp; try with_reducible rfl))
      | (refine tu 19 36 rfl ?_)
    simp only [Act.put, pa, pz, ps]
    refine tk (v := ?_) 20 37 rfl ?_ ?_
    rotate_left
    · (intro W hSw; obtain ⟨-, m0, m1, m2, m3, m4, m5, m6, m7, m8, m9, m10, m11, m12, e0, e1, e2, e3, e4, e5, e6⟩ := hSw; go_simp; try with_reducible rfl)
    simp only [Act.put, pa, pz, ps]
    refine wpAnyH_done (by kernel_rfl) ?_ _
    obtain ⟨hB, m0, m1, m2, m3, m4, m5, m6, m7, m8, m9, m10, m11, m12, e0, e1, e2, e3, e4, e5, e6⟩ := hS19
    go_wp2_with fail
    go_ret
    exact ⟨by rw [← HR.out]; rfl, below_step HB1.out hB⟩
  · have HR := Lib.hid (HCH.out (of_decide_eq_true hc))
    clear hc HCH HNO
    refine wp_region_held_drew (S := fun W' => Below w1.heap.size w1 W' ∧ W'.cell? ⟨g, 0, none⟩ = some (.int .i64 (N : Int)) ∧ W'.cell? ⟨g, 1, none⟩ = some (.int .i64 (s : Int)) ∧ W'.cell? ⟨g, 2, none⟩ = some (.int .i64 (t : Int)) ∧ W'.cell? ⟨g, 3, none⟩ = some (.slice AF (N + 1) cF) ∧ W'.cell? ⟨g, 4, none⟩ = some (.slice AH M cH) ∧ W'.cell? ⟨g, 5, none⟩ = some (.slice AR M cR) ∧ W'.cell? ⟨g, 6, none⟩ = some (.slice AC M cC) ∧ W'.cell? ⟨g, 7, none⟩ = some (.slice AA M cA) ∧ W'.cell? ⟨g, 8, none⟩ = some (.slice AB M cB) ∧ W'.cell? ⟨g, 9, none⟩ = some (.slice AX M cX) ∧ W'.cell? ⟨g, 10, none⟩ = some (.slice AE N cE) ∧ W'.cell? ⟨g, 11, none⟩ = some (.slice AHH N cHH) ∧ W'.cell? ⟨g, 12, none⟩ = some (.map (some b)) ∧ W'.cell? ⟨w.heap.size, 0, none⟩ = some (.int .i64 who) ∧ W'.cell? ⟨w.heap.size, 1, none⟩ = some (.int .u8 1) ∧ W'.cell? ⟨w.heap.size, 2, none⟩ = some (.int .i64 eu) ∧ W'.cell? ⟨w.heap.size, 3, none⟩ = some (.int .i64 arc) ∧ W'.cell? ⟨w.heap.size, 4, none⟩ = some (.int .i64 d0) ∧ W'.cell? ⟨w.heap.size, 5, none⟩ = some (.int .i64 h0) ∧ W'.cell? ⟨w.heap.size, 6, none⟩ = some (.int .i64 low)) (by kernel_rfl) (HKEEP.out _ ((below_drewN' (Below.refl _ _) nq).drew)) (fun hS0 => ?_)
    refine tk (v := ?_) 0 17 rfl ?_ ?_
    rotate_left
    · (intro W hSw; obtain ⟨-, m0, m1, m2, m3, m4, m5, m6, m7, m8, m9, m10, m11, m12, e0, e1, e2, e3, e4, e5, e6⟩ := hSw; go_simp; try with_reducible rfl)
    simp only [Act.put, pa, pz, ps]
    refine tk (v := ?_) 1 18 rfl ?_ ?_
    rotate_left
    · (intro W hSw; obtain ⟨-, m0, m1, m2, m3, m4, m5, m6, m7, m8, m9, m10, m11, m12, e0, e1, e2, e3, e4, e5, e6⟩ := hSw; go_simp; try with_reducible rfl)
    simp only [Act.put, pa, pz, ps]
    refine tk (v := ?_) 2 19 rfl ?_ ?_
    rotate_left
    · (intro W hSw; obtain ⟨-, m0, m1, m2, m3, m4, m5, m6, m7, m8, m9, m10, m11, m12, e0, e1, e2, e3, e4, e5, e6⟩ := hSw; go_simp; try with_reducible rfl)
    simp only [Act.put, pa, pz, ps]
    first
      | (refine tk (v := ?_) 3 20 rfl ?_ ?_
         rotate_left
         · (intro W hSw; obtain ⟨-, m0, m1, m2, m3, m4, m5, m6, m7, m8, m9, m10, m11, m12, e0, e1, e2, e3, e4, e5, e6⟩ := hSw; go_simp; try with_reducible rfl))
      | (refine tu 3 20 rfl ?_)
    simp only [Act.put, pa, pz, ps]
    first
      | (refine tk (v := ?_) 4 21 rfl ?_ ?_
         rotate_left
         · (intro W hSw; obtain ⟨-, m0, m1, m2, m3, m4, m5, m6, m7, m8, m9, m10, m11, m12, e0, e1, e2, e3, e4, e5, e6⟩ := hSw; go_simp; try with_reducible rfl))
      | (refine tu 4 21 rfl ?_)
    simp only [Act.put, pa, pz, ps]
    first
      | (refine tk (v := ?_) 5 22 rfl ?_ ?_
         rotate_left
         · (intro W hSw; obtain ⟨-, m0, m1, m2, m3, m4, m5, m6, m7, m8, m9, m10, m11, m12, e0, e1, e2, e3, e4, e5, e6⟩ := hSw; go_simp; try with_reducible rfl))
      | (refine tu 5 22 rfl ?_)
    simp only [Act.put, pa, pz, ps]
    first
      | (refine tk (v := ?_) 6 23 rfl ?_ ?_
         rotate_left
         · (intro W hSw; obtain ⟨-, m0, m1, m2, m3, m4, m5, m6, m7, m8, m9, m10, m11, m12, e0, e1, e2, e3, e4, e5, e6⟩ := hSw; go_simp; try with_reducible rfl))
      | (refine tu 6 23 rfl ?_)
    simp only [Act.put, pa, pz, ps]
    first
      | (refine tk (v := ?_) 7 24 rfl ?_ ?_
         rotate_left
         · (intro W hSw; obtain ⟨-, m0, m1, m2, m3, m4, m5, m6, m7, m8, m9, m10, m11, m12, e0, e1, e2, e3, e4, e5, e6⟩ := hSw; go_simp; try with_reducible rfl))
      | (refine tu 7 24 rfl ?_)
    simp only [Act.put, pa, pz, ps]
    first
      | (refine tk (v := ?_) 8 25 rfl ?_ ?_
         rotate_left
         · (intro W hSw; obtain ⟨-, m0, m1, m2, m3, m4, m5, m6, m7, m8, m9, m10, m11, m12, e0, e1, e2, e3, e4, e5, e6⟩ := hSw; go_simp; try with_reducible rfl))
      | (refine tu 8 25 rfl ?_)
    simp only [Act.put, pa, pz, ps]
    first
      | (refine tk (v := ?_) 9 26 rfl ?_ ?_
         rotate_left
         · (intro W hSw; obtain ⟨-, m0, m1, m2, m3, m4, m5, m6, m7, m8, m9, m10, m11, m12, e0, e1, e2, e3, e4, e5, e6⟩ := hSw; go_simp; try with_reducible rfl))
      | (refine tu 9 26 rfl ?_)
    simp only [Act.put, pa, pz, ps]
    first
      | (refine tk (v := ?_) 10 27 rfl ?_ ?_
         rotate_left
         · (intro W hSw; obtain ⟨-, m0, m1, m2, m3, m4, m5, m6, m7, m8, m9, m10, m11, m12, e0, e1, e2, e3, e4, e5, e6⟩ := hSw; go_simp; try with_reducible rfl))
      | (refine tu 10 27 rfl ?_)
    simp only [Act.put, pa, pz, ps]
    refine wpAnyH_ready (rs := [11]) (by kernel_rfl) (by simp) ?_
    refine AllReadyH.cons rfl (fun K hK => ?_) AllReadyH.nil
    go_simp
    first
      | (go_at_call 31; ((with_reducible refine (HF.out _).mono ?_); rintro e W8 ⟨rfl, B8⟩); refine hK.out _ _ (by first | assumption | exact HKEEP.out _ (below_step hS0.1 B8)) (fun hS12 => ?_))
      | (refine hK.out _ _ (by assumption) (fun hS12 => ?_))
    clear hK K
    try simp only [Act.put, pa, pz, ps]
    first
      | (refine tk (v := ?_) 12 29 rfl ?_ ?_
         rotate_left
         · (intro W hSw; obtain ⟨-, m0, m1, m2, m3, m4, m5, m6, m7, m8, m9, m10, m11, m12, e0, e1, e2, e3, e4, e5, e6⟩ := hSw; go_simp; try with_reducible rfl))
      | (refine tu 12 29 rfl ?_)
    simp only [Act.put, pa, pz, ps]
    refine tk (v := ?_) 13 30 rfl ?_ ?_
    rotate_left
    · (intro W hSw; obtain ⟨-, m0, m1, m2, m3, m4, m5, m6, m7, m8, m9, m10, m11, m12, e0, e1, e2, e3, e4, e5, e6⟩ := hSw; go_simp; try with_reducible rfl)
    simp only [Act.put, pa, pz, ps]
    refine tk (v := ?_) 14 31 rfl ?_ ?_
    rotate_left
    · (intro W hSw; obtain ⟨-, m0, m1, m2, m3, m4, m5, m6, m7, m8, m9, m10, m11, m12, e0, e1, e2, e3, e4, e5, e6⟩ := hSw; go_simp; try with_reducible rfl)
    simp only [Act.put, pa, pz, ps]
    first
      | (refine tk (v := ?_) 15 32 rfl ?_ ?_
         rotate_left
         · (intro W hSw; obtain ⟨-, m0, m1, m2, m3, m4, m5, m6, m7, m8, m9, m10, m11, m12, e0, e1, e2, e3, e4, e5, e6⟩ := hSw; go_simp; try with_reducible rfl))
      | (refine tu 15 32 rfl ?_)
    simp only [Act.put, pa, pz, ps]
    first
      | (refine tk (v := ?_) 16 33 rfl ?_ ?_
         rotate_left
         · (intro W hSw; obtain ⟨-, m0, m1, m2, m3, m4, m5, m6, m7, m8, m9, m10, m11, m12, e0, e1, e2, e3, e4, e5, e6⟩ := hSw; go_simp; try with_reducible rfl))
      | (refine tu 16 33 rfl ?_)
    simp only [Act.put, pa, pz, ps]
    first
      | (refine tk (v := ?_) 17 34 rfl ?_ ?_
         rotate_left
         · (intro W hSw; obtain ⟨-, m0, m1, m2, m3, m4, m5, m6, m7, m8, m9, m10, m11, m12, e0, e1, e2, e3, e4, e5, e6⟩ := hSw; go_simp; try with_reducible rfl))
      | (refine tu 17 34 rfl ?_)
    simp only [Act.put, pa, pz, ps]
    refine wpAnyH_ready (rs := [18]) (by kernel_rfl) (by simp) ?_
    refine AllReadyH.cons rfl (fun K hK => ?_) AllReadyH.nil
    go_simp
    first
      | (go_at_call 73; ((with_reducible refine (HMV.out _ ?_).mono ?_); (first | exact hS12.1 | skip); rintro e W9 ⟨rfl, rfl⟩); refine hK.out _ _ (by first | assumption | exact HKEEP.out _ (below_step hS0.1 B8)) (fun hS19 => ?_))
      | (refine hK.out _ _ (by assumption) (fun hS19 => ?_))
    clear hK K
    try simp only [Act.put, pa, pz, ps]
    first
      | (refine tk (v := ?_) 19 36 rfl ?_ ?_
         rotate_left
         · (intro W hSw; obtain ⟨-, m0, m1, m2, m3, m4, m5, m6, m7, m8, m9, m10, m11, m12, e0, e1, e2, e3, e4, e5, e6⟩ := hSw; go_simp; try with_reducible rfl))
      | (refine tu 19 36 rfl ?_)
    simp only [Act.put, pa, pz, ps]
    refine tk (v := ?_) 20 37 rfl ?_ ?_
    rotate_left
    · (intro W hSw; obtain ⟨-, m0, m1, m2, m3, m4, m5, m6, m7, m8, m9, m10, m11, m12, e0, e1, e2, e3, e4, e5, e6⟩ := hSw; go_simp; try with_reducible rfl)
    simp only [Act.put, pa, pz, ps]
    refine wpAnyH_done (by kernel_rfl) ?_ _
    obtain ⟨hB, m0, m1, m2, m3, m4, m5, m6, m7, m8, m9, m10, m11, m12, e0, e1, e2, e3, e4, e5, e6⟩ := hS19
    go_wp2_with fail
    refine (HR.out _ (below_step HB1.out hB)).mono ?_
    rintro e w3 ⟨rfl, B3⟩
    have BF := below_step (below_step HB1.out hB) B3
    go_wp2_with fail
    go_ret
    exact ⟨rfl, BF⟩


set_option maxHeartbeats 4000000 in
theorem check_lift (g b N M s t : Nat) (K : CsrS) (Q : PreS) (fst : Nat → Nat) (X E H : List Int) (e : EvS) (w : World)  (hM : Mch w g b N M s t K M N N Q) (hQ : StIn w w.heap.size M N N Q X E H) (hN : N ≤ 4096) (hk : e.what = 2) :
    Calls Try.prog 42 #[.pointer (some ⟨g, 0, none⟩), evW e] w fun e' w' => e' = .returned (.int .i64 (legI N s t fst X E H e)) ∧ Below w.heap.size w w' := by
  have hbox := hM.box
  have hmap := hM.map
  have hmov := fun W (hb : Below w.heap.size w W) => moves_is g b N M s t M N N K Q e.u W (hM.below hb) _ rfl
  have HMV0 := Lib.hid hmov
  have hfit := fun W => rfit_is N M s t K M N N Q W hN true (by simp)
  have HF := Lib.hid hfit
  have hcall : isV N s t e.u → ∀ W, Below w.heap.size w W → Calls Try.prog 71 #[.pointer (some ⟨g, 0, none⟩), evW e] W fun e' w' => e' = .returned (.int .i64 (legI N s t fst X E H e)) ∧ Below W.heap.size W w' := fun hv W hb => by
    obtain ⟨u, hu⟩ : ∃ u : Nat, e.u = u := ⟨e.u.toNat, by have := hv.1; omega⟩
    have hl : legI N s t fst X E H e = chkL N H e := by unfold legI; rw [if_pos hv]; rw [if_neg (by omega), if_pos hk]
    rw [hl]
    exact checkLift_is g b N M s t u M N K Q X E H e W (hM.below hb) (hQ.on hb) hu (by have := hv.1; omega) hN _ rfl
  have hno : ¬ isV N s t e.u → (2 : Int) = legI N s t fst X E H e := fun hv => by unfold legI; rw [if_neg hv]
  have HCH := Lib.hid hcall
  have HNO := Lib.hid hno
  obtain ⟨r, hr⟩ : ∃ r, legI N s t fst X E H e = r := ⟨_, rfl⟩
  rw [hr] at HCH HNO ⊢
  clear hmov hfit hcall hno hr hQ hM
  obtain ⟨AF, cF, AH, cH, AR, cR, AC, cC, AA, cA, AB, cB⟩ := K
  obtain ⟨AX, cX, AE, cE, AHH, cHH⟩ := Q
  obtain ⟨who, what, eu, arc, d0, h0, low⟩ := e
  dsimp only [evW, csrW, preW] at hbox hk HMV0 HF HCH HNO ⊢
  subst hk
  have hgl := hbox.lt
  go_enter Try.func42, Try.ntmps42
  go_wp2_with fail
  obtain ⟨w1, hw1⟩ : ∃ w1, w.alloc (.cells #[.int .i64 who, .int .u8 2, .int .i64 eu, .int .i64 arc, .int .i64 d0, .int .i64 h0, .int .i64 low] 39) = w1 := ⟨_, rfl⟩
  have B1 : Below w.heap.size w w1 := by rw [← hw1]; exact below_alloc _
  have C1 : Blk w1 w.heap.size 39 #[.int .i64 who, .int .u8 2, .int .i64 eu, .int .i64 arc, .int .i64 d0, .int .i64 h0, .int .i64 low] := by rw [← hw1]; exact Blk.new rfl
  have M1 := hbox.below B1 hgl
  have K1 := (B1.block _ (Array.getElem?_eq_some_iff.1 hmap).1).trans hmap
  rw [hw1]
  clear hw1
  have hkeep : ∀ W', Below w1.heap.size w1 W' → Below w1.heap.size w1 W' ∧ W'.cell? ⟨g, 0, none⟩ = some (.int .i64 (N : Int)) ∧ W'.cell? ⟨g, 1, none⟩ = some (.int .i64 (s : Int)) ∧ W'.cell? ⟨g, 2, none⟩ = some (.int .i64 (t : Int)) ∧ W'.cell? ⟨g, 3, none⟩ = some (.slice AF (N + 1) cF) ∧ W'.cell? ⟨g, 4, none⟩ = some (.slice AH M cH) ∧ W'.cell? ⟨g, 5, none⟩ = some (.slice AR M cR) ∧ W'.cell? ⟨g, 6, none⟩ = some (.slice AC M cC) ∧ W'.cell? ⟨g, 7, none⟩ = some (.slice AA M cA) ∧ W'.cell? ⟨g, 8, none⟩ = some (.slice AB M cB) ∧ W'.cell? ⟨g, 9, none⟩ = some (.slice AX M cX) ∧ W'.cell? ⟨g, 10, none⟩ = some (.slice AE N cE) ∧ W'.cell? ⟨g, 11, none⟩ = some (.slice AHH N cHH) ∧ W'.cell? ⟨g, 12, none⟩ = some (.map (some b)) ∧ W'.cell? ⟨w.heap.size, 0, none⟩ = some (.int .i64 who) ∧ W'.cell? ⟨w.heap.size, 1, none⟩ = some (.int .u8 2) ∧ W'.cell? ⟨w.heap.size, 2, none⟩ = some (.int .i64 eu) ∧ W'.cell? ⟨w.heap.size, 3, none⟩ = some (.int .i64 arc) ∧ W'.cell? ⟨w.heap.size, 4, none⟩ = some (.int .i64 d0) ∧ W'.cell? ⟨w.heap.size, 5, none⟩ = some (.int .i64 h0) ∧ W'.cell? ⟨w.heap.size, 6, none⟩ = some (.int .i64 low) := fun W' hb => by
    obtain ⟨m0, m1, m2, m3, m4, m5, m6, m7, m8, m9, m10, m11, m12⟩ := (M1.below hb M1.lt).at13
    obtain ⟨e0, e1, e2, e3, e4, e5, e6⟩ := (C1.below hb C1.lt).at7
    exact ⟨hb, m0, m1, m2, m3, m4, m5, m6, m7, m8, m9, m10, m11, m12, e0, e1, e2, e3, e4, e5, e6⟩
  have HKEEP := Lib.hid hkeep
  have HB1 := Lib.hid B1
  obtain ⟨-, m0, m1, m2, m3, m4, m5, m6, m7, m8, m9, m10, m11, m12, e0, e1, e2, e3, e4, e5, e6⟩ := hkeep _ (Below.refl _ _)
  clear hkeep hbox hmap B1 C1 M1
  have hz := chk_two K1
  clear K1
  have hmv := fun W (hb : Below w1.heap.size w1 W) => HMV0.out W (below_step HB1.out hb)
  have HMV := Lib.hid hmv
  clear hmv
  obtain ⟨c, hc⟩ : ∃ c, decide (isV N s t eu) = c := ⟨_, rfl⟩
  rw [hc] at HMV
  clear HMV0
  go_quiet (fail)
  clear hz
  go_wp2_with fail
  cases c
  · have HR := Lib.hid (HNO.out (of_decide_eq_false hc))
    clear hc HCH HNO
    refine wp_region_held_drew (S := fun W' => Below w1.heap.size w1 W' ∧ W'.cell? ⟨g, 0, none⟩ = some (.int .i64 (N : Int)) ∧ W'.cell? ⟨g, 1, none⟩ = some (.int .i64 (s : Int)) ∧ W'.cell? ⟨g, 2, none⟩ = some (.int .i64 (t : Int)) ∧ W'.cell? ⟨g, 3, none⟩ = some (.slice AF (N + 1) cF) ∧ W'.cell? ⟨g, 4, none⟩ = some (.slice AH M cH) ∧ W'.cell? ⟨g, 5, none⟩ = some (.slice AR M cR) ∧ W'.cell? ⟨g, 6, none⟩ = some (.slice AC M cC) ∧ W'.cell? ⟨g, 7, none⟩ = some (.slice AA M cA) ∧ W'.cell? ⟨g, 8, none⟩ = some (.slice AB M cB) ∧ W'.cell? ⟨g, 9, none⟩ = some (.slice AX M cX) ∧ W'.cell? ⟨g, 10, none⟩ = some (.slice AE N cE) ∧ W'.cell? ⟨g, 11, none⟩ = some (.slice AHH N cHH) ∧ W'.cell? ⟨g, 12, none⟩ = some (.map (some b)) ∧ W'.cell? ⟨w.heap.size, 0, none⟩ = some (.int .i64 who) ∧ W'.cell? ⟨w.heap.size, 1, none⟩ = some (.int .u8 2) ∧ W'.cell? ⟨w.heap.size, 2, none⟩ = some (.int .i64 eu) ∧ W'.cell? ⟨w.heap.size, 3, none⟩ = some (.int .i64 arc) ∧ W'.cell? ⟨w.heap.size, 4, none⟩ = some (.int .i64 d0) ∧ W'.cell? ⟨w.heap.size, 5, none⟩ = some (.int .i64 h0) ∧ W'.cell? ⟨w.heap.size, 6, none⟩ = some (.int .i64 low)) (by kernel_rfl) (HKEEP.out _ ((below_drewN' (Below.refl _ _) nq).drew)) (fun hS0 => ?_)
    refine tk (v := ?_) 0 17 rfl ?_ ?_
    rotate_left
    · (intro W hSw; obtain ⟨-, m0, m1, m2, m3, m4, m5, m6, m7, m8, m9, m10, m11, m12, e0, e1, e2, e3, e4, e5, e6⟩ := hSw; go_simp; try with_reducible rfl)
    simp only [Act.put, pa, pz, ps]
    refine tk (v := ?_) 1 18 rfl ?_ ?_
    rotate_left
    · (intro W hSw; obtain ⟨-, m0, m1, m2, m3, m4, m5, m6, m7, m8, m9, m10, m11, m12, e0, e1, e2, e3, e4, e5, e6⟩ := hSw; go_simp; try with_reducible rfl)
    simp only [Act.put, pa, pz, ps]
    refine tk (v := ?_) 2 19 rfl ?_ ?_
    rotate_left
    · (intro W hSw; obtain ⟨-, m0, m1, m2, m3, m4, m5, m6, m7, m8, m9, m10, m11, m12, e0, e1, e2, e3, e4, e5, e6⟩ := hSw; go_simp; try with_reducible rfl)
    simp only [Act.put, pa, pz, ps]
    first
      | (refine tk (v := ?_) 3 20 rfl ?_ ?_
         rotate_left
         · (intro W hSw; obtain ⟨-, m0, m1, m2, m3, m4, m5, m6, m7, m8, m9, m10, m11, m12, e0, e1, e2, e3, e4, e5, e6⟩ := hSw; go_simp; try with_reducible rfl))
      | (refine tu 3 20 rfl ?_)
    simp only [Act.put, pa, pz, ps]
    first
      | (refine tk (v := ?_) 4 21 rfl ?_ ?_
         rotate_left
         · (intro W hSw; obtain ⟨-, m0, m1, m2, m3, m4, m5, m6, m7, m8, m9, m10, m11, m12, e0, e1, e2, e3, e4, e5, e6⟩ := hSw; go_simp; try with_reducible rfl))
      | (refine tu 4 21 rfl ?_)
    simp only [Act.put, pa, pz, ps]
    first
      | (refine tk (v := ?_) 5 22 rfl ?_ ?_
         rotate_left
         · (intro W hSw; obtain ⟨-, m0, m1, m2, m3, m4, m5, m6, m7, m8, m9, m10, m11, m12, e0, e1, e2, e3, e4, e5, e6⟩ := hSw; go_simp; try with_reducible rfl))
      | (refine tu 5 22 rfl ?_)
    simp only [Act.put, pa, pz, ps]
    first
      | (refine tk (v := ?_) 6 23 rfl ?_ ?_
         rotate_left
         · (intro W hSw; obtain ⟨-, m0, m1, m2, m3, m4, m5, m6, m7, m8, m9, m10, m11, m12, e0, e1, e2, e3, e4, e5, e6⟩ := hSw; go_simp; try with_reducible rfl))
      | (refine tu 6 23 rfl ?_)
    simp only [Act.put, pa, pz, ps]
    first
      | (refine tk (v := ?_) 7 24 rfl ?_ ?_
         rotate_left
         · (intro W hSw; obtain ⟨-, m0, m1, m2, m3, m4, m5, m6, m7, m8, m9, m10, m11, m12, e0, e1, e2, e3, e4, e5, e6⟩ := hSw; go_simp; try with_reducible rfl))
      | (refine tu 7 24 rfl ?_)
    simp only [Act.put, pa, pz, ps]
    first
      | (refine tk (v := ?_) 8 25 rfl ?_ ?_
         rotate_left
         · (intro W hSw; obtain ⟨-, m0, m1, m2, m3, m4, m5, m6, m7, m8, m9, m10, m11, m12, e0, e1, e2, e3, e4, e5, e6⟩ := hSw; go_simp; try with_reducible rfl))
      | (refine tu 8 25 rfl ?_)
    simp only [Act.put, pa, pz, ps]
    first
      | (refine tk (v := ?_) 9 26 rfl ?_ ?_
         rotate_left
         · (intro W hSw; obtain ⟨-, m0, m1, m2, m3, m4, m5, m6, m7, m8, m9, m10, m11, m12, e0, e1, e2, e3, e4, e5, e6⟩ := hSw; go_simp; try with_reducible rfl))
      | (refine tu 9 26 rfl ?_)
    simp only [Act.put, pa, pz, ps]
    first
      | (refine tk (v := ?_) 10 27 rfl ?_ ?_
         rotate_left
         · (intro W hSw; obtain ⟨-, m0, m1, m2, m3, m4, m5, m6, m7, m8, m9, m10, m11, m12, e0, e1, e2, e3, e4, e5, e6⟩ := hSw; go_simp; try with_reducible rfl))
      | (refine tu 10 27 rfl ?_)
    simp only [Act.put, pa, pz, ps]
    refine wpAnyH_ready (rs := [11]) (by kernel_rfl) (by simp) ?_
    refine AllReadyH.cons rfl (fun K hK => ?_) AllReadyH.nil
    go_simp
    first
      | (go_at_call 31; ((with_reducible refine (HF.out _).mono ?_); rintro e W8 ⟨rfl, B8⟩); refine hK.out _ _ (by first | assumption | exact HKEEP.out _ (below_step hS0.1 B8)) (fun hS12 => ?_))
      | (refine hK.out _ _ (by assumption) (fun hS12 => ?_))
    clear hK K
    try simp only [Act.put, pa, pz, ps]
    first
      | (refine tk (v := ?_) 12 29 rfl ?_ ?_
         rotate_left
         · (intro W hSw; obtain ⟨-, m0, m1, m2, m3, m4, m5, m6, m7, m8, m9, m10, m11, m12, e0, e1, e2, e3, e4, e5, e6⟩ := hSw; go_simp; try with_reducible rfl))
      | (refine tu 12 29 rfl ?_)
    simp only [Act.put, pa, pz, ps]
    refine tk (v := ?_) 13 30 rfl ?_ ?_
    rotate_left
    · (intro W hSw; obtain ⟨-, m0, m1, m2, m3, m4, m5, m6, m7, m8, m9, m10, m11, m12, e0, e1, e2, e3, e4, e5, e6⟩ := hSw; go_simp; try with_reducible rfl)
    simp only [Act.put, pa, pz, ps]
    refine tk (v := ?_) 14 31 rfl ?_ ?_
    rotate_left
    · (intro W hSw; obtain ⟨-, m0, m1, m2, m3, m4, m5, m6, m7, m8, m9, m10, m11, m12, e0, e1, e2, e3, e4, e5, e6⟩ := hSw; go_simp; try with_reducible rfl)
    simp only [Act.put, pa, pz, ps]
    first
      | (refine tk (v := ?_) 15 32 rfl ?_ ?_
         rotate_left
         · (intro W hSw; obtain ⟨-, m0, m1, m2, m3, m4, m5, m6, m7, m8, m9, m10, m11, m12, e0, e1, e2, e3, e4, e5, e6⟩ := hSw; go_simp; try with_reducible rfl))
      | (refine tu 15 32 rfl ?_)
    simp only [Act.put, pa, pz, ps]
    first
      | (refine tk (v := ?_) 16 33 rfl ?_ ?_
         rotate_left
         · (intro W hSw; obtain ⟨-, m0, m1, m2, m3, m4, m5, m6, m7, m8, m9, m10, m11, m12, e0, e1, e2, e3, e4, e5, e6⟩ := hSw; go_simp; try with_reducible rfl))
      | (refine tu 16 33 rfl ?_)
    simp only [Act.put, pa, pz, ps]
    first
      | (refine tk (v := ?_) 17 34 rfl ?_ ?_
         rotate_left
         · (intro W hSw; obtain ⟨-, m0, m1, m2, m3, m4, m5, m6, m7, m8, m9, m10, m11, m12, e0, e1, e2, e3, e4, e5, e6⟩ := hSw; go_simp; try with_reducible rfl))
      | (refine tu 17 34 rfl ?_)
    simp only [Act.put, pa, pz, ps]
    refine wpAnyH_ready (rs := [18]) (by kernel_rfl) (by simp) ?_
    refine AllReadyH.cons rfl (fun K hK => ?_) AllReadyH.nil
    go_simp
    first
      | (go_at_call 73; ((with_reducible refine (HMV.out _ ?_).mono ?_); (first | exact hS12.1 | skip); rintro e W9 ⟨rfl, rfl⟩); refine hK.out _ _ (by first | assumption | exact HKEEP.out _ (below_step hS0.1 B8)) (fun hS19 => ?_))
      | (refine hK.out _ _ (by assumption) (fun hS19 => ?_))
    clear hK K
    try simp only [Act.put, pa, pz, ps]
    first
      | (refine tk (v := ?_) 19 36 rfl ?_ ?_
         rotate_left
         · (intro W hSw; obtain ⟨-, m0, m1, m2, m3, m4, m5, m6, m7, m8, m9, m10, m11, m12, e0, e1, e2, e3, e4, e5, e6⟩ := hSw; go_simp; try with_reducible rfl))
      | (refine tu 19 36 rfl ?_)
    simp only [Act.put, pa, pz, ps]
    refine tk (v := ?_) 20 37 rfl ?_ ?_
    rotate_left
    · (intro W hSw; obtain ⟨-, m0, m1, m2, m3, m4, m5, m6, m7, m8, m9, m10, m11, m12, e0, e1, e2, e3, e4, e5, e6⟩ := hSw; go_simp; try with_reducible rfl)
    simp only [Act.put, pa, pz, ps]
    refine wpAnyH_done (by kernel_rfl) ?_ _
    obtain ⟨hB, m0, m1, m2, m3, m4, m5, m6, m7, m8, m9, m10, m11, m12, e0, e1, e2, e3, e4, e5, e6⟩ := hS19
    go_wp2_with fail
    go_ret
    exact ⟨by rw [← HR.out]; rfl, below_step HB1.out hB⟩
  · have HR := Lib.hid (HCH.out (of_decide_eq_true hc))
    clear hc HCH HNO
    refine wp_region_held_drew (S := fun W' => Below w1.heap.size w1 W' ∧ W'.cell? ⟨g, 0, none⟩ = some (.int .i64 (N : Int)) ∧ W'.cell? ⟨g, 1, none⟩ = some (.int .i64 (s : Int)) ∧ W'.cell? ⟨g, 2, none⟩ = some (.int .i64 (t : Int)) ∧ W'.cell? ⟨g, 3, none⟩ = some (.slice AF (N + 1) cF) ∧ W'.cell? ⟨g, 4, none⟩ = some (.slice AH M cH) ∧ W'.cell? ⟨g, 5, none⟩ = some (.slice AR M cR) ∧ W'.cell? ⟨g, 6, none⟩ = some (.slice AC M cC) ∧ W'.cell? ⟨g, 7, none⟩ = some (.slice AA M cA) ∧ W'.cell? ⟨g, 8, none⟩ = some (.slice AB M cB) ∧ W'.cell? ⟨g, 9, none⟩ = some (.slice AX M cX) ∧ W'.cell? ⟨g, 10, none⟩ = some (.slice AE N cE) ∧ W'.cell? ⟨g, 11, none⟩ = some (.slice AHH N cHH) ∧ W'.cell? ⟨g, 12, none⟩ = some (.map (some b)) ∧ W'.cell? ⟨w.heap.size, 0, none⟩ = some (.int .i64 who) ∧ W'.cell? ⟨w.heap.size, 1, none⟩ = some (.int .u8 2) ∧ W'.cell? ⟨w.heap.size, 2, none⟩ = some (.int .i64 eu) ∧ W'.cell? ⟨w.heap.size, 3, none⟩ = some (.int .i64 arc) ∧ W'.cell? ⟨w.heap.size, 4, none⟩ = some (.int .i64 d0) ∧ W'.cell? ⟨w.heap.size, 5, none⟩ = some (.int .i64 h0) ∧ W'.cell? ⟨w.heap.size, 6, none⟩ = some (.int .i64 low)) (by kernel_rfl) (HKEEP.out _ ((below_drewN' (Below.refl _ _) nq).drew)) (fun hS0 => ?_)
    refine tk (v := ?_) 0 17 rfl ?_ ?_
    rotate_left
    · (intro W hSw; obtain ⟨-, m0, m1, m2, m3, m4, m5, m6, m7, m8, m9, m10, m11, m12, e0, e1, e2, e3, e4, e5, e6⟩ := hSw; go_simp; try with_reducible rfl)
    simp only [Act.put, pa, pz, ps]
    refine tk (v := ?_) 1 18 rfl ?_ ?_
    rotate_left
    · (intro W hSw; obtain ⟨-, m0, m1, m2, m3, m4, m5, m6, m7, m8, m9, m10, m11, m12, e0, e1, e2, e3, e4, e5, e6⟩ := hSw; go_simp; try with_reducible rfl)
    simp only [Act.put, pa, pz, ps]
    refine tk (v := ?_) 2 19 rfl ?_ ?_
    rotate_left
    · (intro W hSw; obtain ⟨-, m0, m1, m2, m3, m4, m5, m6, m7, m8, m9, m10, m11, m12, e0, e1, e2, e3, e4, e5, e6⟩ := hSw; go_simp; try with_reducible rfl)
    simp only [Act.put, pa, pz, ps]
    first
      | (refine tk (v := ?_) 3 20 rfl ?_ ?_
         rotate_left
         · (intro W hSw; obtain ⟨-, m0, m1, m2, m3, m4, m5, m6, m7, m8, m9, m10, m11, m12, e0, e1, e2, e3, e4, e5, e6⟩ := hSw; go_simp; try with_reducible rfl))
      | (refine tu 3 20 rfl ?_)
    simp only [Act.put, pa, pz, ps]
    first
      | (refine tk (v := ?_) 4 21 rfl ?_ ?_
         rotate_left
         · (intro W hSw; obtain ⟨-, m0, m1, m2, m3, m4, m5, m6, m7, m8, m9, m10, m11, m12, e0, e1, e2, e3, e4, e5, e6⟩ := hSw; go_simp; try with_reducible rfl))
      | (refine tu 4 21 rfl ?_)
    simp only [Act.put, pa, pz, ps]
    first
      | (refine tk (v := ?_) 5 22 rfl ?_ ?_
         rotate_left
         · (intro W hSw; obtain ⟨-, m0, m1, m2, m3, m4, m5, m6, m7, m8, m9, m10, m11, m12, e0, e1, e2, e3, e4, e5, e6⟩ := hSw; go_simp; try with_reducible rfl))
      | (refine tu 5 22 rfl ?_)
    simp only [Act.put, pa, pz, ps]
    first
      | (refine tk (v := ?_) 6 23 rfl ?_ ?_
         rotate_left
         · (intro W hSw; obtain ⟨-, m0, m1, m2, m3, m4, m5, m6, m7, m8, m9, m10, m11, m12, e0, e1, e2, e3, e4, e5, e6⟩ := hSw; go_simp; try with_reducible rfl))
      | (refine tu 6 23 rfl ?_)
    simp only [Act.put, pa, pz, ps]
    first
      | (refine tk (v := ?_) 7 24 rfl ?_ ?_
         rotate_left
         · (intro W hSw; obtain ⟨-, m0, m1, m2, m3, m4, m5, m6, m7, m8, m9, m10, m11, m12, e0, e1, e2, e3, e4, e5, e6⟩ := hSw; go_simp; try with_reducible rfl))
      | (refine tu 7 24 rfl ?_)
    simp only [Act.put, pa, pz, ps]
    first
      | (refine tk (v := ?_) 8 25 rfl ?_ ?_
         rotate_left
         · (intro W hSw; obtain ⟨-, m0, m1, m2, m3, m4, m5, m6, m7, m8, m9, m10, m11, m12, e0, e1, e2, e3, e4, e5, e6⟩ := hSw; go_simp; try with_reducible rfl))
      | (refine tu 8 25 rfl ?_)
    simp only [Act.put, pa, pz, ps]
    first
      | (refine tk (v := ?_) 9 26 rfl ?_ ?_
         rotate_left
         · (intro W hSw; obtain ⟨-, m0, m1, m2, m3, m4, m5, m6, m7, m8, m9, m10, m11, m12, e0, e1, e2, e3, e4, e5, e6⟩ := hSw; go_simp; try with_reducible rfl))
      | (refine tu 9 26 rfl ?_)
    simp only [Act.put, pa, pz, ps]
    first
      | (refine tk (v := ?_) 10 27 rfl ?_ ?_
         rotate_left
         · (intro W hSw; obtain ⟨-, m0, m1, m2, m3, m4, m5, m6, m7, m8, m9, m10, m11, m12, e0, e1, e2, e3, e4, e5, e6⟩ := hSw; go_simp; try with_reducible rfl))
      | (refine tu 10 27 rfl ?_)
    simp only [Act.put, pa, pz, ps]
    refine wpAnyH_ready (rs := [11]) (by kernel_rfl) (by simp) ?_
    refine AllReadyH.cons rfl (fun K hK => ?_) AllReadyH.nil
    go_simp
    first
      | (go_at_call 31; ((with_reducible refine (HF.out _).mono ?_); rintro e W8 ⟨rfl, B8⟩); refine hK.out _ _ (by first | assumption | exact HKEEP.out _ (below_step hS0.1 B8)) (fun hS12 => ?_))
      | (refine hK.out _ _ (by assumption) (fun hS12 => ?_))
    clear hK K
    try simp only [Act.put, pa, pz, ps]
    first
      | (refine tk (v := ?_) 12 29 rfl ?_ ?_
         rotate_left
         · (intro W hSw; obtain ⟨-, m0, m1, m2, m3, m4, m5, m6, m7, m8, m9, m10, m11, m12, e0, e1, e2, e3, e4, e5, e6⟩ := hSw; go_simp; try with_reducible rfl))
      | (refine tu 12 29 rfl ?_)
    simp only [Act.put, pa, pz, ps]
    refine tk (v := ?_) 13 30 rfl ?_ ?_
    rotate_left
    · (intro W hSw; obtain ⟨-, m0, m1, m2, m3, m4, m5, m6, m7, m8, m9, m10, m11, m12, e0, e1, e2, e3, e4, e5, e6⟩ := hSw; go_simp; try with_reducible rfl)
    simp only [Act.put, pa, pz, ps]
    refine tk (v := ?_) 14 31 rfl ?_ ?_
    rotate_left
    · (intro W hSw; obtain ⟨-, m0, m1, m2, m3, m4, m5, m6, m7, m8, m9, m10, m11, m12, e0, e1, e2, e3, e4, e5, e6⟩ := hSw; go_simp; try with_reducible rfl)
    simp only [Act.put, pa, pz, ps]
    first
      | (refine tk (v := ?_) 15 32 rfl ?_ ?_
         rotate_left
         · (intro W hSw; obtain ⟨-, m0, m1, m2, m3, m4, m5, m6, m7, m8, m9, m10, m11, m12, e0, e1, e2, e3, e4, e5, e6⟩ := hSw; go_simp; try with_reducible rfl))
      | (refine tu 15 32 rfl ?_)
    simp only [Act.put, pa, pz, ps]
    first
      | (refine tk (v := ?_) 16 33 rfl ?_ ?_
         rotate_left
         · (intro W hSw; obtain ⟨-, m0, m1, m2, m3, m4, m5, m6, m7, m8, m9, m10, m11, m12, e0, e1, e2, e3, e4, e5, e6⟩ := hSw; go_simp; try with_reducible rfl))
      | (refine tu 16 33 rfl ?_)
    simp only [Act.put, pa, pz, ps]
    first
      | (refine tk (v := ?_) 17 34 rfl ?_ ?_
         rotate_left
         · (intro W hSw; obtain ⟨-, m0, m1, m2, m3, m4, m5, m6, m7, m8, m9, m10, m11, m12, e0, e1, e2, e3, e4, e5, e6⟩ := hSw; go_simp; try with_reducible rfl))
      | (refine tu 17 34 rfl ?_)
    simp only [Act.put, pa, pz, ps]
    refine wpAnyH_ready (rs := [18]) (by kernel_rfl) (by simp) ?_
    refine AllReadyH.cons rfl (fun K hK => ?_) AllReadyH.nil
    go_simp
    first
      | (go_at_call 73; ((with_reducible refine (HMV.out _ ?_).mono ?_); (first | exact hS12.1 | skip); rintro e W9 ⟨rfl, rfl⟩); refine hK.out _ _ (by first | assumption | exact HKEEP.out _ (below_step hS0.1 B8)) (fun hS19 => ?_))
      | (refine hK.out _ _ (by assumption) (fun hS19 => ?_))
    clear hK K
    try simp only [Act.put, pa, pz, ps]
    first
      | (refine tk (v := ?_) 19 36 rfl ?_ ?_
         rotate_left
         · (intro W hSw; obtain ⟨-, m0, m1, m2, m3, m4, m5, m6, m7, m8, m9, m10, m11, m12, e0, e1, e2, e3, e4, e5, e6⟩ := hSw; go_simp; try with_reducible rfl))
      | (refine tu 19 36 rfl ?_)
    simp only [Act.put, pa, pz, ps]
    refine tk (v := ?_) 20 37 rfl ?_ ?_
    rotate_left
    · (intro W hSw; obtain ⟨-, m0, m1, m2, m3, m4, m5, m6, m7, m8, m9, m10, m11, m12, e0, e1, e2, e3, e4, e5, e6⟩ := hSw; go_simp; try with_reducible rfl)
    simp only [Act.put, pa, pz, ps]
    refine wpAnyH_done (by kernel_rfl) ?_ _
    obtain ⟨hB, m0, m1, m2, m3, m4, m5, m6, m7, m8, m9, m10, m11, m12, e0, e1, e2, e3, e4, e5, e6⟩ := hS19
    go_wp2_with fail
    refine (HR.out _ (below_step HB1.out hB)).mono ?_
    rintro e w3 ⟨rfl, B3⟩
    have BF := below_step (below_step HB1.out hB) B3
    go_wp2_with fail
    go_ret
    exact ⟨rfl, BF⟩


theorem check_is (g b N M s t : Nat) (K : CsrS) (Q : PreS) (fst hd rv : Nat → Nat) (X E H : List Int) (e : EvS) (w : World) (hG : Grid N M fst hd rv) (hI : GridIn w w.heap.size N M K fst hd rv) (hM : Mch w g b N M s t K M N N Q) (hQ : StIn w w.heap.size M N N Q X E H) (hN : N ≤ 4096) :
    Calls Try.prog 42 #[.pointer (some ⟨g, 0, none⟩), evW e] w fun e' w' => e' = .returned (.int .i64 (legI N s t fst X E H e)) ∧ Below w.heap.size w w' := by
  by_cases h1 : e.what = 1
  · exact check_push g b N M s t K Q fst hd rv X E H e w hG hI hM hQ hN h1
  · by_cases h2 : e.what = 2
    · exact check_lift g b N M s t K Q fst X E H e w hM hQ hN h2
    · exact check_else g b N M s t K Q fst X E H e w hM h1 h2

set_option maxHeartbeats 2000000 in
theorem rlegal_is (N M s t : Nat) (K : CsrS) (Q : PreS) (fst hd rv : Nat → Nat) (X E H : List Int) (e : EvS) (w : World) (hG : Grid N M fst hd rv) (hI : GridIn w w.heap.size N M K fst hd rv) (hQ : StIn w w.heap.size M N N Q X E H) (hN : N ≤ 4096) :
    Calls Try.prog 16 #[csrW N M s t K, preW M N N Q, evW e] w fun e' w' => e' = .returned (.int .i64 (legI N s t fst X E H e)) ∧ Below w.heap.size w w' := by
  have hat := fun W => at_is N M s t K M N N Q W
  have HA := Lib.hid hat
  have hch := fun g b W (hb : Below w.heap.size w W) hM => check_is g b N M s t K Q fst hd rv X E H e W hG (hI.on hb) hM (hQ.on hb) hN
  have HC := Lib.hid hch
  clear hat hch hG hI hQ hN
  obtain ⟨r, hr⟩ : ∃ r, legI N s t fst X E H e = r := ⟨_, rfl⟩
  rw [hr] at HC ⊢
  clear hr
  obtain ⟨AF, cF, AH, cH, AR, cR, AC, cC, AA, cA, AB, cB⟩ := K
  obtain ⟨AX, cX, AE, cE, AHH, cHH⟩ := Q
  obtain ⟨who, what, eu, arc, d0, h0, low⟩ := e
  dsimp only [evW, csrW, preW] at HA HC ⊢
  go_enter Try.func16, Try.ntmps16
  go_wp2_with fail
  obtain ⟨w1, hw1⟩ : ∃ w1, (((w.alloc (.cells #[.int .i64 (N : Int), .int .i64 (s : Int), .int .i64 (t : Int), .slice AF (N + 1) cF, .slice AH M cH, .slice AR M cR, .slice AC M cC, .slice AA M cA, .slice AB M cB] 32)).alloc (.cells #[.slice AX M cX, .slice AE N cE, .slice AHH N cHH] 29)).alloc (.cells #[.int .i64 who, .int .u8 what, .int .i64 eu, .int .i64 arc, .int .i64 d0, .int .i64 h0, .int .i64 low] 39)) = w1 := ⟨_, rfl⟩
  have B1 : Below w.heap.size w w1 := by rw [← hw1]; exact (((Below.refl _ w).alloc (Nat.le_refl _) _).alloc (by simp) _).alloc (by simp; omega) _
  have C1 : Blk w1 w.heap.size 32 #[.int .i64 (N : Int), .int .i64 (s : Int), .int .i64 (t : Int), .slice AF (N + 1) cF, .slice AH M cH, .slice AR M cR, .slice AC M cC, .slice AA M cA, .slice AB M cB] := by rw [← hw1]; exact ((Blk.new rfl).alloc _).alloc _
  have P1 : Blk w1 (w.heap.size + 1) 29 #[.slice AX M cX, .slice AE N cE, .slice AHH N cHH] := by rw [← hw1]; exact (Blk.new (by simp)).alloc _
  have E1 : Blk w1 (w.heap.size + 1 + 1) 39 #[.int .i64 who, .int .u8 what, .int .i64 eu, .int .i64 arc, .int .i64 d0, .int .i64 h0, .int .i64 low] := by rw [← hw1]; exact Blk.new (by simp)
  rw [hw1]
  clear hw1
  have hkeep : ∀ W', Below w1.heap.size w1 W' → Below w1.heap.size w1 W' ∧ W'.cell? ⟨w.heap.size, 0, none⟩ = some (.int .i64 (N : Int)) ∧ W'.cell? ⟨w.heap.size, 1, none⟩ = some (.int .i64 (s : Int)) ∧ W'.cell? ⟨w.heap.size, 2, none⟩ = some (.int .i64 (t : Int)) ∧ W'.cell? ⟨w.heap.size, 3, none⟩ = some (.slice AF (N + 1) cF) ∧ W'.cell? ⟨w.heap.size, 4, none⟩ = some (.slice AH M cH) ∧ W'.cell? ⟨w.heap.size, 5, none⟩ = some (.slice AR M cR) ∧ W'.cell? ⟨w.heap.size, 6, none⟩ = some (.slice AC M cC) ∧ W'.cell? ⟨w.heap.size, 7, none⟩ = some (.slice AA M cA) ∧ W'.cell? ⟨w.heap.size, 8, none⟩ = some (.slice AB M cB) ∧ W'.cell? ⟨w.heap.size + 1, 0, none⟩ = some (.slice AX M cX) ∧ W'.cell? ⟨w.heap.size + 1, 1, none⟩ = some (.slice AE N cE) ∧ W'.cell? ⟨w.heap.size + 1, 2, none⟩ = some (.slice AHH N cHH) ∧ W'.cell? ⟨w.heap.size + 1 + 1, 0, none⟩ = some (.int .i64 who) ∧ W'.cell? ⟨w.heap.size + 1 + 1, 1, none⟩ = some (.int .u8 what) ∧ W'.cell? ⟨w.heap.size + 1 + 1, 2, none⟩ = some (.int .i64 eu) ∧ W'.cell? ⟨w.heap.size + 1 + 1, 3, none⟩ = some (.int .i64 arc) ∧ W'.cell? ⟨w.heap.size + 1 + 1, 4, none⟩ = some (.int .i64 d0) ∧ W'.cell? ⟨w.heap.size + 1 + 1, 5, none⟩ = some (.int .i64 h0) ∧ W'.cell? ⟨w.heap.size + 1 + 1, 6, none⟩ = some (.int .i64 low) := fun W' hb => by
    obtain ⟨a0, a1, a2, a3, a4, a5, a6, a7, a8⟩ := (C1.below hb C1.lt).at9
    obtain ⟨⟨p0, p1, p2⟩, -, -⟩ := (P1.below hb P1.lt).full3
    obtain ⟨e0, e1, e2, e3, e4, e5, e6⟩ := (E1.below hb E1.lt).at7
    exact ⟨hb, a0, a1, a2, a3, a4, a5, a6, a7, a8, p0, p1, p2, e0, e1, e2, e3, e4, e5, e6⟩
  have HKEEP := Lib.hid hkeep
  have HB1 := Lib.hid B1
  clear hkeep C1 P1 E1 B1
  refine wp_region_held_drew (S := fun W' => Below w1.heap.size w1 W' ∧ W'.cell? ⟨w.heap.size, 0, none⟩ = some (.int .i64 (N : Int)) ∧ W'.cell? ⟨w.heap.size, 1, none⟩ = some (.int .i64 (s : Int)) ∧ W'.cell? ⟨w.heap.size, 2, none⟩ = some (.int .i64 (t : Int)) ∧ W'.cell? ⟨w.heap.size, 3, none⟩ = some (.slice AF (N + 1) cF) ∧ W'.cell? ⟨w.heap.size, 4, none⟩ = some (.slice AH M cH) ∧ W'.cell? ⟨w.heap.size, 5, none⟩ = some (.slice AR M cR) ∧ W'.cell? ⟨w.heap.size, 6, none⟩ = some (.slice AC M cC) ∧ W'.cell? ⟨w.heap.size, 7, none⟩ = some (.slice AA M cA) ∧ W'.cell? ⟨w.heap.size, 8, none⟩ = some (.slice AB M cB) ∧ W'.cell? ⟨w.heap.size + 1, 0, none⟩ = some (.slice AX M cX) ∧ W'.cell? ⟨w.heap.size + 1, 1, none⟩ = some (.slice AE N cE) ∧ W'.cell? ⟨w.heap.size + 1, 2, none⟩ = some (.slice AHH N cHH) ∧ W'.cell? ⟨w.heap.size + 1 + 1, 0, none⟩ = some (.int .i64 who) ∧ W'.cell? ⟨w.heap.size + 1 + 1, 1, none⟩ = some (.int .u8 what) ∧ W'.cell? ⟨w.heap.size + 1 + 1, 2, none⟩ = some (.int .i64 eu) ∧ W'.cell? ⟨w.heap.size + 1 + 1, 3, none⟩ = some (.int .i64 arc) ∧ W'.cell? ⟨w.heap.size + 1 + 1, 4, none⟩ = some (.int .i64 d0) ∧ W'.cell? ⟨w.heap.size + 1 + 1, 5, none⟩ = some (.int .i64 h0) ∧ W'.cell? ⟨w.heap.size + 1 + 1, 6, none⟩ = some (.int .i64 low)) (by kernel_rfl) (HKEEP.out _ (Below.refl _ _).drew) (fun hS0 => ?_)
  refine tk (v := ?_) 0 7 rfl ?_ ?_
  rotate_left
  · (intro W hSw; obtain ⟨-, a0, a1, a2, a3, a4, a5, a6, a7, a8, p0, p1, p2, e0, e1, e2, e3, e4, e5, e6⟩ := hSw; go_simp; try with_reducible rfl)
  simp only [Act.put, pa, pz, ps]
  refine tk (v := ?_) 1 8 rfl ?_ ?_
  rotate_left
  · (intro W hSw; obtain ⟨-, a0, a1, a2, a3, a4, a5, a6, a7, a8, p0, p1, p2, e0, e1, e2, e3, e4, e5, e6⟩ := hSw; go_simp; try with_reducible rfl)
  simp only [Act.put, pa, pz, ps]
  refine tk (v := ?_) 3 10 rfl ?_ ?_
  rotate_left
  · (intro W hSw; obtain ⟨-, a0, a1, a2, a3, a4, a5, a6, a7, a8, p0, p1, p2, e0, e1, e2, e3, e4, e5, e6⟩ := hSw; go_simp; try with_reducible rfl)
  simp only [Act.put, pa, pz, ps]
  refine wpAnyH_ready (rs := [2]) (by kernel_rfl) (by simp) ?_
  refine AllReadyH.cons rfl (fun K hK => ?_) AllReadyH.nil
  go_simp
  first
    | (go_at_call 36; ((with_reducible refine (HA.out _).mono ?_); rintro e W8 ⟨g, b, rfl, hMc, hg, hbb, B8⟩); refine hK.out _ _ (HKEEP.out _ (by first | exact below_step hS0.1 B8 | exact below_step hS3.1 B8)) (fun hS3 => ?_))
  clear hK K
  try simp only [Act.put, pa, pz, ps]
  refine wpAnyH_ready (rs := [4]) (by kernel_rfl) (by simp) ?_
  refine AllReadyH.cons rfl (fun K hK => ?_) AllReadyH.nil
  go_simp
  first
    | (go_at_call 42; ((with_reducible refine (HC.out _ _ _ (below_step HB1.out hS3.1) hMc).mono ?_); rintro e W9 ⟨rfl, B8⟩); refine hK.out _ _ (HKEEP.out _ (by first | exact below_step hS0.1 B8 | exact below_step hS3.1 B8)) (fun hS5 => ?_))
  clear hK K
  try simp only [Act.put, pa, pz, ps]
  refine tk (v := ?_) 5 6 rfl ?_ ?_
  rotate_left
  · (intro W hSw; obtain ⟨-, a0, a1, a2, a3, a4, a5, a6, a7, a8, p0, p1, p2, e0, e1, e2, e3, e4, e5, e6⟩ := hSw; go_simp; try with_reducible rfl)
  simp only [Act.put, pa, pz, ps]
  refine wpAnyH_done (by kernel_rfl) ?_ _
  obtain ⟨hB, -⟩ := hS5
  go_wp2_with fail
  go_ret
  exact ⟨rfl, below_step HB1.out hB⟩

end Go.Proofs.Ytanifbofjecpmaa
