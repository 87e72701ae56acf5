/- Layer 5's statements: what Left gives, and that the row of what is left is the call's own. -/
import Derived.Test.YtanifbofjecpmaaLeftg
namespace Go.Proofs.Ytanifbofjecpmaa
open Go.RowKit
set_option maxRecDepth 100000

/-- What is left is answered. -/
def RetRes3 (l : List ArcN) (f : List Int) (M : Nat) (w : World) (e : Ending) (w' : World) : Prop :=
  ∃ (A : Option Addr) (c : Nat) (X : List Int), e = .returned (.tuple #[.slice A M c, .int .i64 0]) ∧ Ints w' w'.heap.size A M X ∧ ResOf l f M X ∧ Abv w.heap.size A ∧ Below w.heap.size w w' ∧ w'.ownsRow w.heap.size 2 1 (.slice A M c) M (X.map (Value.int .i64))

set_option maxHeartbeats 4000000 in
theorem rres_own (N M : Nat) (S T : Int) (K : CsrS) (l : List ArcN) (F H R C Ai : List Int) (B : List Bool) (Af : Option Addr) (nf cf : Nat) (f : List Int) (w : World) (hL : CsrL N l F H R C Ai B) (hIn : CsrIn w w.heap.size N M K F H R C Ai B) (hE : EndsIn N l)
    (hMe : firstOf l N = M) (hM : M ≤ 100000000) (hf : Ints w w.heap.size Af nf f) (hfl : FlowIn l f) (hcap : ∀ a ∈ l, 0 ≤ a.cap ∧ a.cap ≤ 4611686018427387903) :
    Calls Try.prog 29 #[csrW N M S T K, .slice Af nf cf] w (RetRes3 l f M w) := by
  obtain ⟨AF, cF, AH, cH, AR, cR, AC, cC, AA, cA, AB, cB⟩ := K
  obtain ⟨iF, iH, iR, iC, iA, iB⟩ := hIn
  dsimp only at *
  have hlf := hf.len
  have hfe := hfl.len
  have HL := Lib.hid hL; have HE := Lib.hid hE; have HMe := Lib.hid hMe; have HFL := Lib.hid hfl; have HCAP := Lib.hid hcap
  clear hL hE hMe hfl hcap iF iH
  go_enter Try.func29, Try.ntmps29
  go_wp2_with fail
  have X0 : Cx w (w.alloc (.cells #[.int .i64 N, .int .i64 S, .int .i64 T, .slice AF (N + 1) cF, .slice AH M cH, .slice AR M cR, .slice AC M cC, .slice AA M cA, .slice AB M cB] 32)) w.heap.size w.heap.size 32 #[.int .i64 N, .int .i64 S, .int .i64 T, .slice AF (N + 1) cF, .slice AH M cH, .slice AR M cR, .slice AC M cC, .slice AA M cA, .slice AB M cB] [⟨2, none, 0, 0, ([] : List Int).map (Value.int .i64)⟩] [] :=
    ⟨Blk.new rfl, ⟨fun i r hi => by
      cases i with
      | zero => simp at hi; subst hi; exact World.ownsRow_nil _ _ _ _
      | succ i => simp at hi, fun i j r s hij hi hj => by
      cases i with
      | zero => simp at hi; subst hi; intro g hg; cases hg
      | succ i => simp at hi⟩, by simp, by simp, ⟨Nat.le_refl _, by simp⟩, below_alloc _⟩
  go_loopw [6, 7] (fun o i wr => ∃ (k : Nat) (X : List Int) (A' : Option Addr) (c' : Nat), k ≤ M ∧ i = .int .i64 k ∧ o = .slice A' k c' ∧ LeftTo l f k X ∧
    Cx w wr w.heap.size w.heap.size 32 #[.int .i64 N, .int .i64 S, .int .i64 T, .slice AF (N + 1) cF, .slice AH M cH, .slice AR M cR, .slice AC M cC, .slice AA M cA, .slice AB M cB] [⟨2, A', k, c', X.map (Value.int .i64)⟩] []) (fun _ i _ => M - (intOf i).toNat)
  case atStart => exact ⟨0, [], none, 0, Nat.zero_le _, rfl, rfl, LeftTo.zero l f, X0⟩
  case round =>
    clear X0
    obtain ⟨k, X, A', c', hk, rfl, rfl, hX, X0⟩ := hrel
    have HX := Lib.hid hX; clear hX
    obtain ⟨a0, a1, a2, a3, a4, a5, a6, a7, a8⟩ := X0.kc.at9
    have hzc := X0.kc.lt
    by_cases hlt : k < M
    · obtain ⟨i, q, v, u, b, cc, hI, hp, hq, hql, e1, e2, e3, e4, e5⟩ := HL.out.at HE.out (k := k) (by rw [HMe.out]; exact hlt)
      obtain ⟨c2, hF⟩ := hI.flip
      have e6 := (HL.out.ent.ent _ _ _ _ _ hF (hF.ends HE.out).1 (by rw [hq]; exact hql)).2.1
      rw [hq] at e6
      rw [HMe.out] at hql
      have hil := hI.lt
      obtain ⟨x, hx⟩ : ∃ x, f[i]? = some x := ⟨_, List.getElem?_eq_getElem (by omega)⟩
      obtain ⟨a, ha⟩ : ∃ a, l[i]? = some a := ⟨_, List.getElem?_eq_getElem hil⟩
      have hxb := HFL.out.ent i a x ha hx
      have hcb := cap_both hI hF
      have hca : capAt l i = a.cap := by unfold capAt; rw [ha]
      have hb1 := inc_cap hI HCAP.out
      have hb2 := inc_cap hF HCAP.out
      have hb3 := HCAP.out a (mem_at ha)
      have hnn : i < nf := by omega
      have hn1 : ¬ (nf : Int) ≤ (i : Int) := by omega
      obtain ⟨bC, oC, rfl⟩ := iC.adr (by omega)
      obtain ⟨bR, oR, rfl⟩ := iR.adr (by omega)
      obtain ⟨bA, oA, rfl⟩ := iA.adr (by omega)
      obtain ⟨bf, of, rfl⟩ := hf.adr (by omega)
      obtain ⟨hb4, d1⟩ := (iC.below X0.bel).cel e3
      have d2 := ((iC.below X0.bel).cel e6).2
      obtain ⟨hb5, d3⟩ := (iR.below X0.bel).cel e2
      obtain ⟨hb6, d4⟩ := (iA.below X0.bel).cel e4
      obtain ⟨hb7, d5⟩ := (hf.below X0.bel).cel hx
      obtain ⟨bB, oB, b', eB, hb8, hbb, d6⟩ := bool_at (iB.below X0.bel) (k := k) hlt
      subst eB
      rw [e5] at hbb
      injection hbb with hbb
      subst hbb
      have hz0 := X0.bel.size
      have HST := Lib.hid (fun y (hy : y = if b = true then x else capAt l i - x) => HX.out.step hI (hI.ends HE.out).1 hp hx hy)
      have hw : IntKind.i64.wrap (cc + c2) = cc + c2 := wrap_in (by omega) (by omega)
      have hs0 : ¬ x < 0 := by omega
      have hs1 : ¬ cc + c2 < x := by omega
      have hs2 : decide (x < 0) = false := decide_eq_false hs0
      have hs3 : decide (cc + c2 < x) = false := decide_eq_false hs1
      have hq1 : q < M := hql
      have HCB := Lib.hid hcb
      have hX0 := Lib.hid X0
      have hbx : x ≤ cc + c2 := by omega
      have hbc : cc + c2 ≤ 4611686018427387903 := by omega
      have hx0 : 0 ≤ x := hxb.1
      clear X0 hI hF hp hq e1 e2 e3 e4 e5 e6 hx ha hxb hca hb3 hcb
      go_wp2_with fail
      go_quiet (fail)
      clear hw
      rename_i nq
      have hX1 : Hid (Cx w (wr.drewN nq) w.heap.size w.heap.size 32 _ _ _) := Lib.hid hX0.out.drew
      cases b
      all_goals
        go_wp2_with (at_builtin; first
          | refine wp_app hX1.out rfl (.tmp 59) (.tmp 64) _ _ _ rfl one_long 0 k c' A' _ (.int .i64 x) rfl rfl rfl rfl (by omega) (by simp) ?_
          | refine wp_app hX1.out rfl (.tmp 66) (.tmp 73) _ _ _ rfl one_long 0 k c' A' _ (.int .i64 (cc + c2 - x)) rfl rfl rfl rfl (by omega) (by simp) ?_)
        intro A2 cc2 w2 HX2
        clear a0 a1 a2 a3 a4 a5 a6 a7 a8 hzc
        go_wp2_with fail
        go_roundw
        case rel =>
          first
            | (refine ⟨k + 1, X ++ [cc + c2 - x], A2, cc2, by omega, by go_num, rfl, HST.out _ (by rw [if_neg (by simp), ← HCB.out]), ?_⟩
               have h := HX2.out
               simpa only [List.map_append, List.map_cons, List.map_nil, List.set_cons_zero, List.set_cons_succ] using h)
            | (refine ⟨k + 1, X ++ [x], A2, cc2, by omega, by go_num, rfl, HST.out _ (by simp), ?_⟩
               have h := HX2.out
               simpa only [List.map_append, List.map_cons, List.map_nil, List.set_cons_zero, List.set_cons_succ] using h)
        case measure => simp [intOf]; omega
    · obtain rfl : M = k := by omega
      have hX0 := Lib.hid X0; clear X0
      go_wp2_with fail
      go_ret2
      exact ⟨_, _, X, rfl, hX0.out.held.ints (i := 0) rfl HX.out.len, HX.out.done HE.out HMe.out, hX0.out.held.abv (i := 0) rfl, hX0.out.bel, hX0.out.held.own 0 _ rfl⟩

def RetLefto (N : Nat) (S T : Int) (l : List ArcN) (L : List Int) (w : World) (e : Ending) (w' : World) : Prop :=
  ∃ (x0 : Nat) (K : CsrS) (F H R C Ai : List Int) (B : List Bool) (A : Option Addr) (c : Nat) (f X : List Int), e = .returned (.tuple #[csrW N (firstOf l N) S T K, .slice A (firstOf l N) c]) ∧ CsrL N l F H R C Ai B ∧
    CsrIn w' x0 N (firstOf l N) K F H R C Ai B ∧ Ints w' w'.heap.size A (firstOf l N) X ∧ ResOf l f (firstOf l N) X ∧ WithinX l L l.length f ∧ Below w.heap.size w w' ∧ w'.ownsRow x0 2 1 (.slice A (firstOf l N) c) (firstOf l N) (X.map (Value.int .i64)) ∧ w.heap.size ≤ x0 ∧ x0 ≤ w'.heap.size


/-- A residual network and what is left, by numbers, of which P holds; the row of what is left is the call's own. -/
def RetGridO (N : Nat) (S T : Int) (P : Nat → (Nat → Nat) → (Nat → Nat) → (Nat → Nat) → List Int → Prop) (w : World) (e : Ending) (w' : World) : Prop :=
  ∃ (x0 M : Nat) (K : CsrS) (fst hd rv : Nat → Nat) (A : Option Addr) (c : Nat) (X : List Int), e = .returned (.tuple #[csrW N M S T K, .slice A M c]) ∧ Grid N M fst hd rv ∧ GridIn w' x0 N M K fst hd rv ∧ Ints w' w'.heap.size A M X ∧
    P M fst hd rv X ∧ Below w.heap.size w w' ∧ w'.ownsRow x0 2 1 (.slice A M c) M (X.map (Value.int .i64)) ∧ w.heap.size ≤ x0 ∧ x0 ≤ w'.heap.size


end Go.Proofs.Ytanifbofjecpmaa
