/- Layer 5's statements: what Left gives, and that the row of what is left is the call's own. -/
import Derived.Test.YtnhfdmfciddmaaaLeftg
namespace Go.Proofs.Ytnhfdmfciddmaaa
open Go.RowKit
set_option maxRecDepth 100000

/-- What is left is answered. -/
def RetRes3 (l : List ArcN) (f : List Int) (M : Nat) (w : World) (e : Ending) (w' : World) : Prop :=
  ∃ (A : Option Addr) (c : Nat) (X : List Int), e = .returned (.tuple #[.slice A M c, .int .i64 0]) ∧ Ints w' w'.heap.size A M X ∧ ResOf l f M X ∧ Abv w.heap.size A ∧ Below w.heap.size w w' ∧ w'.ownsRow w.heap.size 2 1 (.slice A M c) M (X.map (Value.int .i64))

set_option maxHeartbeats 4000000 in
theorem rres_own (N M : Nat) (S T : Int) (K : CsrS) (l : List ArcN) (F H R C Ai : List Int) (B : List Bool) (Af : Option Addr) (nf cf : Nat) (f : List Int) (w : World) (hL : CsrL N l F H R C Ai B) (hIn : CsrIn w w.heap.size N M K F H R C Ai B) (hE : EndsIn N l)
    (hMe : firstOf l N = M) (hM : M ≤ 100000000) (hf : Ints w w.heap.size Af nf f) (hfl : FlowIn l f) (hcap : ∀ a ∈ l, 0 ≤ a.cap ∧ a.cap ≤ 4611686018427387903) :
    Calls Try.prog 28 #[csrW N M S T K, .slice Af nf cf] w (RetRes3 l f M w) := by
  obtain ⟨AF, cF, AH, cH, AR, cR, AC, cC, AA, cA, AB, cB⟩ := K
  obtain ⟨iF, iH, iR, iC, iA, iB⟩ := hIn
  dsimp only at *
  have hlf := hf.len
  have hfe := hfl.len
  have HL := Lib.hid hL; have HE := Lib.hid hE; have HMe := Lib.hid hMe; have HFL := Lib.hid hfl; have HCAP := Lib.hid hcap
  clear hL hE hMe hfl hcap iF iH
  go_enter Try.func28, Try.ntmps28
  go_wp2_with fail
  have X0 : Cx w (w.alloc (.cells #[.int .i64 N, .int .i64 S, .int .i64 T, .slice AF (N + 1) cF, .slice AH M cH, .slice AR M cR, .slice AC M cC, .slice AA M cA, .slice AB M cB] 29)) w.heap.size w.heap.size 29 #[.int .i64 N, .int .i64 S, .int .i64 T, .slice AF (N + 1) cF, .slice AH M cH, .slice AR M cR, .slice AC M cC, .slice AA M cA, .slice AB M cB] [⟨2, none, 0, 0, ([] : List Int).map (Value.int .i64)⟩] [] :=
    ⟨Blk.new rfl, ⟨fun i r hi => by
      cases i with
      | zero => simp at hi; subst hi; exact World.ownsRow_nil _ _ _ _
      | succ i => simp at hi, fun i j r s hij hi hj => by
      cases i with
      | zero => simp at hi; subst hi; intro g hg; cases hg
      | succ i => simp at hi⟩, by simp, by simp, ⟨Nat.le_refl _, by simp⟩, below_alloc _⟩
  go_loopw [6, 7] (fun o i wr => ∃ (k : Nat) (X : List Int) (A' : Option Addr) (c' : Nat), k ≤ M ∧ i = .int .i64 k ∧ o = .slice A' k c' ∧ LeftTo l f k X ∧
    Cx w wr w.heap.size w.heap.size 29 #[.int .i64 N, .int .i64 S, .int .i64 T, .slice AF (N + 1) cF, .slice AH M cH, .slice AR M cR, .slice AC M cC, .slice AA M cA, .slice AB M cB] [⟨2, A', k, c', X.map (Value.int .i64)⟩] []) (fun _ i _ => M - (intOf i).toNat)
  case atStart => exact ⟨0, [], none, 0, Nat.zero_le _, rfl, rfl, LeftTo.zero l f, X0⟩
  case round =>
    clear X0
    obtain ⟨k, X, A', c', hk, rfl, rfl, hX, X0⟩ := hrel
    have HX := Lib.hid hX; clear hX
    obtain ⟨a0, a1, a2, a3, a4, a5, a6, a7, a8⟩ := X0.kc.at9
    have hzc := X0.kc.lt
    by_cases hlt : k < M
    · obtain ⟨i, q, v, u, b, cc, hI, hp, hq, hql, e1, e2, e3, e4, e5⟩ := HL.out.at HE.out (k := k) (by rw [HMe.out]; exact hlt)
      obtain ⟨c2, hF⟩ := hI.flip
      have e6 := (HL.out.ent.ent _ _ _ _ _ hF (hF.ends HE.out).1 (by rw [hq]; exact hql)).2.1
      rw [hq] at e6
      rw [HMe.out] at hql
      have hil := hI.lt
      obtain ⟨x, hx⟩ : ∃ x, f[i]? = some x := ⟨_, List.getElem?_eq_getElem (by omega)⟩
      obtain ⟨a, ha⟩ : ∃ a, l[i]? = some a := ⟨_, List.getElem?_eq_getElem hil⟩
      have hxb := HFL.out.ent i a x ha hx
      have hcb := cap_both hI hF
      have hca : capAt l i = a.cap := by unfold capAt; rw [ha]
      have hb1 := inc_cap hI HCAP.out
      have hb2 := inc_cap hF HCAP.out
      have hb3 := HCAP.out a (mem_at ha)
      have hnn : i < nf := by omega
      have hn1 : ¬ (nf : Int) ≤ (i : Int) := by omega
      obtain ⟨bC, oC, rfl⟩ := iC.adr (by omega)
      obtain ⟨bR, oR, rfl⟩ := iR.adr (by omega)
      obtain ⟨bA, oA, rfl⟩ := iA.adr (by omega)
      obtain ⟨bf, of, rfl⟩ := hf.adr (by omega)
      obtain ⟨hb4, d1⟩ := (iC.below X0.bel).cel e3
      have d2 := ((iC.below X0.bel).cel e6).2
      obtain ⟨hb5, d3⟩ := (iR.below X0.bel).cel e2
      obtain ⟨hb6, d4⟩ := (iA.below X0.bel).cel e4
      obtain ⟨hb7, d5⟩ := (hf.below X0.bel).cel hx
      obtain ⟨bB, oB, b', eB, hb8, hbb, d6⟩ := bool_at (iB.below X0.bel) (k := k) hlt
      subst eB
      rw [e5] at hbb
      injection hbb with hbb
      subst hbb
      have hz0 := X0.bel.size
      have HST := Lib.hid (fun y (hy : y = if b = true then x else capAt l i - x) => HX.out.step hI (hI.ends HE.out).1 hp hx hy)
      have hw : IntKind.i64.wrap (cc + c2) = cc + c2 := wrap_in (by omega) (by omega)
      have hs0 : ¬ x < 0 := by omega
      have hs1 : ¬ cc + c2 < x := by omega
      have hs2 : decide (x < 0) = false := decide_eq_false hs0
      have hs3 : decide (cc + c2 < x) = false := decide_eq_false hs1
      have hq1 : q < M := hql
      have HCB := Lib.hid hcb
      have hX0 := Lib.hid X0
      have hbx : x ≤ cc + c2 := by omega
      have hbc : cc + c2 ≤ 4611686018427387903 := by omega
      have hx0 : 0 ≤ x := hxb.1
      clear X0 hI hF hp hq e1 e2 e3 e4 e5 e6 hx ha hxb hca hb3 hcb
      go_wp2_with fail
      go_quiet (fail)
      clear hw
      rename_i nq
      have hX1 : Hid (Cx w (wr.drewN nq) w.heap.size w.heap.size 29 _ _ _) := Lib.hid hX0.out.drew
      cases b
      all_goals
        go_wp2_with (at_builtin; first
          | refine wp_app hX1.out rfl (.tmp 59) (.tmp 64) _ _ _ rfl one_long 0 k c' A' _ (.int .i64 x) rfl rfl rfl rfl (by omega) (by simp) ?_
          | refine wp_app hX1.out rfl (.tmp 66) (.tmp 73) _ _ _ rfl one_long 0 k c' A' _ (.int .i64 (cc + c2 - x)) rfl rfl rfl rfl (by omega) (by simp) ?_)
        intro A2 cc2 w2 HX2
        clear a0 a1 a2 a3 a4 a5 a6 a7 a8 hzc
        go_wp2_with fail
        go_roundw
        case rel =>
          first
            | (refine ⟨k + 1, X ++ [cc + c2 - x], A2, cc2, by omega, by go_num, rfl, HST.out _ (by rw [if_neg (by simp), ← HCB.out]), ?_⟩
               have h := HX2.out
               simpa only [List.map_append, List.map_cons, List.map_nil, List.set_cons_zero, List.set_cons_succ] using h)
            | (refine ⟨k + 1, X ++ [x], A2, cc2, by omega, by go_num, rfl, HST.out _ (by simp), ?_⟩
               have h := HX2.out
               simpa only [List.map_append, List.map_cons, List.map_nil, List.set_cons_zero, List.set_cons_succ] using h)
        case measure => simp [intOf]; omega
    · obtain rfl : M = k := by omega
      have hX0 := Lib.hid X0; clear X0
      go_wp2_with fail
      go_ret2
      exact ⟨_, _, X, rfl, hX0.out.held.ints (i := 0) rfl HX.out.len, HX.out.done HE.out HMe.out, hX0.out.held.abv (i := 0) rfl, hX0.out.bel, hX0.out.held.own 0 _ rfl⟩

def RetLefto (N : Nat) (S T : Int) (l : List ArcN) (L : List Int) (w : World) (e : Ending) (w' : World) : Prop :=
  ∃ (x0 : Nat) (K : CsrS) (F H R C Ai : List Int) (B : List Bool) (A : Option Addr) (c : Nat) (f X : List Int), e = .returned (.tuple #[csrW N (firstOf l N) S T K, .slice A (firstOf l N) c]) ∧ CsrL N l F H R C Ai B ∧
    CsrIn w' x0 N (firstOf l N) K F H R C Ai B ∧ Ints w' w'.heap.size A (firstOf l N) X ∧ ResOf l f (firstOf l N) X ∧ WithinX l L l.length f ∧ Below w.heap.size w w' ∧ w'.ownsRow x0 2 1 (.slice A (firstOf l N) c) (firstOf l N) (X.map (Value.int .i64)) ∧ w.heap.size ≤ x0 ∧ x0 ≤ w'.heap.size

set_option maxHeartbeats 4000000 in
theorem left_own (N : Nat) (S T : Int) (A : Option Addr) (n c : Nat) (l : List ArcN) (AL : Option Addr) (nl cl : Nat) (L : List Int) (w : World) (hA : Arcs w w.heap.size A n l) (hck : checkF N S T l = 0) (hL : Ints w w.heap.size AL nl L) (hLR : ∀ x ∈ L, InR x)
    (hcap : ∀ a ∈ l, 0 ≤ a.cap ∧ a.cap < 1125899906842624) :
    Calls Try.prog 8 #[.agg #[.int .i64 N, .int .i64 S, .int .i64 T, .slice A n c], .slice AL nl cl] w (RetLefto N S T l L w) := by
  have hend := ends_in hck
  have hla := hA.len
  obtain ⟨hN2, hN3, hn3, hE, -, -, -, -, -, -, -⟩ := hend
  have hcs := csr_size hN3 hn3
  rw [hla] at hn3
  have HC := Lib.hid hck; have HE := Lib.hid hE; have HCAP := Lib.hid hcap; have HLR := Lib.hid hLR
  clear hck hE hcap hLR
  unfold RetLefto
  obtain ⟨M, hMe⟩ : ∃ M, firstOf l N = M := ⟨_, rfl⟩
  rw [hMe] at hcs ⊢
  go_enter Try.func8, Try.ntmps8
  go_wp2_with fail
  refine (rmake_good N S T A n c l _ ((hA.onAlloc _).onAlloc _) HC.out).mono ?_
  rintro e w1 ⟨⟨AF, cF, AH, cH, AR, cR, AC, cC, AA, cA, AB, cB⟩, F, H, R, C, Ai, B, rfl, hcl, I1, V1, B1⟩
  rw [hMe] at I1 ⊢
  dsimp only [csrW]
  have HM := Lib.hid hMe; have HCL := Lib.hid hcl
  clear hMe hcl
  have K1 : Blk w1 w.heap.size 24 #[.int .i64 N, .int .i64 S, .int .i64 T, .slice A n c] := ((Blk.new rfl).alloc _).below B1 (by simp <;> omega)
  have Z1 : Blk w1 (w.heap.size + 1) 29 #[.int .i64 0, .int .i64 0, .int .i64 0, .slice none 0 0, .slice none 0 0, .slice none 0 0, .slice none 0 0, .slice none 0 0, .slice none 0 0] := (Blk.new (by simp)).below B1 (by simp <;> omega)
  have Bw1 : Below w.heap.size w w1 := below_step ((below_alloc _).alloc (by simp) _) B1
  have a1 := ((hA.onAlloc (.cells #[.int .i64 N, .int .i64 S, .int .i64 T, .slice A n c] 24)).onAlloc (.cells #[.int .i64 0, .int .i64 0, .int .i64 0, .slice none 0 0, .slice none 0 0, .slice none 0 0, .slice none 0 0, .slice none 0 0, .slice none 0 0] 29)).on B1
  have L1 := ((hL.onAlloc (.cells #[.int .i64 N, .int .i64 S, .int .i64 T, .slice A n c] 24)).onAlloc (.cells #[.int .i64 0, .int .i64 0, .int .i64 0, .slice none 0 0, .slice none 0 0, .slice none 0 0, .slice none 0 0, .slice none 0 0, .slice none 0 0] 29)).on B1
  have hz1 := Z1.lt
  have hk1 := K1.lt
  clear B1 hA hL
  obtain ⟨r0, r1, r2, r3⟩ := K1.at4
  go_wp2_with fail
  have C2 : Blk (w1.alloc (.cells #[.int .i64 N, .int .i64 S, .int .i64 T, .slice AF (N + 1) cF, .slice AH M cH, .slice AR M cR, .slice AC M cC, .slice AA M cA, .slice AB M cB] 29)) w1.heap.size 29 _ := Blk.new rfl
  have K2 := K1.alloc (.cells #[.int .i64 N, .int .i64 S, .int .i64 T, .slice AF (N + 1) cF, .slice AH M cH, .slice AR M cR, .slice AC M cC, .slice AA M cA, .slice AB M cB] 29)
  have Z2 := Z1.alloc (.cells #[.int .i64 N, .int .i64 S, .int .i64 T, .slice AF (N + 1) cF, .slice AH M cH, .slice AR M cR, .slice AC M cC, .slice AA M cA, .slice AB M cB] 29)
  have I2 := I1.onAlloc (.cells #[.int .i64 N, .int .i64 S, .int .i64 T, .slice AF (N + 1) cF, .slice AH M cH, .slice AR M cR, .slice AC M cC, .slice AA M cA, .slice AB M cB] 29)
  have a2 := a1.onAlloc (.cells #[.int .i64 N, .int .i64 S, .int .i64 T, .slice AF (N + 1) cF, .slice AH M cH, .slice AR M cR, .slice AC M cC, .slice AA M cA, .slice AB M cB] 29)
  have L2 := L1.onAlloc (.cells #[.int .i64 N, .int .i64 S, .int .i64 T, .slice AF (N + 1) cF, .slice AH M cH, .slice AR M cR, .slice AC M cC, .slice AA M cA, .slice AB M cB] 29)
  have Bw2 := Bw1.alloc Bw1.size (.cells #[.int .i64 N, .int .i64 S, .int .i64 T, .slice AF (N + 1) cF, .slice AH M cH, .slice AR M cR, .slice AC M cC, .slice AA M cA, .slice AB M cB] 29)
  have hs2 : (w1.alloc (.cells #[.int .i64 N, .int .i64 S, .int .i64 T, .slice AF (N + 1) cF, .slice AH M cH, .slice AR M cR, .slice AC M cC, .slice AA M cA, .slice AB M cB] 29)).heap.size = w1.heap.size + 1 := by simp
  generalize (w1.alloc (.cells #[.int .i64 N, .int .i64 S, .int .i64 T, .slice AF (N + 1) cF, .slice AH M cH, .slice AR M cR, .slice AC M cC, .slice AA M cA, .slice AB M cB] 29)) = w2 at *
  have HS2 := Lib.hid hs2
  have hk2 := K2.lt; have hz2 := Z2.lt; have hc2 := C2.lt
  have hzc : w.heap.size + 1 ≠ w1.heap.size := by omega
  have HK2 := Lib.hid K2; have HZ2 := Lib.hid Z2; have HC2 := Lib.hid C2; have HI2 := Lib.hid I2; have HA2 := Lib.hid a2; have HL2 := Lib.hid L2; have HBw2 := Lib.hid Bw2
  clear K1 Z1 I1 a1 L1 Bw1 r0 r1 r2 r3 hz1 hk1 K2 Z2 C2 I2 a2 L2 Bw2 hs2
  have HWC : Hid (∀ a ∈ l, 0 ≤ a.cap ∧ a.cap < 1125899906842624) := HCAP
  go_upto_region 2 with fail
  have HAA := Lib.hid fun (W : World) (hb : Below w2.heap.size w2 W) => HA2.out.on hb
  have HLL := Lib.hid fun (W : World) (hb : Below w2.heap.size w2 W) => HL2.out.on hb
  have HII := Lib.hid fun (W : World) (hb : Below w2.heap.size w2 W) => HI2.out.on hb
  have HFI : Hid (∀ f, WithinX l L n f → FlowIn l f) := Lib.hid fun f h => h.base.flow hla
  have HCP : Hid (∀ a ∈ l, 0 ≤ a.cap ∧ a.cap ≤ 4611686018427387903) := Lib.hid fun a ha => by have := HCAP.out a ha; omega
  have HXL : Hid (∀ f, WithinX l L n f → f.length = n) := Lib.hid fun f h => h.base.len.trans hla
  have hM1 : M ≤ 100000000 := by omega
  go_region_held3 (fun W => Below w2.heap.size w2 W ∧ W.cell? ⟨w.heap.size, 0, none⟩ = some (.int .i64 (N : Int)) ∧ W.cell? ⟨w.heap.size, 1, none⟩ = some (.int .i64 S) ∧ W.cell? ⟨w.heap.size, 2, none⟩ = some (.int .i64 T) ∧ W.cell? ⟨w.heap.size, 3, none⟩ = some (.slice A n c) ∧
      W.cell? ⟨w1.heap.size, 0, none⟩ = some (.int .i64 (N : Int)) ∧ W.cell? ⟨w1.heap.size, 1, none⟩ = some (.int .i64 S) ∧ W.cell? ⟨w1.heap.size, 2, none⟩ = some (.int .i64 T) ∧ W.cell? ⟨w1.heap.size, 3, none⟩ = some (.slice AF (N + 1) cF) ∧ W.cell? ⟨w1.heap.size, 4, none⟩ = some (.slice AH M cH) ∧
      W.cell? ⟨w1.heap.size, 5, none⟩ = some (.slice AR M cR) ∧ W.cell? ⟨w1.heap.size, 6, none⟩ = some (.slice AC M cC) ∧ W.cell? ⟨w1.heap.size, 7, none⟩ = some (.slice AA M cA) ∧ W.cell? ⟨w1.heap.size, 8, none⟩ = some (.slice AB M cB))
    (first
      | exact left_keep HK2.out HC2.out (Below.refl _ _).drew
      | (go_split_ands
         exact left_keep HK2.out HC2.out (by refine below_step ?_ (by assumption); assumption)))
    (first
      | (go_at_call 29; go_split_ands; ((with_reducible refine (withinX_any N S T A n c l AL nl cl L _ (HAA.out _ (by assumption)) (by omega) HCAP.out (HLL.out _ (by assumption)) HLR.out).mono ?_); rintro e W3 ⟨g, X, rfl, hg, X3, WX, B3⟩))
      | (go_at_call 28; go_split_ands; ((with_reducible refine (rres_own N M S T ⟨AF, cF, AH, cH, AR, cR, AC, cC, AA, cA, AB, cB⟩ l F H R C Ai B _ n n _ _ HCL.out (HII.out _ (by assumption)) HE.out HM.out hM1 (X3.ints (HXL.out _ WX)) (HFI.out _ WX) HCP.out).mono ?_); rintro e W4 ⟨AX, cX, Y, rfl, IX, RX, VX, B4, OX⟩)))
  go_split_ands
  have Bw4 : Below w2.heap.size w2 W4 := by assumption
  have Bt := below_step HBw2.out Bw4
  have I4 := HI2.out.on Bw4
  have Z4 := HZ2.out.below Bw4 (by omega)
  have C4 := HC2.out.below Bw4 (by omega)
  obtain ⟨z0, z1, z2, z3, z4, z5, z6, z7, z8⟩ := Z4.at9
  obtain ⟨y0, y1, y2, y3, y4, y5, y6, y7, y8⟩ := Z4.free9
  have hzz := Z4.lt
  have hzc4 := C4.lt
  have hb3 : Below w2.heap.size w2 W3 := by assumption
  have I4b := (HII.out W3 hb3).below B4
  have hw3 : w.heap.size ≤ W3.heap.size := by have h3 := B3.size; simp at h3; omega
  have hw4 := B4.size
  have HI4b := Lib.hid I4b; have HOX := Lib.hid OX; have HW3 := Lib.hid (And.intro hw3 hw4)
  clear OX I4b hb3 hw3 hw4
  have HX := Lib.hid IX; have HI4 := Lib.hid I4; have HBt := Lib.hid Bt; have HZ4 := Lib.hid Z4; have HRX := Lib.hid RX; have HWX := Lib.hid WX
  clear IX I4 Bt RX WX Z4
  simp only [World.size_alloc] at V1
  have hvx : ∀ a, AX = some a → a.block ≠ w.heap.size + 1 := fun a e => by have := VX a e; have h3 := B3.size; simp at h3; omega
  have HVX := Lib.hid hvx
  have HV1 := Lib.hid V1
  clear V1 VX hvx
  go_wp2_with fail
  have hv : ∀ {A : Option Addr}, Abv (w.heap.size + 1 + 1) A → ∀ a, A = some a → a.block ≠ w.heap.size + 1 := fun h a e => by have := h a e; omega
  have KQ := HZ4.out.set9 (.int .i64 N) (.int .i64 S) (.int .i64 T) (.slice AF (N + 1) cF) (.slice AH M cH) (.slice AR M cR) (.slice AC M cC) (.slice AA M cA) (.slice AB M cB)
  obtain ⟨q0, q1, q2, q3, q4, q5, q6, q7, q8⟩ := KQ.at9
  refine bodyPost_ret (v := .tuple #[csrW N M S T ⟨AF, cF, AH, cH, AR, cR, AC, cC, AA, cA, AB, cB⟩, .slice AX M cX]) (by simp [results, Try.results8, go_sem, q0, q1, q2, q3, q4, q5, q6, q7, q8]) rfl ?_
  have hi := HI4b.out
  have va := HV1.out
  have hsz : ∀ (W : World) (a : Addr) (v : Value), (W.setCell a v).heap.size = W.heap.size := fun W a v => by simp
  refine ⟨W3.heap.size, ⟨AF, cF, AH, cH, AR, cR, AC, cC, AA, cA, AB, cB⟩, F, H, R, C, Ai, B, AX, cX, X, Y, rfl, HCL.out, ?_, ?_, HRX.out, by rw [hla]; exact HWX.out, ?_, ?_, HW3.out.1, ?_⟩
  · exact ⟨hi.iF.far9 (hv va.aF), hi.iH.far9 (hv va.aH), hi.iR.far9 (hv va.aR), hi.iC.far9 (hv va.aC), hi.iA.far9 (hv va.aA), hi.iB.far9 (hv va.aB)⟩
  · rw [hsz, hsz, hsz, hsz, hsz, hsz, hsz, hsz, hsz]
    exact HX.out.far9 HVX.out
  · exact ((((((((HBt.out.setCell (by simp) _).setCell (by simp) _).setCell (by simp) _).setCell (by simp) _).setCell (by simp) _).setCell (by simp) _).setCell (by simp) _).setCell (by simp) _).setCell (by simp) _
  · have hn : ∀ g, AX = some ⟨g, 0, none⟩ → g ≠ w.heap.size + 1 := fun g e => HVX.out _ e
    exact own_far (own_far (own_far (own_far (own_far (own_far (own_far (own_far (own_far HOX.out hn _) hn _) hn _) hn _) hn _) hn _) hn _) hn _) hn _
  · rw [hsz, hsz, hsz, hsz, hsz, hsz, hsz, hsz, hsz]
    exact HW3.out.2

/-- A residual network and what is left, by numbers, of which P holds; the row of what is left is the call's own. -/
def RetGridO (N : Nat) (S T : Int) (P : Nat → (Nat → Nat) → (Nat → Nat) → (Nat → Nat) → List Int → Prop) (w : World) (e : Ending) (w' : World) : Prop :=
  ∃ (x0 M : Nat) (K : CsrS) (fst hd rv : Nat → Nat) (A : Option Addr) (c : Nat) (X : List Int), e = .returned (.tuple #[csrW N M S T K, .slice A M c]) ∧ Grid N M fst hd rv ∧ GridIn w' x0 N M K fst hd rv ∧ Ints w' w'.heap.size A M X ∧
    P M fst hd rv X ∧ Below w.heap.size w w' ∧ w'.ownsRow x0 2 1 (.slice A M c) M (X.map (Value.int .i64)) ∧ w.heap.size ≤ x0 ∧ x0 ≤ w'.heap.size

theorem left_grid_own (N : Nat) (S T : Int) (A : Option Addr) (n c : Nat) (l : List ArcN) (AL : Option Addr) (nl cl : Nat) (L : List Int) (w : World) (hA : Arcs w w.heap.size A n l) (hck : checkF N S T l = 0) (hL : Ints w w.heap.size AL nl L) (hLR : ∀ x ∈ L, InR x)
    (hcap : ∀ a ∈ l, 0 ≤ a.cap ∧ a.cap < 1125899906842624) (hN : N ≤ 1001) (hn : n ≤ 1000) :
    Calls Try.prog 8 #[.agg #[.int .i64 N, .int .i64 S, .int .i64 T, .slice A n c], .slice AL nl cl] w (RetGridO N S T LeftOk w) := by
  have hla := hA.len
  have hE := (ends_in hck).2.2.2.1
  refine (left_own N S T A n c l AL nl cl L w hA hck hL hLR hcap).mono fun e w' h => ?_
  obtain ⟨x0, K, F, H, R, C, Ai, B, A, c, f, X, he, hc, hi, hx, hr, hw, hb, ho, hof⟩ := h
  obtain ⟨hg, e1, e2⟩ := hc.grid hE
  refine ⟨x0, firstOf l N, K, firstOf l, hdOf H, hdOf R, A, c, X, he, hg, ⟨?_, ?_, ?_⟩, hx, ⟨?_, ?_⟩, hb, ho, hof⟩
  · have := hi.iF
    rw [hc.fst] at this
    exact this
  · have := hi.iH
    rw [e1] at this
    exact this
  · have := hi.iR
    rw [e2] at this
    exact this
  · have h1 := firstOf_le l N
    have h2 := Nat.mul_le_mul hN (show l.length ≤ 1000 by omega)
    omega
  · exact left_bound hr (hw.base.flow rfl) fun a ha => by have := hcap a ha; omega

end Go.Proofs.Ytnhfdmfciddmaaa
