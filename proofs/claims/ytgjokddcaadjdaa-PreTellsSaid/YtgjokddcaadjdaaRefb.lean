/- The document's own answer for layer 1: vertex, Sum, Check of a right net. The document's own answer for layer 2: Make. (Written by wip/gen_make.py.) The document's own answer for layer 2: Res. -/
import Derived.Test.YtgjokddcaadjdaaChecks
import Derived.Test.YtgjokddcaadjdaaFacts
import Derived.Test.YtgjokddcaadjdaaHeld
import Derived.Test.YtgjokddcaadjdaaRefp
import Derived.Deep.QuietTactic
import Derived.BigQuiet
import Derived.Deep.DeepCutAuto
import Derived.Deep.CutBlock
/-! Refa -/
namespace Go.Proofs.Ytgjokddcaadjdaa
open Go.RowKit
set_option maxRecDepth 100000

set_option maxHeartbeats 400000 in
theorem rvertex_any (N S T v : Int) (A : Option Addr) (n c : Nat) (w : World) :
    Calls Try.prog 79 #[.agg #[.int .i64 N, .int .i64 S, .int .i64 T, .slice A n c], .int .i64 v] w fun e w' => e = .returned (.bool (isVertB N v)) ∧ Below w.heap.size w w' := by
  go_enter Try.func79, Try.ntmps79
  go_wp2
  all_goals go_ret
  all_goals refine ⟨ret_bool ?_, below_alloc _⟩
  all_goals (simp [isVertB]; try omega)

theorem rvertex_yes {N S T v : Int} {A : Option Addr} {n c : Nat} (h : 0 ≤ v ∧ v < N) (w : World) :
    Calls Try.prog 79 #[.agg #[.int .i64 N, .int .i64 S, .int .i64 T, .slice A n c], .int .i64 v] w fun e w' => e = .returned (.bool true) ∧ Below w.heap.size w w' :=
  (rvertex_any N S T v A n c w).mono fun e w' ⟨h1, h2⟩ => ⟨by rw [h1]; simp [isVertB, h], h2⟩

set_option maxHeartbeats 1000000 in
theorem rsum_any (N S T : Int) (A : Option Addr) (n c : Nat) (l : List ArcN) (w : World) (hA : Arcs w w.heap.size A n l) (hn : n ≤ 1000000000000) :
    Calls Try.prog 80 #[.agg #[.int .i64 N, .int .i64 S, .int .i64 T, .slice A n c]] w fun e w' => e = .returned (.tuple #[.int .i64 (sumV l), .bool (sumB l)]) ∧ Below w.heap.size w w' := by
  go_enter Try.func80, Try.ntmps80
  go_wp2
  go_loopw [4, 5, 6] (fun t i v wr => ∃ (k : Nat) (s : Int), k ≤ n ∧ i = .int .i64 k ∧ t = .int .i64 s ∧ 0 ≤ s ∧ s ≤ 4611686018427387904 ∧ sumOf l = sumFrom s (l.drop k) ∧ Below w.heap.size w wr ∧ wr.cell? ⟨w.heap.size, 3, none⟩ = some (.slice A n c) ∧ w.heap.size < wr.heap.size) (fun _ i _ _ => n - (intOf i).toNat)
  case atStart => exact ⟨0, 0, Nat.zero_le _, rfl, rfl, by omega, by omega, rfl, below_alloc _, by simp, by simp⟩
  case round =>
    obtain ⟨k, s, hk, rfl, rfl, hs0, hs1, hp, hb, h3, hz⟩ := hrel
    have HP := Lib.hid hp; clear hp
    by_cases hlt : k < n
    · obtain ⟨b, off, a, rfl, hbl, hla, c0, c1, c2⟩ := arcs_at (hA.below hb) hlt
      have HL := Lib.hid hla; clear hla
      by_cases hc : a.cap < 0
      · go_wp2
        go_ret2
        have h := sum_stop HL.out HP.out (.inl hc)
        exact ⟨ret_int_bool h.1.symm h.2.symm, hb⟩
      · by_cases hc' : 4611686018427387904 - s < a.cap
        · go_wp2
          go_ret2
          have h := sum_stop HL.out HP.out (.inr hc')
          exact ⟨ret_int_bool h.1.symm h.2.symm, hb⟩
        · go_wp2
          go_roundw
          case rel => exact ⟨k + 1, s + a.cap, by omega, by go_num, rfl, by omega, by omega, sum_next HL.out HP.out hc hc', hb, h3, hz⟩
          case measure => simp [intOf]; omega
    · go_wp2
      go_ret2
      have h := sum_end hA.len hlt HP.out
      exact ⟨ret_int_bool h.1.symm h.2.symm, hb⟩

set_option maxHeartbeats 4000000 in
theorem rcheck_good (N : Nat) (S T : Int) (A : Option Addr) (n c : Nat) (l : List ArcN) (w : World) (hA : Arcs w w.heap.size A n l) (hck : checkF N S T l = 0) :
    Calls Try.prog 41 #[.agg #[.int .i64 N, .int .i64 S, .int .i64 T, .slice A n c]] w fun e w' => e = .returned (.int .i64 0) ∧ Below w.heap.size w w' := by
  obtain ⟨-, -, -, -, hcb, hsb⟩ := check_ok hck
  obtain ⟨hN2, hN3, hn3, hE, hS0, hS1, hT0, hT1, hST, hnn, -⟩ := ends_in hck
  rw [hA.len] at hn3
  have HE := Lib.hid hE; have HNN := Lib.hid hnn; have HSB := Lib.hid hsb
  have hN2' : ¬ (N : Int) < 2 := by omega
  have hN3' : ¬ (4096 : Int) < (N : Int) := by omega
  have hn3' : ¬ (16384 : Int) < (n : Int) := by omega
  have hdst : (S == T) = false := beq_false_of_ne hST
  clear hE hnn hsb hcb hck
  go_enter Try.func41, Try.ntmps41
  go_wp2_with fail
  refine (rvertex_yes ⟨hS0, hS1⟩ _).mono ?_
  rintro e w1 ⟨rfl, B1⟩
  have K1 : Blk w1 w.heap.size 24 #[.int .i64 N, .int .i64 S, .int .i64 T, .slice A n c] := (Blk.new rfl).below B1 (by simp)
  have Bw1 := below_step (below_alloc _) B1
  clear B1
  obtain ⟨r0, r1, r2, r3⟩ := K1.at4
  have hz1 := K1.lt
  go_wp2_with fail
  refine (rvertex_yes ⟨hT0, hT1⟩ _).mono ?_
  rintro e w2 ⟨rfl, B2⟩
  have K2 := K1.below B2 K1.lt
  have Bw2 := below_step Bw1 B2
  clear B2 Bw1 K1 r0 r1 r2 r3 hz1
  obtain ⟨r0, r1, r2, r3⟩ := K2.at4
  have hz2 := K2.lt
  go_wp2_with fail
  clear r0 r1 r2 r3 hz2
  have hz0 : w.heap.size ≤ w2.heap.size := Bw2.size
  go_loopw [3, 4, 5] (fun t i v wr => ∃ (k : Nat), k ≤ n ∧ i = .int .i64 k ∧ t = .bool false ∧ Below w.heap.size w wr ∧ Blk wr w.heap.size 24 #[.int .i64 N, .int .i64 S, .int .i64 T, .slice A n c]) (fun _ i _ _ => n - (intOf i).toNat)
  case atStart => exact ⟨0, Nat.zero_le _, rfl, rfl, Bw2, K2⟩
  case round =>
    obtain ⟨k, hk, rfl, rfl, hb, K⟩ := hrel
    clear K2 Bw2 hz0
    obtain ⟨r0, r1, r2, r3⟩ := K.at4
    have hzr := K.lt
    by_cases hlt : k < n
    · obtain ⟨b, off, a, rfl, hbl, hla, c0, c1, c2⟩ := arcs_at (hA.below hb) hlt
      have he := HE.out _ (mem_at hla)
      have hc0 := HNN.out _ (mem_at hla)
      have hc0' : decide (a.cap < 0) = false := decide_eq_false (by omega)
      clear hla
      go_wp2_with fail
      refine (rvertex_yes ⟨he.1, he.2.1⟩ _).mono ?_
      rintro e w3 ⟨rfl, B3⟩
      have K3 := (K.alloc (.cells #[.int .i64 a.frm, .int .i64 a.to, .int .i64 a.cap] 68)).below B3 (K.alloc _).lt
      have A3 : Blk w3 wr.heap.size 68 #[.int .i64 a.frm, .int .i64 a.to, .int .i64 a.cap] := (Blk.new rfl).below B3 (by simp)
      have Bw3 := below_step (hb.alloc hb.size (.cells #[.int .i64 a.frm, .int .i64 a.to, .int .i64 a.cap] 68)) B3
      clear B3 K r0 r1 r2 r3
      obtain ⟨r0, r1, r2, r3⟩ := K3.at4
      have q0 := A3.cell 0; have q1 := A3.cell 1; have q2 := A3.cell 2
      simp only [List.getElem?_toArray, List.getElem?_cons_zero, List.getElem?_cons_succ] at q0 q1 q2
      have hz3 := K3.lt; have hz4 := A3.lt
      go_wp2_with fail
      refine (rvertex_yes ⟨he.2.2.1, he.2.2.2⟩ _).mono ?_
      rintro e w4 ⟨rfl, B4⟩
      have K4 := K3.below B4 K3.lt
      have A4 := A3.below B4 A3.lt
      have Bw4 := below_step Bw3 B4
      clear B4 K3 A3 Bw3 r0 r1 r2 r3 q0 q1 q2 hz3 hz4
      have q2 := A4.cell 2
      simp only [List.getElem?_toArray, List.getElem?_cons_zero, List.getElem?_cons_succ] at q2
      have hz4 := A4.lt
      go_wp2_with fail
      go_roundw
      case rel => exact ⟨k + 1, by omega, by go_num, rfl, Bw4, K4⟩
      case measure => simp [intOf]; omega
    · go_wp2_with fail
      refine (rsum_any N S T A n c l _ ((hA.below hb).more hb.size) (by omega)).mono ?_
      rintro e w5 ⟨rfl, B5⟩
      rw [HSB.out]
      go_wp2_with fail
      go_ret
      exact ⟨rfl, below_step hb B5⟩

end Go.Proofs.Ytgjokddcaadjdaa

/-! Refb -/
namespace Go.Proofs.Ytgjokddcaadjdaa
open Go.RowKit
set_option maxRecDepth 100000

/-- Where the rows of a residual network lie. -/
structure CsrS where
  AF : Option Addr
  cF : Nat
  AH : Option Addr
  cH : Nat
  AR : Option Addr
  cR : Nat
  AC : Option Addr
  cC : Nat
  AA : Option Addr
  cA : Nat
  AB : Option Addr
  cB : Nat
abbrev csrW (N M : Nat) (S T : Int) (K : CsrS) : Value :=
  .agg #[.int .i64 N, .int .i64 S, .int .i64 T, .slice K.AF (N + 1) K.cF, .slice K.AH M K.cH, .slice K.AR M K.cR, .slice K.AC M K.cC, .slice K.AA M K.cA, .slice K.AB M K.cB]
/-- These rows stand there. -/
structure CsrIn (w : World) (x N M : Nat) (K : CsrS) (F H R C Ai : List Int) (B : List Bool) : Prop where
  iF : Ints w x K.AF (N + 1) F
  iH : Ints w x K.AH M H
  iR : Ints w x K.AR M R
  iC : Ints w x K.AC M C
  iA : Ints w x K.AA M Ai
  iB : Bools w x K.AB M B
section
variable {w w' : World} {x y N M : Nat} {K : CsrS} {F H R C Ai : List Int} {B : List Bool}
theorem CsrIn.below (h : CsrIn w x N M K F H R C Ai B) (hb : Below x w w') : CsrIn w' x N M K F H R C Ai B := ⟨h.iF.below hb, h.iH.below hb, h.iR.below hb, h.iC.below hb, h.iA.below hb, h.iB.below hb⟩
theorem CsrIn.more (h : CsrIn w x N M K F H R C Ai B) (hb : x ≤ y) : CsrIn w y N M K F H R C Ai B := ⟨h.iF.more hb, h.iH.more hb, h.iR.more hb, h.iC.more hb, h.iA.more hb, h.iB.more hb⟩
theorem CsrIn.on (h : CsrIn w w.heap.size N M K F H R C Ai B) (hb : Below w.heap.size w w') : CsrIn w' w'.heap.size N M K F H R C Ai B := (h.below hb).more hb.size
theorem CsrIn.onAlloc (h : CsrIn w w.heap.size N M K F H R C Ai B) (o : Obj) : CsrIn (w.alloc o) (w.alloc o).heap.size N M K F H R C Ai B := h.on (below_alloc o)
end
theorem Ints.adr {w : World} {B n : Nat} {A : Option Addr} {L : List Int} (h : Ints w B A n L) (hn : 0 < n) : ∃ b off, A = some ⟨b, off, none⟩ := by
  obtain ⟨b, off, e, _⟩ := h.2 hn
  exact ⟨b, off, e⟩
theorem Ints.cel {w : World} {B n b off k : Nat} {L : List Int} {x : Int} (h : Ints w B (some ⟨b, off, none⟩) n L) (hx : L[k]? = some x) : b < B ∧ w.cell? ⟨b, off + k, none⟩ = some (.int .i64 x) := by
  have hk := (List.getElem?_eq_some_iff.1 hx).1
  obtain ⟨b', off', y, e, hb, hy, hc⟩ := intl_at h (k := k) (by have := h.len; omega)
  injection e with e
  injection e with e1 e2 _
  subst e1; subst e2
  rw [hx] at hy
  injection hy with hy
  subst hy
  exact ⟨hb, hc⟩

/-- A row, if it is any, lies at x or above. -/
def Abv (x : Nat) (A : Option Addr) : Prop := ∀ a, A = some a → x ≤ a.block
theorem RdBy.farB {α : Type} {f : α → List Value} {size : Nat} {w : World} {B n : Nat} {A : Option Addr} {L : List α} (h : RdBy f size w B A n L) {g : Nat} (hg : ∀ a, A = some a → a.block ≠ g) (i : Nat) (u : Value) : RdBy f size (w.setCell ⟨g, i, none⟩ u) B A n L :=
  ⟨h.1, fun hn => by
    obtain ⟨b, off, e, hb, hc⟩ := h.2 hn
    refine ⟨b, off, e, hb, fun k a ha j u' hu => ?_⟩
    rw [← hc k a ha j u' hu]
    exact World.cell?_of_block (Below.heap_setCell w ⟨g, i, none⟩ u b (hg _ e))⟩
theorem RdBy.far9 {α : Type} {f : α → List Value} {size : Nat} {w : World} {B n : Nat} {A : Option Addr} {L : List α} {u0 u1 u2 u3 u4 u5 u6 u7 u8 : Value} (h : RdBy f size w B A n L) {g : Nat} (hg : ∀ a, A = some a → a.block ≠ g) :
    RdBy f size (((((((((w.setCell ⟨g, 0, none⟩ u0).setCell ⟨g, 1, none⟩ u1).setCell ⟨g, 2, none⟩ u2).setCell ⟨g, 3, none⟩ u3).setCell ⟨g, 4, none⟩ u4).setCell ⟨g, 5, none⟩ u5).setCell ⟨g, 6, none⟩ u6).setCell ⟨g, 7, none⟩ u7).setCell ⟨g, 8, none⟩ u8) B A n L :=
  ((((((((h.farB hg 0 u0).farB hg 1 u1).farB hg 2 u2).farB hg 3 u3).farB hg 4 u4).farB hg 5 u5).farB hg 6 u6).farB hg 7 u7).farB hg 8 u8
/-- All rows do. -/
structure CsrAbv (x : Nat) (K : CsrS) : Prop where
  aF : Abv x K.AF
  aH : Abv x K.AH
  aR : Abv x K.AR
  aC : Abv x K.AC
  aA : Abv x K.AA
  aB : Abv x K.AB

/-- A residual network is answered. -/
def RetMake (N : Nat) (S T : Int) (l : List ArcN) (w : World) (e : Ending) (w' : World) : Prop :=
  ∃ (K : CsrS) (F H R C Ai : List Int) (B : List Bool), e = .returned (.tuple #[csrW N (firstOf l N) S T K, .int .i64 0]) ∧ CsrL N l F H R C Ai B ∧ CsrIn w' w'.heap.size N (firstOf l N) K F H R C Ai B ∧ CsrAbv w.heap.size K ∧ Below w.heap.size w w'

section
variable {w : World} {base g : Nat} {rs : List Rw} {t : TypeId} {cs : Array Value}
theorem Held.far (h : Held w base rs) (hk : Blk w g t cs) (ht : ∀ r ∈ rs, r.t ≠ t) (i : Nat) (u : Value) : Held (w.setCell ⟨g, i, none⟩ u) base rs :=
  (Cx.store (w0 := w) (base := 0) (oth := []) ⟨hk, ⟨fun i r hr => own_less (h.own i r hr) (Nat.zero_le _), h.ne⟩, fun _ h => (by simp at h), ht, ⟨Nat.zero_le _, Nat.zero_le _⟩, Below.refl _ _⟩ i u).held |> fun k => ⟨fun j r hr => by
    have h1 := k.own j r hr
    have h2 := h.own j r hr
    refine ⟨h1.1, h1.2.imp id ?_⟩
    rintro ⟨g', cap, cur, hv, _, rest⟩
    exact ⟨g', cap, cur, hv, (h2.lt g' (by rw [hv]; rfl)).1, rest⟩, k.ne⟩
theorem Held.far9 {u0 u1 u2 u3 u4 u5 u6 u7 u8 : Value} (h : Held w base rs) (hk : Blk w g t cs) (ht : ∀ r ∈ rs, r.t ≠ t) :
    Held (((((((((w.setCell ⟨g, 0, none⟩ u0).setCell ⟨g, 1, none⟩ u1).setCell ⟨g, 2, none⟩ u2).setCell ⟨g, 3, none⟩ u3).setCell ⟨g, 4, none⟩ u4).setCell ⟨g, 5, none⟩ u5).setCell ⟨g, 6, none⟩ u6).setCell ⟨g, 7, none⟩ u7).setCell ⟨g, 8, none⟩ u8) base rs := by
  have s := fun (W : World) (cs : Array Value) (h : Held W base rs) (hk : Blk W g t cs) (i : Nat) (u : Value) => And.intro (h.far hk ht i u) (hk.set i u)
  have h1 := s _ _ h hk 0 u0
  have h2 := s _ _ h1.1 h1.2 1 u1
  have h3 := s _ _ h2.1 h2.2 2 u2
  have h4 := s _ _ h3.1 h3.2 3 u3
  have h5 := s _ _ h4.1 h4.2 4 u4
  have h6 := s _ _ h5.1 h5.2 5 u5
  have h7 := s _ _ h6.1 h6.2 6 u6
  have h8 := s _ _ h7.1 h7.2 7 u7
  exact (s _ _ h8.1 h8.2 8 u8).1
theorem Held.ints {i n c : Nat} {e : TypeId} {A : Option Addr} {L : List Int} (h : Held w base rs) (hr : rs[i]? = some ⟨e, A, n, c, L.map (Value.int .i64)⟩) (hl : L.length = n) : Ints w w.heap.size A n L := by
  have h1 := h.own i _ hr
  simp only [ivs_flat] at h1
  exact RdBy.of_own hl (int_len L) h1
theorem Held.abv {i n c : Nat} {e : TypeId} {A : Option Addr} {xs : List Value} (h : Held w base rs) (hr : rs[i]? = some ⟨e, A, n, c, xs⟩) : Abv base A := fun a ea => ((h.own i _ hr).lt a.block (by simp [Rw.v, ea, Value.ownBlock])).1
theorem bvs_flat : ∀ (L : List Bool), L.map Value.bool = L.flatMap boolCells
  | [] => rfl
  | x :: r => by simp [boolCells, bvs_flat r]
theorem Held.bools {i n c : Nat} {e : TypeId} {A : Option Addr} {L : List Bool} (h : Held w base rs) (hr : rs[i]? = some ⟨e, A, n, c, L.map Value.bool⟩) (hl : L.length = n) : Bools w w.heap.size A n L := by
  have h1 := h.own i _ hr
  simp only [bvs_flat] at h1
  exact RdBy.of_own hl (fun _ _ => rfl) h1
end

theorem mk_held0 (w : World) (base : Nat) : Held w base [⟨3, none, 0, 0, ([] : List Int).map (Value.int .i64)⟩, ⟨3, none, 0, 0, ([] : List Int).map (Value.int .i64)⟩, ⟨3, none, 0, 0, ([] : List Int).map (Value.int .i64)⟩, ⟨2, none, 0, 0, ([] : List Int).map (Value.int .i64)⟩, ⟨3, none, 0, 0, ([] : List Int).map (Value.int .i64)⟩, ⟨4, none, 0, 0, ([] : List Bool).map Value.bool⟩] := by
  have h : ∀ (rs : List Rw), (∀ r ∈ rs, r.A = none ∧ r.n = 0 ∧ r.c = 0 ∧ r.xs = []) → Held w base rs := fun rs hr =>
    ⟨fun i r hi => by
      obtain ⟨h1, h2, h3, h4⟩ := hr r (List.mem_of_getElem? hi)
      unfold Rw.v
      rw [h1, h2, h3, h4]
      exact World.ownsRow_nil _ _ _ _, fun i j r s _ hi _ g hg => by
      obtain ⟨h1, _⟩ := hr r (List.mem_of_getElem? hi)
      unfold Rw.v at hg
      rw [h1] at hg
      cases hg⟩
  exact h _ (by simp)
theorem Cx.drew {w0 w : World} {base gc n : Nat} {tc : TypeId} {vc : Array Value} {rs : List Rw} {oth : List (Nat × TypeId × Array Value)} (h : Cx w0 w base gc tc vc rs oth) : Cx w0 (w.drewN n) base gc tc vc rs oth :=
  ⟨h.kc, ⟨fun i r hr => h.held.own i r hr, h.held.ne⟩, h.oth, h.tne, h.bas, below_drewN' h.bel n⟩

/-- The state of Make. -/
def MkSt (w0 w : World) (gc N : Nat) (S T : Int) (A : Option Addr) (n c : Nat) (nF m nR : Nat) (F H R C Ai : List Int) (B : List Bool) : Prop :=
  ∃ AF cF AH cH AR cR AC cC AA cA AB cB, Cx w0 w w0.heap.size gc 32 #[.int .i64 N, .int .i64 S, .int .i64 T, .slice AF nF cF, .slice AH m cH, .slice AR nR cR, .slice AC m cC, .slice AA m cA, .slice AB m cB] [⟨3, AF, nF, cF, (F).map (Value.int .i64)⟩, ⟨3, AH, m, cH, (H).map (Value.int .i64)⟩, ⟨3, AR, nR, cR, (R).map (Value.int .i64)⟩, ⟨2, AC, m, cC, (C).map (Value.int .i64)⟩, ⟨3, AA, m, cA, (Ai).map (Value.int .i64)⟩, ⟨4, AB, m, cB, (B).map Value.bool⟩] [(w0.heap.size, 24, #[.int .i64 N, .int .i64 S, .int .i64 T, .slice A n c]), (w0.heap.size + 1, 32, #[.int .i64 0, .int .i64 0, .int .i64 0, .slice none 0 0, .slice none 0 0, .slice none 0 0, .slice none 0 0, .slice none 0 0, .slice none 0 0])]

set_option maxHeartbeats 16000000 in
theorem rmake_good (N : Nat) (S T : Int) (A : Option Addr) (n c : Nat) (l : List ArcN) (w : World) (hA : Arcs w w.heap.size A n l) (hck : checkF N S T l = 0) :
    Calls Try.prog 9 #[.agg #[.int .i64 N, .int .i64 S, .int .i64 T, .slice A n c]] w (RetMake N S T l w) := by
  have hend := ends_in hck
  have hla := hA.len
  obtain ⟨hN2, hN3, hn3, hE, -, -, -, -, -, -, -⟩ := hend
  have hcs := csr_size hN3 hn3
  rw [hla] at hn3
  have HC := Lib.hid hck; have HE := Lib.hid hE
  clear hck hE
  go_enter Try.func9, Try.ntmps9
  go_wp2_with fail
  refine (rcheck_good N S T A n c l _ ((hA.onAlloc _).onAlloc _) HC.out).mono ?_
  rintro e w1 ⟨rfl, B1⟩
  have K1 : Blk w1 w.heap.size 24 #[.int .i64 N, .int .i64 S, .int .i64 T, .slice A n c] := ((Blk.new rfl).alloc _).below B1 (by simp <;> omega)
  have Z1 : Blk w1 (w.heap.size + 1) 32 #[.int .i64 0, .int .i64 0, .int .i64 0, .slice none 0 0, .slice none 0 0, .slice none 0 0, .slice none 0 0, .slice none 0 0, .slice none 0 0] := (Blk.new (by simp)).below B1 (by simp <;> omega)
  have Bw1 : Below w.heap.size w w1 := below_step ((below_alloc _).alloc (by simp) _) B1
  have hz1 := Z1.lt
  clear B1
  obtain ⟨r0, r1, r2, r3⟩ := K1.at4
  go_wp2_with fail
  have C0 : Cx w (w1.alloc (.cells #[.int .i64 N, .int .i64 S, .int .i64 T, .slice none 0 0, .slice none 0 0, .slice none 0 0, .slice none 0 0, .slice none 0 0, .slice none 0 0] 32)) w.heap.size w1.heap.size 32 _ _ [(w.heap.size, 24, #[.int .i64 N, .int .i64 S, .int .i64 T, .slice A n c]), (w.heap.size + 1, 32, #[.int .i64 0, .int .i64 0, .int .i64 0, .slice none 0 0, .slice none 0 0, .slice none 0 0, .slice none 0 0, .slice none 0 0, .slice none 0 0])] :=
    ⟨Blk.new rfl, (mk_held0 _ w.heap.size), (by
      intro o ho
      simp only [List.mem_cons, List.not_mem_nil, or_false] at ho
      rcases ho with rfl | rfl
      · exact ⟨K1.alloc _, by simp only; omega, by simp⟩
      · exact ⟨Z1.alloc _, by simp only; omega, by simp⟩), (by simp), ⟨by omega, by simp; omega⟩, Bw1.alloc Bw1.size _⟩
  have hS0 : MkSt w (w1.alloc (.cells #[.int .i64 N, .int .i64 S, .int .i64 T, .slice none 0 0, .slice none 0 0, .slice none 0 0, .slice none 0 0, .slice none 0 0, .slice none 0 0] 32)) w1.heap.size N S T A n c 0 0 0 [] [] [] [] [] [] := ⟨none, 0, none, 0, none, 0, none, 0, none, 0, none, 0, C0⟩
  clear K1 Z1 r0 r1 r2 r3 Bw1 C0 hz1
  generalize w1.heap.size = gc at *
  go_loopw [6] (fun i wr => ∃ (v : Nat) (H C Ai : List Int) (B : List Bool), v ≤ N ∧ i = .int .i64 v ∧ Ent l (firstOf l v) H C Ai B ∧ MkSt w wr gc N S T A n c v (firstOf l v) 0 (tab v fun v => (firstOf l v : Int)) H [] C Ai B) (fun i _ => N - (intOf i).toNat)
  case atStart => exact ⟨0, [], [], [], [], Nat.zero_le _, rfl, Ent.zero l, hS0⟩
  case round =>
    clear hS0
    obtain ⟨v, H, C, Ai, B, hv, rfl, E0, AF, cF, AH, cH, AR, cR, AC, cC, AA, cA, AB, cB, X0⟩ := hrel
    have hfm := firstOf_mono l hv
    obtain ⟨m, hm⟩ : ∃ m, firstOf l v = m := ⟨_, rfl⟩
    rw [hm] at E0 X0 hfm
    have HM := Lib.hid hm; clear hm
    have HE0 := Lib.hid E0; clear E0
    obtain ⟨a0, a1, a2, a3, a4, a5, a6, a7, a8⟩ := X0.kc.at9
    obtain ⟨f0, f1, f2, f3, f4, f5, f6, f7, f8⟩ := X0.kc.free9
    have hzc := X0.kc.lt
    have knr := (X0.oth _ (List.mem_cons_self ..)).1
    have hnn := (X0.oth _ (List.mem_cons_self ..)).2.1
    obtain ⟨r0, r1, r2, r3⟩ := knr.at4
    have hzn := knr.lt
    try simp only at hzn
    try simp only at hnn
    by_cases hlt : v < N
    · have HX0 := Lib.hid X0; clear X0
      go_wp2_with (at_builtin; refine wp_app HX0.out rfl (.tmp 31) (.tmp 35) _ _ _ rfl one_int 0 v cF AF _ (.int .i64 (m : Int)) rfl rfl rfl rfl (by omega) (by simp) ?_)
      intro A1 c1 w1 HX1
      have C1 : Cx w w1 w.heap.size gc 32 #[.int .i64 N, .int .i64 S, .int .i64 T, .slice AF v cF, .slice AH m cH, .slice AR 0 cR, .slice AC m cC, .slice AA m cA, .slice AB m cB] [⟨3, A1, v + 1, c1, ((tab v fun v => (firstOf l v : Int)) ++ [(m : Int)]).map (Value.int .i64)⟩, ⟨3, AH, m, cH, (H).map (Value.int .i64)⟩, ⟨3, AR, 0, cR, (([] : List Int)).map (Value.int .i64)⟩, ⟨2, AC, m, cC, (C).map (Value.int .i64)⟩, ⟨3, AA, m, cA, (Ai).map (Value.int .i64)⟩, ⟨4, AB, m, cB, (B).map Value.bool⟩] [(w.heap.size, 24, #[.int .i64 N, .int .i64 S, .int .i64 T, .slice A n c]), (w.heap.size + 1, 32, #[.int .i64 0, .int .i64 0, .int .i64 0, .slice none 0 0, .slice none 0 0, .slice none 0 0, .slice none 0 0, .slice none 0 0, .slice none 0 0])] := by
        have h := HX1.out
        simpa only [List.map_append, List.map_cons, List.map_nil, List.set_cons_zero, List.set_cons_succ] using h
      have D1 : Cx w (w1.setCell ⟨gc, 3, none⟩ (.slice A1 (v + 1) c1)) w.heap.size gc 32 #[.int .i64 N, .int .i64 S, .int .i64 T, .slice A1 (v + 1) c1, .slice AH m cH, .slice AR 0 cR, .slice AC m cC, .slice AA m cA, .slice AB m cB] [⟨3, A1, v + 1, c1, ((tab v fun v => (firstOf l v : Int)) ++ [(m : Int)]).map (Value.int .i64)⟩, ⟨3, AH, m, cH, (H).map (Value.int .i64)⟩, ⟨3, AR, 0, cR, (([] : List Int)).map (Value.int .i64)⟩, ⟨2, AC, m, cC, (C).map (Value.int .i64)⟩, ⟨3, AA, m, cA, (Ai).map (Value.int .i64)⟩, ⟨4, AB, m, cB, (B).map Value.bool⟩] [(w.heap.size, 24, #[.int .i64 N, .int .i64 S, .int .i64 T, .slice A n c]), (w.heap.size + 1, 32, #[.int .i64 0, .int .i64 0, .int .i64 0, .slice none 0 0, .slice none 0 0, .slice none 0 0, .slice none 0 0, .slice none 0 0, .slice none 0 0])] := by simpa using C1.store 3 (.slice A1 (v + 1) c1)
      clear a0 a1 a2 a3 a4 a5 a6 a7 a8 f0 f1 f2 f3 f4 f5 f6 f7 f8 hzc knr r0 r1 r2 r3 hzn hnn HX1
      obtain ⟨a0, a1, a2, a3, a4, a5, a6, a7, a8⟩ := C1.kc.at9
      obtain ⟨f0, f1, f2, f3, f4, f5, f6, f7, f8⟩ := C1.kc.free9
      have hzc := C1.kc.lt
      have knr := (C1.oth _ (List.mem_cons_self ..)).1
      have hnn := (C1.oth _ (List.mem_cons_self ..)).2.1
      obtain ⟨r0, r1, r2, r3⟩ := knr.at4
      have hzn := knr.lt
      try simp only at hzn
      try simp only at hnn
      have HD1 := Lib.hid D1
      clear C1 D1 HX0
      go_wp2_with fail
      have hS1 : MkSt w (w1.setCell ⟨gc, 3, none⟩ (.slice A1 (v + 1) c1)) gc N S T A n c (v + 1) m 0 (tab (v + 1) fun v => (firstOf l v : Int)) H [] C Ai B := by
        rw [tab_succ, HM.out]
        exact ⟨_, _, _, _, _, _, _, _, _, _, _, _, HD1.out⟩
      clear a0 a1 a2 a3 a4 a5 a6 a7 a8 f0 f1 f2 f3 f4 f5 f6 f7 f8 hzc knr r0 r1 r2 r3 hzn hnn HD1
      go_loopw [7] (fun i wr => ∃ (k : Nat) (H C Ai : List Int) (B : List Bool), k ≤ n ∧ i = .int .i64 k ∧ Ent l (nextAt l v k) H C Ai B ∧ MkSt w wr gc N S T A n c (v + 1) (nextAt l v k) 0 (tab (v + 1) fun v => (firstOf l v : Int)) H [] C Ai B) (fun i _ => n - (intOf i).toNat)
      case atStart => exact ⟨0, H, C, Ai, B, Nat.zero_le _, rfl, by rw [next_zero, HM.out]; exact HE0.out, by rw [next_zero, HM.out]; exact hS1⟩
      case round =>
        clear hS1 HE0
        obtain ⟨k, H, C, Ai, B, hk, rfl, E0, AF, cF, AH, cH, AR, cR, AC, cC, AA, cA, AB, cB, X0⟩ := hrel
        have hnx := next_le (l := l) v k N hlt
        obtain ⟨p, hp⟩ : ∃ p, nextAt l v k = p := ⟨_, rfl⟩
        rw [hp] at E0 X0 hnx
        have HP := Lib.hid hp; clear hp
        have HE0 := Lib.hid E0; clear E0
        obtain ⟨a0, a1, a2, a3, a4, a5, a6, a7, a8⟩ := X0.kc.at9
        obtain ⟨f0, f1, f2, f3, f4, f5, f6, f7, f8⟩ := X0.kc.free9
        have hzc := X0.kc.lt
        have knr := (X0.oth _ (List.mem_cons_self ..)).1
        have hnn := (X0.oth _ (List.mem_cons_self ..)).2.1
        obtain ⟨r0, r1, r2, r3⟩ := knr.at4
        have hzn := knr.lt
        try simp only at hzn
        try simp only at hnn
        by_cases hkn : k < n
        · obtain ⟨ba, oa, ⟨f, u, z⟩, rfl, hba, hl, c0, c1', c2⟩ := arcs_at (hA.below X0.bel) hkn
          have he := HE.out _ (mem_at hl)
          simp only at he c0 c1' c2
          obtain ⟨f, rfl⟩ := Int.eq_ofNat_of_zero_le he.1
          obtain ⟨u, rfl⟩ := Int.eq_ofNat_of_zero_le he.2.2.1
          have hfN : f < N := by omega
          have huN : u < N := by omega
          have HL := Lib.hid hl
          have hbs := X0.bas.2
          clear hl he
          have X1 : Cx w (wr.alloc (.cells #[.int .i64 (f : Int), .int .i64 (u : Int), .int .i64 z] 68)) w.heap.size gc 32 _ _ _ := (X0.alloc _).more (b := wr.heap.size) (t := 68) (cs := #[.int .i64 (f : Int), .int .i64 (u : Int), .int .i64 z]) (Blk.new rfl) (by omega) (by simp)
          have hX1 := Lib.hid X1; clear X1
          by_cases hfu : f = u
          · subst hfu
            have HN : Hid (nextAt l v (k + 1) = p) := by rw [next_skip HL.out (by simp [touch]), HP.out]; exact Lib.hid rfl
            go_wp2_with fail
            go_roundw
            case rel => exact ⟨k + 1, H, C, Ai, B, by omega, by go_num, by rw [HN.out]; exact HE0.out, by rw [HN.out]; exact ⟨_, _, _, _, _, _, _, _, _, _, _, _, (hX1.out.less (by simp))⟩⟩
            case measure => simp [intOf]; omega
          · have hne1 : ¬ (f : Int) = (u : Int) := by omega
            have hne2 : ((f : Int) == (u : Int)) = false := beq_false_of_ne hne1
            by_cases hfv : f = v
            · subst hfv
              have hne3 : ¬ (u : Int) = (f : Int) := by omega
              have hne4 : ((u : Int) == (f : Int)) = false := beq_false_of_ne hne3
              have HN : Hid (nextAt l f (k + 1) = p + 1) := by rw [next_step HL.out (by simp [touch]; omega), HP.out]; exact Lib.hid rfl
              have hI : Inc l k (f : Int) (u : Int) false z := inc_fwd HL.out (by simp; omega)
              have HE1 := Lib.hid (HE0.out.step hI (by omega) ((next_pos f k).trans HP.out))
              clear hI HE0
              have hza : wr.heap.size < wr.heap.size + 1 := by omega
              have kar := True.intro; have q0 := True.intro; have q1 := True.intro; have q2 := True.intro; have hna := True.intro
              go_wp2_with (at_builtin; refine wp_app hX1.out rfl (.tmp 60) (.tmp 63) _ _ _ rfl one_int 1 p cH AH _ (.int .i64 (u : Int)) rfl rfl rfl rfl (by omega) (by simp) ?_)
              intro A2 c2 w2 HX2
              have C2 : Cx w w2 w.heap.size gc 32 #[.int .i64 N, .int .i64 S, .int .i64 T, .slice AF (f + 1) cF, .slice AH p cH, .slice AR 0 cR, .slice AC p cC, .slice AA p cA, .slice AB p cB] [⟨3, AF, f + 1, cF, ((tab (f + 1) fun v => (firstOf l v : Int))).map (Value.int .i64)⟩, ⟨3, A2, p + 1, c2, (H ++ [(u : Int)]).map (Value.int .i64)⟩, ⟨3, AR, 0, cR, (([] : List Int)).map (Value.int .i64)⟩, ⟨2, AC, p, cC, (C).map (Value.int .i64)⟩, ⟨3, AA, p, cA, (Ai).map (Value.int .i64)⟩, ⟨4, AB, p, cB, (B).map Value.bool⟩] ((wr.heap.size, 68, #[.int .i64 (f : Int), .int .i64 (u : Int), .int .i64 z]) :: [(w.heap.size, 24, #[.int .i64 N, .int .i64 S, .int .i64 T, .slice (some ⟨ba, oa, none⟩) n c]), (w.heap.size + 1, 32, #[.int .i64 0, .int .i64 0, .int .i64 0, .slice none 0 0, .slice none 0 0, .slice none 0 0, .slice none 0 0, .slice none 0 0, .slice none 0 0])]) := by
                have h := HX2.out
                simpa only [List.map_append, List.map_cons, List.map_nil, List.set_cons_zero, List.set_cons_succ] using h
              have D2 : Cx w (w2.setCell ⟨gc, 4, none⟩ (.slice A2 (p + 1) c2)) w.heap.size gc 32 #[.int .i64 N, .int .i64 S, .int .i64 T, .slice AF (f + 1) cF, .slice A2 (p + 1) c2, .slice AR 0 cR, .slice AC p cC, .slice AA p cA, .slice AB p cB] [⟨3, AF, f + 1, cF, ((tab (f + 1) fun v => (firstOf l v : Int))).map (Value.int .i64)⟩, ⟨3, A2, p + 1, c2, (H ++ [(u : Int)]).map (Value.int .i64)⟩, ⟨3, AR, 0, cR, (([] : List Int)).map (Value.int .i64)⟩, ⟨2, AC, p, cC, (C).map (Value.int .i64)⟩, ⟨3, AA, p, cA, (Ai).map (Value.int .i64)⟩, ⟨4, AB, p, cB, (B).map Value.bool⟩] ((wr.heap.size, 68, #[.int .i64 (f : Int), .int .i64 (u : Int), .int .i64 z]) :: [(w.heap.size, 24, #[.int .i64 N, .int .i64 S, .int .i64 T, .slice (some ⟨ba, oa, none⟩) n c]), (w.heap.size + 1, 32, #[.int .i64 0, .int .i64 0, .int .i64 0, .slice none 0 0, .slice none 0 0, .slice none 0 0, .slice none 0 0, .slice none 0 0, .slice none 0 0])]) := by simpa using C2.store 4 (.slice A2 (p + 1) c2)
              clear a0 a1 a2 a3 a4 a5 a6 a7 a8 f0 f1 f2 f3 f4 f5 f6 f7 f8 hzc knr r0 r1 r2 r3 hzn hnn kar q0 q1 q2 hza hna HX2
              obtain ⟨a0, a1, a2, a3, a4, a5, a6, a7, a8⟩ := C2.kc.at9
              obtain ⟨f0, f1, f2, f3, f4, f5, f6, f7, f8⟩ := C2.kc.free9
              have hzc := C2.kc.lt
              have kar := (C2.oth _ (List.mem_cons_self ..)).1
              have q0 := kar.cell 0; have q1 := kar.cell 1; have q2 := kar.cell 2
              simp only [List.getElem?_toArray, List.getElem?_cons_zero, List.getElem?_cons_succ] at q0 q1 q2
              have hza := kar.lt
              have hna := (C2.oth _ (List.mem_cons_self ..)).2.1
              have knr := (C2.oth _ (List.mem_cons_of_mem _ (List.mem_cons_self ..))).1
              have hnn := (C2.oth _ (List.mem_cons_of_mem _ (List.mem_cons_self ..))).2.1
              obtain ⟨r0, r1, r2, r3⟩ := knr.at4
              have hzn := knr.lt
              try simp only at hzn
              try simp only at hnn
              try simp only at hza
              try simp only at hna
              have HD2 := Lib.hid D2
              clear C2 D2 hX1
              go_wp2_with (at_builtin; refine wp_app HD2.out rfl (.tmp 67) (.tmp 70) _ _ _ rfl one_long 3 p cC AC _ (.int .i64 z) rfl rfl rfl rfl (by omega) (by simp) ?_)
              intro A3 c3 w3 HX3
              have C3 : Cx w w3 w.heap.size gc 32 #[.int .i64 N, .int .i64 S, .int .i64 T, .slice AF (f + 1) cF, .slice A2 (p + 1) c2, .slice AR 0 cR, .slice AC p cC, .slice AA p cA, .slice AB p cB] [⟨3, AF, f + 1, cF, ((tab (f + 1) fun v => (firstOf l v : Int))).map (Value.int .i64)⟩, ⟨3, A2, p + 1, c2, (H ++ [(u : Int)]).map (Value.int .i64)⟩, ⟨3, AR, 0, cR, (([] : List Int)).map (Value.int .i64)⟩, ⟨2, A3, p + 1, c3, (C ++ [z]).map (Value.int .i64)⟩, ⟨3, AA, p, cA, (Ai).map (Value.int .i64)⟩, ⟨4, AB, p, cB, (B).map Value.bool⟩] ((wr.heap.size, 68, #[.int .i64 (f : Int), .int .i64 (u : Int), .int .i64 z]) :: [(w.heap.size, 24, #[.int .i64 N, .int .i64 S, .int .i64 T, .slice (some ⟨ba, oa, none⟩) n c]), (w.heap.size + 1, 32, #[.int .i64 0, .int .i64 0, .int .i64 0, .slice none 0 0, .slice none 0 0, .slice none 0 0, .slice none 0 0, .slice none 0 0, .slice none 0 0])]) := by
                have h := HX3.out
                simpa only [List.map_append, List.map_cons, List.map_nil, List.set_cons_zero, List.set_cons_succ] using h
              have D3 : Cx w (w3.setCell ⟨gc, 6, none⟩ (.slice A3 (p + 1) c3)) w.heap.size gc 32 #[.int .i64 N, .int .i64 S, .int .i64 T, .slice AF (f + 1) cF, .slice A2 (p + 1) c2, .slice AR 0 cR, .slice A3 (p + 1) c3, .slice AA p cA, .slice AB p cB] [⟨3, AF, f + 1, cF, ((tab (f + 1) fun v => (firstOf l v : Int))).map (Value.int .i64)⟩, ⟨3, A2, p + 1, c2, (H ++ [(u : Int)]).map (Value.int .i64)⟩, ⟨3, AR, 0, cR, (([] : List Int)).map (Value.int .i64)⟩, ⟨2, A3, p + 1, c3, (C ++ [z]).map (Value.int .i64)⟩, ⟨3, AA, p, cA, (Ai).map (Value.int .i64)⟩, ⟨4, AB, p, cB, (B).map Value.bool⟩] ((wr.heap.size, 68, #[.int .i64 (f : Int), .int .i64 (u : Int), .int .i64 z]) :: [(w.heap.size, 24, #[.int .i64 N, .int .i64 S, .int .i64 T, .slice (some ⟨ba, oa, none⟩) n c]), (w.heap.size + 1, 32, #[.int .i64 0, .int .i64 0, .int .i64 0, .slice none 0 0, .slice none 0 0, .slice none 0 0, .slice none 0 0, .slice none 0 0, .slice none 0 0])]) := by simpa using C3.store 6 (.slice A3 (p + 1) c3)
              clear a0 a1 a2 a3 a4 a5 a6 a7 a8 f0 f1 f2 f3 f4 f5 f6 f7 f8 hzc knr r0 r1 r2 r3 hzn hnn kar q0 q1 q2 hza hna HX3
              obtain ⟨a0, a1, a2, a3, a4, a5, a6, a7, a8⟩ := C3.kc.at9
              obtain ⟨f0, f1, f2, f3, f4, f5, f6, f7, f8⟩ := C3.kc.free9
              have hzc := C3.kc.lt
              have kar := (C3.oth _ (List.mem_cons_self ..)).1
              have q0 := kar.cell 0; have q1 := kar.cell 1; have q2 := kar.cell 2
              simp only [List.getElem?_toArray, List.getElem?_cons_zero, List.getElem?_cons_succ] at q0 q1 q2
              have hza := kar.lt
              have hna := (C3.oth _ (List.mem_cons_self ..)).2.1
              have knr := (C3.oth _ (List.mem_cons_of_mem _ (List.mem_cons_self ..))).1
              have hnn := (C3.oth _ (List.mem_cons_of_mem _ (List.mem_cons_self ..))).2.1
              obtain ⟨r0, r1, r2, r3⟩ := knr.at4
              have hzn := knr.lt
              try simp only at hzn
              try simp only at hnn
              try simp only at hza
              try simp only at hna
              have HD3 := Lib.hid D3
              clear C3 D3 HD2
              go_wp2_with (at_builtin; refine wp_app HD3.out rfl (.tmp 74) (.tmp 76) _ _ _ rfl one_int 4 p cA AA _ (.int .i64 (k : Int)) rfl rfl rfl rfl (by omega) (by simp) ?_)
              intro A4 c4 w4 HX4
              have C4 : Cx w w4 w.heap.size gc 32 #[.int .i64 N, .int .i64 S, .int .i64 T, .slice AF (f + 1) cF, .slice A2 (p + 1) c2, .slice AR 0 cR, .slice A3 (p + 1) c3, .slice AA p cA, .slice AB p cB] [⟨3, AF, f + 1, cF, ((tab (f + 1) fun v => (firstOf l v : Int))).map (Value.int .i64)⟩, ⟨3, A2, p + 1, c2, (H ++ [(u : Int)]).map (Value.int .i64)⟩, ⟨3, AR, 0, cR, (([] : List Int)).map (Value.int .i64)⟩, ⟨2, A3, p + 1, c3, (C ++ [z]).map (Value.int .i64)⟩, ⟨3, A4, p + 1, c4, (Ai ++ [(k : Int)]).map (Value.int .i64)⟩, ⟨4, AB, p, cB, (B).map Value.bool⟩] ((wr.heap.size, 68, #[.int .i64 (f : Int), .int .i64 (u : Int), .int .i64 z]) :: [(w.heap.size, 24, #[.int .i64 N, .int .i64 S, .int .i64 T, .slice (some ⟨ba, oa, none⟩) n c]), (w.heap.size + 1, 32, #[.int .i64 0, .int .i64 0, .int .i64 0, .slice none 0 0, .slice none 0 0, .slice none 0 0, .slice none 0 0, .slice none 0 0, .slice none 0 0])]) := by
                have h := HX4.out
                simpa only [List.map_append, List.map_cons, List.map_nil, List.set_cons_zero, List.set_cons_succ] using h
              have D4 : Cx w (w4.setCell ⟨gc, 7, none⟩ (.slice A4 (p + 1) c4)) w.heap.size gc 32 #[.int .i64 N, .int .i64 S, .int .i64 T, .slice AF (f + 1) cF, .slice A2 (p + 1) c2, .slice AR 0 cR, .slice A3 (p + 1) c3, .slice A4 (p + 1) c4, .slice AB p cB] [⟨3, AF, f + 1, cF, ((tab (f + 1) fun v => (firstOf l v : Int))).map (Value.int .i64)⟩, ⟨3, A2, p + 1, c2, (H ++ [(u : Int)]).map (Value.int .i64)⟩, ⟨3, AR, 0, cR, (([] : List Int)).map (Value.int .i64)⟩, ⟨2, A3, p + 1, c3, (C ++ [z]).map (Value.int .i64)⟩, ⟨3, A4, p + 1, c4, (Ai ++ [(k : Int)]).map (Value.int .i64)⟩, ⟨4, AB, p, cB, (B).map Value.bool⟩] ((wr.heap.size, 68, #[.int .i64 (f : Int), .int .i64 (u : Int), .int .i64 z]) :: [(w.heap.size, 24, #[.int .i64 N, .int .i64 S, .int .i64 T, .slice (some ⟨ba, oa, none⟩) n c]), (w.heap.size + 1, 32, #[.int .i64 0, .int .i64 0, .int .i64 0, .slice none 0 0, .slice none 0 0, .slice none 0 0, .slice none 0 0, .slice none 0 0, .slice none 0 0])]) := by simpa using C4.store 7 (.slice A4 (p + 1) c4)
              clear a0 a1 a2 a3 a4 a5 a6 a7 a8 f0 f1 f2 f3 f4 f5 f6 f7 f8 hzc knr r0 r1 r2 r3 hzn hnn kar q0 q1 q2 hza hna HX4
              obtain ⟨a0, a1, a2, a3, a4, a5, a6, a7, a8⟩ := C4.kc.at9
              obtain ⟨f0, f1, f2, f3, f4, f5, f6, f7, f8⟩ := C4.kc.free9
              have hzc := C4.kc.lt
              have kar := (C4.oth _ (List.mem_cons_self ..)).1
              have q0 := kar.cell 0; have q1 := kar.cell 1; have q2 := kar.cell 2
              simp only [List.getElem?_toArray, List.getElem?_cons_zero, List.getElem?_cons_succ] at q0 q1 q2
              have hza := kar.lt
              have hna := (C4.oth _ (List.mem_cons_self ..)).2.1
              have knr := (C4.oth _ (List.mem_cons_of_mem _ (List.mem_cons_self ..))).1
              have hnn := (C4.oth _ (List.mem_cons_of_mem _ (List.mem_cons_self ..))).2.1
              obtain ⟨r0, r1, r2, r3⟩ := knr.at4
              have hzn := knr.lt
              try simp only at hzn
              try simp only at hnn
              try simp only at hza
              try simp only at hna
              have HD4 := Lib.hid D4
              clear C4 D4 HD3
              go_wp2_with (at_builtin; refine wp_app HD4.out rfl (.tmp 80) (.tmp 81) _ _ _ rfl one_bool 5 p cB AB _ (.bool false) rfl rfl rfl rfl (by omega) (by simp) ?_)
              intro A5 c5 w5 HX5
              have C5 : Cx w w5 w.heap.size gc 32 #[.int .i64 N, .int .i64 S, .int .i64 T, .slice AF (f + 1) cF, .slice A2 (p + 1) c2, .slice AR 0 cR, .slice A3 (p + 1) c3, .slice A4 (p + 1) c4, .slice AB p cB] [⟨3, AF, f + 1, cF, ((tab (f + 1) fun v => (firstOf l v : Int))).map (Value.int .i64)⟩, ⟨3, A2, p + 1, c2, (H ++ [(u : Int)]).map (Value.int .i64)⟩, ⟨3, AR, 0, cR, (([] : List Int)).map (Value.int .i64)⟩, ⟨2, A3, p + 1, c3, (C ++ [z]).map (Value.int .i64)⟩, ⟨3, A4, p + 1, c4, (Ai ++ [(k : Int)]).map (Value.int .i64)⟩, ⟨4, A5, p + 1, c5, (B ++ [false]).map Value.bool⟩] ((wr.heap.size, 68, #[.int .i64 (f : Int), .int .i64 (u : Int), .int .i64 z]) :: [(w.heap.size, 24, #[.int .i64 N, .int .i64 S, .int .i64 T, .slice (some ⟨ba, oa, none⟩) n c]), (w.heap.size + 1, 32, #[.int .i64 0, .int .i64 0, .int .i64 0, .slice none 0 0, .slice none 0 0, .slice none 0 0, .slice none 0 0, .slice none 0 0, .slice none 0 0])]) := by
                have h := HX5.out
                simpa only [List.map_append, List.map_cons, List.map_nil, List.set_cons_zero, List.set_cons_succ] using h
              have D5 : Cx w (w5.setCell ⟨gc, 8, none⟩ (.slice A5 (p + 1) c5)) w.heap.size gc 32 #[.int .i64 N, .int .i64 S, .int .i64 T, .slice AF (f + 1) cF, .slice A2 (p + 1) c2, .slice AR 0 cR, .slice A3 (p + 1) c3, .slice A4 (p + 1) c4, .slice A5 (p + 1) c5] [⟨3, AF, f + 1, cF, ((tab (f + 1) fun v => (firstOf l v : Int))).map (Value.int .i64)⟩, ⟨3, A2, p + 1, c2, (H ++ [(u : Int)]).map (Value.int .i64)⟩, ⟨3, AR, 0, cR, (([] : List Int)).map (Value.int .i64)⟩, ⟨2, A3, p + 1, c3, (C ++ [z]).map (Value.int .i64)⟩, ⟨3, A4, p + 1, c4, (Ai ++ [(k : Int)]).map (Value.int .i64)⟩, ⟨4, A5, p + 1, c5, (B ++ [false]).map Value.bool⟩] ((wr.heap.size, 68, #[.int .i64 (f : Int), .int .i64 (u : Int), .int .i64 z]) :: [(w.heap.size, 24, #[.int .i64 N, .int .i64 S, .int .i64 T, .slice (some ⟨ba, oa, none⟩) n c]), (w.heap.size + 1, 32, #[.int .i64 0, .int .i64 0, .int .i64 0, .slice none 0 0, .slice none 0 0, .slice none 0 0, .slice none 0 0, .slice none 0 0, .slice none 0 0])]) := by simpa using C5.store 8 (.slice A5 (p + 1) c5)
              clear a0 a1 a2 a3 a4 a5 a6 a7 a8 f0 f1 f2 f3 f4 f5 f6 f7 f8 hzc knr r0 r1 r2 r3 hzn hnn kar q0 q1 q2 hza hna HX5
              obtain ⟨a0, a1, a2, a3, a4, a5, a6, a7, a8⟩ := C5.kc.at9
              obtain ⟨f0, f1, f2, f3, f4, f5, f6, f7, f8⟩ := C5.kc.free9
              have hzc := C5.kc.lt
              have kar := (C5.oth _ (List.mem_cons_self ..)).1
              have q0 := kar.cell 0; have q1 := kar.cell 1; have q2 := kar.cell 2
              simp only [List.getElem?_toArray, List.getElem?_cons_zero, List.getElem?_cons_succ] at q0 q1 q2
              have hza := kar.lt
              have hna := (C5.oth _ (List.mem_cons_self ..)).2.1
              have knr := (C5.oth _ (List.mem_cons_of_mem _ (List.mem_cons_self ..))).1
              have hnn := (C5.oth _ (List.mem_cons_of_mem _ (List.mem_cons_self ..))).2.1
              obtain ⟨r0, r1, r2, r3⟩ := knr.at4
              have hzn := knr.lt
              try simp only at hzn
              try simp only at hnn
              try simp only at hza
              try simp only at hna
              have HD5 := Lib.hid D5
              clear C5 D5 HD4
              go_wp2_with fail
              go_roundw
              case rel => exact ⟨k + 1, H ++ [(u : Int)], C ++ [z], Ai ++ [(k : Int)], B ++ [false], by omega, by go_num, by rw [HN.out]; exact HE1.out, by rw [HN.out]; exact ⟨_, _, _, _, _, _, _, _, _, _, _, _, (HD5.out.less (by simp))⟩⟩
              case measure => simp [intOf]; omega
            · have hne3 : ¬ (f : Int) = (v : Int) := by omega
              have hne4 : ((f : Int) == (v : Int)) = false := beq_false_of_ne hne3
              by_cases huv : u = v
              · subst huv
                have HN : Hid (nextAt l u (k + 1) = p + 1) := by rw [next_step HL.out (by simp [touch]; omega), HP.out]; exact Lib.hid rfl
                have hI : Inc l k (u : Int) (f : Int) true 0 := inc_bwd HL.out (by simp; omega)
                have HE1 := Lib.hid (HE0.out.step hI (by omega) ((next_pos u k).trans HP.out))
                clear hI HE0
                have hza : wr.heap.size < wr.heap.size + 1 := by omega
                have kar := True.intro; have q0 := True.intro; have q1 := True.intro; have q2 := True.intro; have hna := True.intro
                go_wp2_with (at_builtin; refine wp_app hX1.out rfl (.tmp 89) (.tmp 92) _ _ _ rfl one_int 1 p cH AH _ (.int .i64 (f : Int)) rfl rfl rfl rfl (by omega) (by simp) ?_)
                intro A6 c6 w6 HX6
                have C6 : Cx w w6 w.heap.size gc 32 #[.int .i64 N, .int .i64 S, .int .i64 T, .slice AF (u + 1) cF, .slice AH p cH, .slice AR 0 cR, .slice AC p cC, .slice AA p cA, .slice AB p cB] [⟨3, AF, u + 1, cF, ((tab (u + 1) fun v => (firstOf l v : Int))).map (Value.int .i64)⟩, ⟨3, A6, p + 1, c6, (H ++ [(f : Int)]).map (Value.int .i64)⟩, ⟨3, AR, 0, cR, (([] : List Int)).map (Value.int .i64)⟩, ⟨2, AC, p, cC, (C).map (Value.int .i64)⟩, ⟨3, AA, p, cA, (Ai).map (Value.int .i64)⟩, ⟨4, AB, p, cB, (B).map Value.bool⟩] ((wr.heap.size, 68, #[.int .i64 (f : Int), .int .i64 (u : Int), .int .i64 z]) :: [(w.heap.size, 24, #[.int .i64 N, .int .i64 S, .int .i64 T, .slice (some ⟨ba, oa, none⟩) n c]), (w.heap.size + 1, 32, #[.int .i64 0, .int .i64 0, .int .i64 0, .slice none 0 0, .slice none 0 0, .slice none 0 0, .slice none 0 0, .slice none 0 0, .slice none 0 0])]) := by
                  have h := HX6.out
                  simpa only [List.map_append, List.map_cons, List.map_nil, List.set_cons_zero, List.set_cons_succ] using h
                have D6 : Cx w (w6.setCell ⟨gc, 4, none⟩ (.slice A6 (p + 1) c6)) w.heap.size gc 32 #[.int .i64 N, .int .i64 S, .int .i64 T, .slice AF (u + 1) cF, .slice A6 (p + 1) c6, .slice AR 0 cR, .slice AC p cC, .slice AA p cA, .slice AB p cB] [⟨3, AF, u + 1, cF, ((tab (u + 1) fun v => (firstOf l v : Int))).map (Value.int .i64)⟩, ⟨3, A6, p + 1, c6, (H ++ [(f : Int)]).map (Value.int .i64)⟩, ⟨3, AR, 0, cR, (([] : List Int)).map (Value.int .i64)⟩, ⟨2, AC, p, cC, (C).map (Value.int .i64)⟩, ⟨3, AA, p, cA, (Ai).map (Value.int .i64)⟩, ⟨4, AB, p, cB, (B).map Value.bool⟩] ((wr.heap.size, 68, #[.int .i64 (f : Int), .int .i64 (u : Int), .int .i64 z]) :: [(w.heap.size, 24, #[.int .i64 N, .int .i64 S, .int .i64 T, .slice (some ⟨ba, oa, none⟩) n c]), (w.heap.size + 1, 32, #[.int .i64 0, .int .i64 0, .int .i64 0, .slice none 0 0, .slice none 0 0, .slice none 0 0, .slice none 0 0, .slice none 0 0, .slice none 0 0])]) := by simpa using C6.store 4 (.slice A6 (p + 1) c6)
                clear a0 a1 a2 a3 a4 a5 a6 a7 a8 f0 f1 f2 f3 f4 f5 f6 f7 f8 hzc knr r0 r1 r2 r3 hzn hnn kar q0 q1 q2 hza hna HX6
                obtain ⟨a0, a1, a2, a3, a4, a5, a6, a7, a8⟩ := C6.kc.at9
                obtain ⟨f0, f1, f2, f3, f4, f5, f6, f7, f8⟩ := C6.kc.free9
                have hzc := C6.kc.lt
                have kar := (C6.oth _ (List.mem_cons_self ..)).1
                have q0 := kar.cell 0; have q1 := kar.cell 1; have q2 := kar.cell 2
                simp only [List.getElem?_toArray, List.getElem?_cons_zero, List.getElem?_cons_succ] at q0 q1 q2
                have hza := kar.lt
                have hna := (C6.oth _ (List.mem_cons_self ..)).2.1
                have knr := (C6.oth _ (List.mem_cons_of_mem _ (List.mem_cons_self ..))).1
                have hnn := (C6.oth _ (List.mem_cons_of_mem _ (List.mem_cons_self ..))).2.1
                obtain ⟨r0, r1, r2, r3⟩ := knr.at4
                have hzn := knr.lt
                try simp only at hzn
                try simp only at hnn
                try simp only at hza
                try simp only at hna
                have HD6 := Lib.hid D6
                clear C6 D6 hX1
                go_wp2_with (at_builtin; refine wp_app HD6.out rfl (.tmp 96) (.tmp 97) _ _ _ rfl one_long 3 p cC AC _ (.int .i64 0) rfl rfl rfl rfl (by omega) (by simp) ?_)
                intro A7 c7 w7 HX7
                have C7 : Cx w w7 w.heap.size gc 32 #[.int .i64 N, .int .i64 S, .int .i64 T, .slice AF (u + 1) cF, .slice A6 (p + 1) c6, .slice AR 0 cR, .slice AC p cC, .slice AA p cA, .slice AB p cB] [⟨3, AF, u + 1, cF, ((tab (u + 1) fun v => (firstOf l v : Int))).map (Value.int .i64)⟩, ⟨3, A6, p + 1, c6, (H ++ [(f : Int)]).map (Value.int .i64)⟩, ⟨3, AR, 0, cR, (([] : List Int)).map (Value.int .i64)⟩, ⟨2, A7, p + 1, c7, (C ++ [(0 : Int)]).map (Value.int .i64)⟩, ⟨3, AA, p, cA, (Ai).map (Value.int .i64)⟩, ⟨4, AB, p, cB, (B).map Value.bool⟩] ((wr.heap.size, 68, #[.int .i64 (f : Int), .int .i64 (u : Int), .int .i64 z]) :: [(w.heap.size, 24, #[.int .i64 N, .int .i64 S, .int .i64 T, .slice (some ⟨ba, oa, none⟩) n c]), (w.heap.size + 1, 32, #[.int .i64 0, .int .i64 0, .int .i64 0, .slice none 0 0, .slice none 0 0, .slice none 0 0, .slice none 0 0, .slice none 0 0, .slice none 0 0])]) := by
                  have h := HX7.out
                  simpa only [List.map_append, List.map_cons, List.map_nil, List.set_cons_zero, List.set_cons_succ] using h
                have D7 : Cx w (w7.setCell ⟨gc, 6, none⟩ (.slice A7 (p + 1) c7)) w.heap.size gc 32 #[.int .i64 N, .int .i64 S, .int .i64 T, .slice AF (u + 1) cF, .slice A6 (p + 1) c6, .slice AR 0 cR, .slice A7 (p + 1) c7, .slice AA p cA, .slice AB p cB] [⟨3, AF, u + 1, cF, ((tab (u + 1) fun v => (firstOf l v : Int))).map (Value.int .i64)⟩, ⟨3, A6, p + 1, c6, (H ++ [(f : Int)]).map (Value.int .i64)⟩, ⟨3, AR, 0, cR, (([] : List Int)).map (Value.int .i64)⟩, ⟨2, A7, p + 1, c7, (C ++ [(0 : Int)]).map (Value.int .i64)⟩, ⟨3, AA, p, cA, (Ai).map (Value.int .i64)⟩, ⟨4, AB, p, cB, (B).map Value.bool⟩] ((wr.heap.size, 68, #[.int .i64 (f : Int), .int .i64 (u : Int), .int .i64 z]) :: [(w.heap.size, 24, #[.int .i64 N, .int .i64 S, .int .i64 T, .slice (some ⟨ba, oa, none⟩) n c]), (w.heap.size + 1, 32, #[.int .i64 0, .int .i64 0, .int .i64 0, .slice none 0 0, .slice none 0 0, .slice none 0 0, .slice none 0 0, .slice none 0 0, .slice none 0 0])]) := by simpa using C7.store 6 (.slice A7 (p + 1) c7)
                clear a0 a1 a2 a3 a4 a5 a6 a7 a8 f0 f1 f2 f3 f4 f5 f6 f7 f8 hzc knr r0 r1 r2 r3 hzn hnn kar q0 q1 q2 hza hna HX7
                obtain ⟨a0, a1, a2, a3, a4, a5, a6, a7, a8⟩ := C7.kc.at9
                obtain ⟨f0, f1, f2, f3, f4, f5, f6, f7, f8⟩ := C7.kc.free9
                have hzc := C7.kc.lt
                have kar := (C7.oth _ (List.mem_cons_self ..)).1
                have q0 := kar.cell 0; have q1 := kar.cell 1; have q2 := kar.cell 2
                simp only [List.getElem?_toArray, List.getElem?_cons_zero, List.getElem?_cons_succ] at q0 q1 q2
                have hza := kar.lt
                have hna := (C7.oth _ (List.mem_cons_self ..)).2.1
                have knr := (C7.oth _ (List.mem_cons_of_mem _ (List.mem_cons_self ..))).1
                have hnn := (C7.oth _ (List.mem_cons_of_mem _ (List.mem_cons_self ..))).2.1
                obtain ⟨r0, r1, r2, r3⟩ := knr.at4
                have hzn := knr.lt
                try simp only at hzn
                try simp only at hnn
                try simp only at hza
                try simp only at hna
                have HD7 := Lib.hid D7
                clear C7 D7 HD6
                go_wp2_with (at_builtin; refine wp_app HD7.out rfl (.tmp 101) (.tmp 103) _ _ _ rfl one_int 4 p cA AA _ (.int .i64 (k : Int)) rfl rfl rfl rfl (by omega) (by simp) ?_)
                intro A8 c8 w8 HX8
                have C8 : Cx w w8 w.heap.size gc 32 #[.int .i64 N, .int .i64 S, .int .i64 T, .slice AF (u + 1) cF, .slice A6 (p + 1) c6, .slice AR 0 cR, .slice A7 (p + 1) c7, .slice AA p cA, .slice AB p cB] [⟨3, AF, u + 1, cF, ((tab (u + 1) fun v => (firstOf l v : Int))).map (Value.int .i64)⟩, ⟨3, A6, p + 1, c6, (H ++ [(f : Int)]).map (Value.int .i64)⟩, ⟨3, AR, 0, cR, (([] : List Int)).map (Value.int .i64)⟩, ⟨2, A7, p + 1, c7, (C ++ [(0 : Int)]).map (Value.int .i64)⟩, ⟨3, A8, p + 1, c8, (Ai ++ [(k : Int)]).map (Value.int .i64)⟩, ⟨4, AB, p, cB, (B).map Value.bool⟩] ((wr.heap.size, 68, #[.int .i64 (f : Int), .int .i64 (u : Int), .int .i64 z]) :: [(w.heap.size, 24, #[.int .i64 N, .int .i64 S, .int .i64 T, .slice (some ⟨ba, oa, none⟩) n c]), (w.heap.size + 1, 32, #[.int .i64 0, .int .i64 0, .int .i64 0, .slice none 0 0, .slice none 0 0, .slice none 0 0, .slice none 0 0, .slice none 0 0, .slice none 0 0])]) := by
                  have h := HX8.out
                  simpa only [List.map_append, List.map_cons, List.map_nil, List.set_cons_zero, List.set_cons_succ] using h
                have D8 : Cx w (w8.setCell ⟨gc, 7, none⟩ (.slice A8 (p + 1) c8)) w.heap.size gc 32 #[.int .i64 N, .int .i64 S, .int .i64 T, .slice AF (u + 1) cF, .slice A6 (p + 1) c6, .slice AR 0 cR, .slice A7 (p + 1) c7, .slice A8 (p + 1) c8, .slice AB p cB] [⟨3, AF, u + 1, cF, ((tab (u + 1) fun v => (firstOf l v : Int))).map (Value.int .i64)⟩, ⟨3, A6, p + 1, c6, (H ++ [(f : Int)]).map (Value.int .i64)⟩, ⟨3, AR, 0, cR, (([] : List Int)).map (Value.int .i64)⟩, ⟨2, A7, p + 1, c7, (C ++ [(0 : Int)]).map (Value.int .i64)⟩, ⟨3, A8, p + 1, c8, (Ai ++ [(k : Int)]).map (Value.int .i64)⟩, ⟨4, AB, p, cB, (B).map Value.bool⟩] ((wr.heap.size, 68, #[.int .i64 (f : Int), .int .i64 (u : Int), .int .i64 z]) :: [(w.heap.size, 24, #[.int .i64 N, .int .i64 S, .int .i64 T, .slice (some ⟨ba, oa, none⟩) n c]), (w.heap.size + 1, 32, #[.int .i64 0, .int .i64 0, .int .i64 0, .slice none 0 0, .slice none 0 0, .slice none 0 0, .slice none 0 0, .slice none 0 0, .slice none 0 0])]) := by simpa using C8.store 7 (.slice A8 (p + 1) c8)
                clear a0 a1 a2 a3 a4 a5 a6 a7 a8 f0 f1 f2 f3 f4 f5 f6 f7 f8 hzc knr r0 r1 r2 r3 hzn hnn kar q0 q1 q2 hza hna HX8
                obtain ⟨a0, a1, a2, a3, a4, a5, a6, a7, a8⟩ := C8.kc.at9
                obtain ⟨f0, f1, f2, f3, f4, f5, f6, f7, f8⟩ := C8.kc.free9
                have hzc := C8.kc.lt
                have kar := (C8.oth _ (List.mem_cons_self ..)).1
                have q0 := kar.cell 0; have q1 := kar.cell 1; have q2 := kar.cell 2
                simp only [List.getElem?_toArray, List.getElem?_cons_zero, List.getElem?_cons_succ] at q0 q1 q2
                have hza := kar.lt
                have hna := (C8.oth _ (List.mem_cons_self ..)).2.1
                have knr := (C8.oth _ (List.mem_cons_of_mem _ (List.mem_cons_self ..))).1
                have hnn := (C8.oth _ (List.mem_cons_of_mem _ (List.mem_cons_self ..))).2.1
                obtain ⟨r0, r1, r2, r3⟩ := knr.at4
                have hzn := knr.lt
                try simp only at hzn
                try simp only at hnn
                try simp only at hza
                try simp only at hna
                have HD8 := Lib.hid D8
                clear C8 D8 HD7
                go_wp2_with (at_builtin; refine wp_app HD8.out rfl (.tmp 107) (.tmp 108) _ _ _ rfl one_bool 5 p cB AB _ (.bool true) rfl rfl rfl rfl (by omega) (by simp) ?_)
                intro A9 c9 w9 HX9
                have C9 : Cx w w9 w.heap.size gc 32 #[.int .i64 N, .int .i64 S, .int .i64 T, .slice AF (u + 1) cF, .slice A6 (p + 1) c6, .slice AR 0 cR, .slice A7 (p + 1) c7, .slice A8 (p + 1) c8, .slice AB p cB] [⟨3, AF, u + 1, cF, ((tab (u + 1) fun v => (firstOf l v : Int))).map (Value.int .i64)⟩, ⟨3, A6, p + 1, c6, (H ++ [(f : Int)]).map (Value.int .i64)⟩, ⟨3, AR, 0, cR, (([] : List Int)).map (Value.int .i64)⟩, ⟨2, A7, p + 1, c7, (C ++ [(0 : Int)]).map (Value.int .i64)⟩, ⟨3, A8, p + 1, c8, (Ai ++ [(k : Int)]).map (Value.int .i64)⟩, ⟨4, A9, p + 1, c9, (B ++ [true]).map Value.bool⟩] ((wr.heap.size, 68, #[.int .i64 (f : Int), .int .i64 (u : Int), .int .i64 z]) :: [(w.heap.size, 24, #[.int .i64 N, .int .i64 S, .int .i64 T, .slice (some ⟨ba, oa, none⟩) n c]), (w.heap.size + 1, 32, #[.int .i64 0, .int .i64 0, .int .i64 0, .slice none 0 0, .slice none 0 0, .slice none 0 0, .slice none 0 0, .slice none 0 0, .slice none 0 0])]) := by
                  have h := HX9.out
                  simpa only [List.map_append, List.map_cons, List.map_nil, List.set_cons_zero, List.set_cons_succ] using h
                have D9 : Cx w (w9.setCell ⟨gc, 8, none⟩ (.slice A9 (p + 1) c9)) w.heap.size gc 32 #[.int .i64 N, .int .i64 S, .int .i64 T, .slice AF (u + 1) cF, .slice A6 (p + 1) c6, .slice AR 0 cR, .slice A7 (p + 1) c7, .slice A8 (p + 1) c8, .slice A9 (p + 1) c9] [⟨3, AF, u + 1, cF, ((tab (u + 1) fun v => (firstOf l v : Int))).map (Value.int .i64)⟩, ⟨3, A6, p + 1, c6, (H ++ [(f : Int)]).map (Value.int .i64)⟩, ⟨3, AR, 0, cR, (([] : List Int)).map (Value.int .i64)⟩, ⟨2, A7, p + 1, c7, (C ++ [(0 : Int)]).map (Value.int .i64)⟩, ⟨3, A8, p + 1, c8, (Ai ++ [(k : Int)]).map (Value.int .i64)⟩, ⟨4, A9, p + 1, c9, (B ++ [true]).map Value.bool⟩] ((wr.heap.size, 68, #[.int .i64 (f : Int), .int .i64 (u : Int), .int .i64 z]) :: [(w.heap.size, 24, #[.int .i64 N, .int .i64 S, .int .i64 T, .slice (some ⟨ba, oa, none⟩) n c]), (w.heap.size + 1, 32, #[.int .i64 0, .int .i64 0, .int .i64 0, .slice none 0 0, .slice none 0 0, .slice none 0 0, .slice none 0 0, .slice none 0 0, .slice none 0 0])]) := by simpa using C9.store 8 (.slice A9 (p + 1) c9)
                clear a0 a1 a2 a3 a4 a5 a6 a7 a8 f0 f1 f2 f3 f4 f5 f6 f7 f8 hzc knr r0 r1 r2 r3 hzn hnn kar q0 q1 q2 hza hna HX9
                obtain ⟨a0, a1, a2, a3, a4, a5, a6, a7, a8⟩ := C9.kc.at9
                obtain ⟨f0, f1, f2, f3, f4, f5, f6, f7, f8⟩ := C9.kc.free9
                have hzc := C9.kc.lt
                have kar := (C9.oth _ (List.mem_cons_self ..)).1
                have q0 := kar.cell 0; have q1 := kar.cell 1; have q2 := kar.cell 2
                simp only [List.getElem?_toArray, List.getElem?_cons_zero, List.getElem?_cons_succ] at q0 q1 q2
                have hza := kar.lt
                have hna := (C9.oth _ (List.mem_cons_self ..)).2.1
                have knr := (C9.oth _ (List.mem_cons_of_mem _ (List.mem_cons_self ..))).1
                have hnn := (C9.oth _ (List.mem_cons_of_mem _ (List.mem_cons_self ..))).2.1
                obtain ⟨r0, r1, r2, r3⟩ := knr.at4
                have hzn := knr.lt
                try simp only at hzn
                try simp only at hnn
                try simp only at hza
                try simp only at hna
                have HD9 := Lib.hid D9
                clear C9 D9 HD8
                go_wp2_with fail
                go_roundw
                case rel => exact ⟨k + 1, H ++ [(f : Int)], C ++ [(0 : Int)], Ai ++ [(k : Int)], B ++ [true], by omega, by go_num, by rw [HN.out]; exact HE1.out, by rw [HN.out]; exact ⟨_, _, _, _, _, _, _, _, _, _, _, _, (HD9.out.less (by simp))⟩⟩
                case measure => simp [intOf]; omega
              · have hne5 : ¬ (u : Int) = (v : Int) := by omega
                have hne6 : ((u : Int) == (v : Int)) = false := beq_false_of_ne hne5
                have HN : Hid (nextAt l v (k + 1) = p) := by rw [next_skip HL.out (by simp [touch]; omega), HP.out]; exact Lib.hid rfl
                go_wp2_with fail
                go_roundw
                case rel => exact ⟨k + 1, H, C, Ai, B, by omega, by go_num, by rw [HN.out]; exact HE0.out, by rw [HN.out]; exact ⟨_, _, _, _, _, _, _, _, _, _, _, _, (hX1.out.less (by simp))⟩⟩
                case measure => simp [intOf]; omega
        · obtain rfl : n = k := by omega
          have HNE := Lib.hid (next_end hla v)
          go_wp2_with fail
          go_roundw
          case rel => exact ⟨v + 1, H, C, Ai, B, by omega, by go_num, by rw [← HNE.out, HP.out]; exact HE0.out, by rw [← HNE.out, HP.out]; exact ⟨_, _, _, _, _, _, _, _, _, _, _, _, X0⟩⟩
          case measure => simp [intOf]; omega
    · obtain rfl : N = v := by omega
      have HX0 := Lib.hid X0; clear X0
      go_wp2_with (at_builtin; refine wp_app HX0.out rfl (.tmp 112) (.tmp 116) _ _ _ rfl one_int 0 N cF AF _ (.int .i64 (m : Int)) rfl rfl rfl rfl (by omega) (by simp) ?_)
      intro A10 c10 w10 HX10
      have C10 : Cx w w10 w.heap.size gc 32 #[.int .i64 N, .int .i64 S, .int .i64 T, .slice AF N cF, .slice AH m cH, .slice AR 0 cR, .slice AC m cC, .slice AA m cA, .slice AB m cB] [⟨3, A10, N + 1, c10, ((tab N fun v => (firstOf l v : Int)) ++ [(m : Int)]).map (Value.int .i64)⟩, ⟨3, AH, m, cH, (H).map (Value.int .i64)⟩, ⟨3, AR, 0, cR, (([] : List Int)).map (Value.int .i64)⟩, ⟨2, AC, m, cC, (C).map (Value.int .i64)⟩, ⟨3, AA, m, cA, (Ai).map (Value.int .i64)⟩, ⟨4, AB, m, cB, (B).map Value.bool⟩] [(w.heap.size, 24, #[.int .i64 N, .int .i64 S, .int .i64 T, .slice A n c]), (w.heap.size + 1, 32, #[.int .i64 0, .int .i64 0, .int .i64 0, .slice none 0 0, .slice none 0 0, .slice none 0 0, .slice none 0 0, .slice none 0 0, .slice none 0 0])] := by
        have h := HX10.out
        simpa only [List.map_append, List.map_cons, List.map_nil, List.set_cons_zero, List.set_cons_succ] using h
      have D10 : Cx w (w10.setCell ⟨gc, 3, none⟩ (.slice A10 (N + 1) c10)) w.heap.size gc 32 #[.int .i64 N, .int .i64 S, .int .i64 T, .slice A10 (N + 1) c10, .slice AH m cH, .slice AR 0 cR, .slice AC m cC, .slice AA m cA, .slice AB m cB] [⟨3, A10, N + 1, c10, ((tab N fun v => (firstOf l v : Int)) ++ [(m : Int)]).map (Value.int .i64)⟩, ⟨3, AH, m, cH, (H).map (Value.int .i64)⟩, ⟨3, AR, 0, cR, (([] : List Int)).map (Value.int .i64)⟩, ⟨2, AC, m, cC, (C).map (Value.int .i64)⟩, ⟨3, AA, m, cA, (Ai).map (Value.int .i64)⟩, ⟨4, AB, m, cB, (B).map Value.bool⟩] [(w.heap.size, 24, #[.int .i64 N, .int .i64 S, .int .i64 T, .slice A n c]), (w.heap.size + 1, 32, #[.int .i64 0, .int .i64 0, .int .i64 0, .slice none 0 0, .slice none 0 0, .slice none 0 0, .slice none 0 0, .slice none 0 0, .slice none 0 0])] := by simpa using C10.store 3 (.slice A10 (N + 1) c10)
      clear a0 a1 a2 a3 a4 a5 a6 a7 a8 f0 f1 f2 f3 f4 f5 f6 f7 f8 hzc knr r0 r1 r2 r3 hzn hnn HX10
      obtain ⟨a0, a1, a2, a3, a4, a5, a6, a7, a8⟩ := C10.kc.at9
      obtain ⟨f0, f1, f2, f3, f4, f5, f6, f7, f8⟩ := C10.kc.free9
      have hzc := C10.kc.lt
      have knr := (C10.oth _ (List.mem_cons_self ..)).1
      have hnn := (C10.oth _ (List.mem_cons_self ..)).2.1
      obtain ⟨r0, r1, r2, r3⟩ := knr.at4
      have hzn := knr.lt
      try simp only at hzn
      try simp only at hnn
      have HD10 := Lib.hid D10
      clear C10 D10 HX0
      go_wp2_with fail
      have hS1 : MkSt w (w10.setCell ⟨gc, 3, none⟩ (.slice A10 (N + 1) c10)) gc N S T A n c (N + 1) m 0 (tab (N + 1) fun v => (firstOf l v : Int)) H [] C Ai B := by
        rw [tab_succ, HM.out]
        exact ⟨_, _, _, _, _, _, _, _, _, _, _, _, HD10.out⟩
      clear a0 a1 a2 a3 a4 a5 a6 a7 a8 f0 f1 f2 f3 f4 f5 f6 f7 f8 hzc knr r0 r1 r2 r3 hzn hnn HD10
      rw [HM.out] at hcs
      obtain ⟨FF, hFF⟩ : ∃ FF, (tab (N + 1) fun v => (firstOf l v : Int)) = FF := ⟨_, rfl⟩
      rw [hFF] at hS1
      have HFF := Lib.hid hFF; clear hFF
      have hlens := And.intro HE0.out.lH (And.intro HE0.out.lC (And.intro HE0.out.lA HE0.out.lB))
      have HLN := Lib.hid hlens; clear hlens
      go_loopw [9] (fun i wr => ∃ (i' : Nat) (R : List Int), i' ≤ m ∧ i = .int .i64 i' ∧ RevTo l i' R ∧ MkSt w wr gc N S T A n c (N + 1) m i' FF H R C Ai B) (fun i _ => m - (intOf i).toNat)
      case atStart => exact ⟨0, [], Nat.zero_le _, rfl, RevTo.zero l, hS1⟩
      case round =>
        clear hS1 hlt hv hfm
        obtain ⟨i, R, hi, rfl, hR, AF, cF, AH, cH, AR, cR, AC, cC, AA, cA, AB, cB, X0⟩ := hrel
        have HR := Lib.hid hR; clear hR
        obtain ⟨a0, a1, a2, a3, a4, a5, a6, a7, a8⟩ := X0.kc.at9
        obtain ⟨f0, f1, f2, f3, f4, f5, f6, f7, f8⟩ := X0.kc.free9
        have hzc := X0.kc.lt
        have knr := (X0.oth _ (List.mem_cons_self ..)).1
        have hnn := (X0.oth _ (List.mem_cons_self ..)).2.1
        obtain ⟨r0, r1, r2, r3⟩ := knr.at4
        have hzn := knr.lt
        try simp only at hzn
        try simp only at hnn
        by_cases hlt : i < m
        · have hX0 := Lib.hid X0; clear X0
          obtain ⟨k, v, u, b, cc, hI, hp, hv0, hvN⟩ := pos_find (l := l) (N := N) (j := i) (by rw [HM.out]; exact hlt)
          obtain ⟨q, hq⟩ : ∃ q, posOf l k u = q := ⟨_, rfl⟩
          have hqm : q < m := by
            obtain ⟨c', hI'⟩ := hI.flip
            have := pos_lt hI' HE.out
            rw [HM.out] at this
            omega
          have hAi := (HE0.out.ent _ _ _ _ _ hI hv0 (by rw [← hp]; omega)).2.2.1
          rw [← hp] at hAi
          have HI := Lib.hid hI; have HPP := Lib.hid hp; have HQ := Lib.hid hq; have HAI := Lib.hid hAi; have HV0 := Lib.hid hv0
          clear hI hp hq hAi hv0 hvN
          go_wp2_with fail
          clear a0 a1 a2 a3 a4 a5 a6 a7 a8 f0 f1 f2 f3 f4 f5 f6 f7 f8 hzc knr r0 r1 r2 r3 hzn hnn
          have hS2 : MkSt w wr gc N S T A n c (N + 1) m i FF H R C Ai B := ⟨_, _, _, _, _, _, _, _, _, _, _, _, hX0.out⟩
          clear hX0
          go_loopw [10] (fun j wr => ∃ (j' i' : Nat) (R : List Int), j' ≤ m ∧ j = .int .i64 j' ∧ i' = (if q < j' then i + 1 else i) ∧ RevTo l i' R ∧ MkSt w wr gc N S T A n c (N + 1) m i' FF H R C Ai B) (fun j _ => m - (intOf j).toNat)
          case atStart => exact ⟨0, i, R, Nat.zero_le _, rfl, by simp, HR.out, hS2⟩
          case round =>
            clear hS2 HR
            obtain ⟨j, i', R, hj, rfl, hi', hR, AF, cF, AH, cH, AR, cR, AC, cC, AA, cA, AB, cB, X0⟩ := hrel
            have HR := Lib.hid hR; have HI' := Lib.hid hi'
            clear hR hi'
            obtain ⟨a0, a1, a2, a3, a4, a5, a6, a7, a8⟩ := X0.kc.at9
            obtain ⟨f0, f1, f2, f3, f4, f5, f6, f7, f8⟩ := X0.kc.free9
            have hzc := X0.kc.lt
            have knr := (X0.oth _ (List.mem_cons_self ..)).1
            have hnn := (X0.oth _ (List.mem_cons_self ..)).2.1
            obtain ⟨r0, r1, r2, r3⟩ := knr.at4
            have hzn := knr.lt
            try simp only at hzn
            try simp only at hnn
            by_cases hjm : j < m
            · obtain ⟨gA, hgA, hgb, hgl⟩ := own_form (X0.held.own 4 _ rfl) (by simp only; omega)
              simp only at hgA
              subst hgA
              obtain ⟨k', v', u', b', cc', hI', hp', hv0', hvN'⟩ := pos_find (l := l) (N := N) (j := j) (by rw [HM.out]; exact hjm)
              have hAj := (HE0.out.ent _ _ _ _ _ hI' hv0' (by rw [← hp']; omega)).2.2.1
              rw [← hp'] at hAj
              have hpair := pair_is HE.out HI.out hI'
              rw [← HPP.out, ← hp', HQ.out] at hpair
              have ci : wr.cell? ⟨gA, i, none⟩ = some (.int .i64 (k : Int)) := ((X0.held.own 4 _ rfl).cellAt i (by simp only; omega)).trans (by simp [HAI.out])
              have cj : wr.cell? ⟨gA, j, none⟩ = some (.int .i64 (k' : Int)) := ((X0.held.own 4 _ rfl).cellAt j (by simp only; omega)).trans (by simp [hAj])
              have HPR := Lib.hid hpair
              have hX0 := Lib.hid X0
              clear hI' hp' hAj hv0' hvN' hpair X0
              by_cases hkk : (k : Int) = (k' : Int)
              · by_cases hij : i = j
                · subst hij
                  have hjq : ¬ i = q := fun e => absurd (HPR.out.2 e).2 (by simp)
                  have HJ : Hid (i' = (if q < i + 1 then i + 1 else i)) := Lib.hid (by rw [HI'.out]; split <;> split <;> omega)
                  obtain rfl : k = k' := by omega
                  go_wp2_with fail
                  go_quiet (fail)
                  go_wp2_with fail
                  go_roundw
                  case rel => exact ⟨i + 1, i', R, by omega, by go_num, HJ.out, HR.out, ⟨_, _, _, _, _, _, _, _, _, _, _, _, hX0.out.drew⟩⟩
                  case measure => simp [intOf]; omega
                · have hjq : j = q := HPR.out.1 ⟨hkk, fun e => hij e⟩
                  subst hjq
                  have hii : i' = i := by rw [HI'.out]; simp
                  subst hii
                  have HJ : Hid (i' + 1 = (if j < j + 1 then i' + 1 else i')) := Lib.hid (by simp)
                  have HR1 := Lib.hid (HR.out.step HI.out HV0.out HPP.out.symm HQ.out)
                  have hd1 : ((i' : Int) == (j : Int)) = false := beq_false_of_ne (by omega)
                  have hd2 : ¬ (i' : Int) = (j : Int) := by omega
                  obtain rfl : k = k' := by omega
                  go_wp2_with fail
                  go_quiet (fail)
                  rename_i nq
                  have hX1 : Hid (Cx w (wr.drewN nq) w.heap.size gc 32 #[.int .i64 N, .int .i64 S, .int .i64 T, .slice AF (N + 1) cF, .slice AH m cH, .slice AR i' cR, .slice AC m cC, .slice (some ⟨gA, 0, none⟩) m cA, .slice AB m cB] [⟨3, AF, N + 1, cF, (FF).map (Value.int .i64)⟩, ⟨3, AH, m, cH, (H).map (Value.int .i64)⟩, ⟨3, AR, i', cR, (R).map (Value.int .i64)⟩, ⟨2, AC, m, cC, (C).map (Value.int .i64)⟩, ⟨3, (some ⟨gA, 0, none⟩), m, cA, (Ai).map (Value.int .i64)⟩, ⟨4, AB, m, cB, (B).map Value.bool⟩] [(w.heap.size, 24, #[.int .i64 N, .int .i64 S, .int .i64 T, .slice A n c]), (w.heap.size + 1, 32, #[.int .i64 0, .int .i64 0, .int .i64 0, .slice none 0 0, .slice none 0 0, .slice none 0 0, .slice none 0 0, .slice none 0 0, .slice none 0 0])]) := Lib.hid hX0.out.drew
                  clear hX0
                  go_wp2_with (at_builtin; refine wp_app hX1.out rfl (.tmp 150) (.tmp 152) _ _ _ rfl one_int 2 i' cR AR _ (.int .i64 (j : Int)) rfl rfl rfl rfl (by omega) (by simp) ?_)
                  intro A11 c11 w11 HX11
                  have C11 : Cx w w11 w.heap.size gc 32 #[.int .i64 N, .int .i64 S, .int .i64 T, .slice AF (N + 1) cF, .slice AH m cH, .slice AR i' cR, .slice AC m cC, .slice (some ⟨gA, 0, none⟩) m cA, .slice AB m cB] [⟨3, AF, N + 1, cF, (FF).map (Value.int .i64)⟩, ⟨3, AH, m, cH, (H).map (Value.int .i64)⟩, ⟨3, A11, i' + 1, c11, (R ++ [(j : Int)]).map (Value.int .i64)⟩, ⟨2, AC, m, cC, (C).map (Value.int .i64)⟩, ⟨3, (some ⟨gA, 0, none⟩), m, cA, (Ai).map (Value.int .i64)⟩, ⟨4, AB, m, cB, (B).map Value.bool⟩] [(w.heap.size, 24, #[.int .i64 N, .int .i64 S, .int .i64 T, .slice A n c]), (w.heap.size + 1, 32, #[.int .i64 0, .int .i64 0, .int .i64 0, .slice none 0 0, .slice none 0 0, .slice none 0 0, .slice none 0 0, .slice none 0 0, .slice none 0 0])] := by
                    have h := HX11.out
                    simpa only [List.map_append, List.map_cons, List.map_nil, List.set_cons_zero, List.set_cons_succ] using h
                  have D11 : Cx w (w11.setCell ⟨gc, 5, none⟩ (.slice A11 (i' + 1) c11)) w.heap.size gc 32 #[.int .i64 N, .int .i64 S, .int .i64 T, .slice AF (N + 1) cF, .slice AH m cH, .slice A11 (i' + 1) c11, .slice AC m cC, .slice (some ⟨gA, 0, none⟩) m cA, .slice AB m cB] [⟨3, AF, N + 1, cF, (FF).map (Value.int .i64)⟩, ⟨3, AH, m, cH, (H).map (Value.int .i64)⟩, ⟨3, A11, i' + 1, c11, (R ++ [(j : Int)]).map (Value.int .i64)⟩, ⟨2, AC, m, cC, (C).map (Value.int .i64)⟩, ⟨3, (some ⟨gA, 0, none⟩), m, cA, (Ai).map (Value.int .i64)⟩, ⟨4, AB, m, cB, (B).map Value.bool⟩] [(w.heap.size, 24, #[.int .i64 N, .int .i64 S, .int .i64 T, .slice A n c]), (w.heap.size + 1, 32, #[.int .i64 0, .int .i64 0, .int .i64 0, .slice none 0 0, .slice none 0 0, .slice none 0 0, .slice none 0 0, .slice none 0 0, .slice none 0 0])] := by simpa using C11.store 5 (.slice A11 (i' + 1) c11)
                  clear a0 a1 a2 a3 a4 a5 a6 a7 a8 f0 f1 f2 f3 f4 f5 f6 f7 f8 hzc knr r0 r1 r2 r3 hzn hnn HX11
                  obtain ⟨a0, a1, a2, a3, a4, a5, a6, a7, a8⟩ := C11.kc.at9
                  obtain ⟨f0, f1, f2, f3, f4, f5, f6, f7, f8⟩ := C11.kc.free9
                  have hzc := C11.kc.lt
                  have knr := (C11.oth _ (List.mem_cons_self ..)).1
                  have hnn := (C11.oth _ (List.mem_cons_self ..)).2.1
                  obtain ⟨r0, r1, r2, r3⟩ := knr.at4
                  have hzn := knr.lt
                  try simp only at hzn
                  try simp only at hnn
                  have HD11 := Lib.hid D11
                  clear C11 D11 hX1
                  go_wp2_with fail
                  go_roundw
                  case rel => exact ⟨j + 1, i' + 1, R ++ [(j : Int)], by omega, by go_num, HJ.out, HR1.out, ⟨_, _, _, _, _, _, _, _, _, _, _, _, HD11.out⟩⟩
                  case measure => simp [intOf]; omega
              · have hjq : ¬ j = q := fun e => hkk (HPR.out.2 e).1
                have HJ : Hid (i' = (if q < j + 1 then i + 1 else i)) := Lib.hid (by rw [HI'.out]; split <;> split <;> omega)
                have hd1 : ((k : Int) == (k' : Int)) = false := beq_false_of_ne hkk
                have hd2 : ¬ k = k' := by omega
                go_wp2_with fail
                go_quiet (fail)
                go_wp2_with fail
                go_roundw
                case rel => exact ⟨j + 1, i', R, by omega, by go_num, HJ.out, HR.out, ⟨_, _, _, _, _, _, _, _, _, _, _, _, hX0.out.drew⟩⟩
                case measure => simp [intOf]; omega
            · have hii : i' = i + 1 := by rw [HI'.out, if_pos (by omega)]
              subst hii
              have hX0 := Lib.hid X0; clear X0
              go_wp2_with fail
              go_roundw
              case rel => exact ⟨i + 1, R, by omega, by go_num, HR.out, ⟨_, _, _, _, _, _, _, _, _, _, _, _, hX0.out⟩⟩
              case measure => simp [intOf]; omega
        · obtain rfl : m = i := by omega
          have kz := (X0.oth _ (List.mem_cons_of_mem _ (List.mem_cons_self ..))).1
          simp only at kz
          have KQ := kz.set9 (.int .i64 N) (.int .i64 S) (.int .i64 T) (.slice AF (N + 1) cF) (.slice AH m cH) (.slice AR m cR) (.slice AC m cC) (.slice AA m cA) (.slice AB m cB)
          have HH := X0.held.far9 (u0 := .int .i64 N) (u1 := .int .i64 S) (u2 := .int .i64 T) (u3 := .slice AF (N + 1) cF) (u4 := .slice AH m cH) (u5 := .slice AR m cR) (u6 := .slice AC m cC) (u7 := .slice AA m cA) (u8 := .slice AB m cB) kz (by simp)
          obtain ⟨z0, z1, z2, z3, z4, z5, z6, z7, z8⟩ := kz.at9
          obtain ⟨y0, y1, y2, y3, y4, y5, y6, y7, y8⟩ := kz.free9
          have hzz := kz.lt
          have hzg := (X0.oth _ (List.mem_cons_of_mem _ (List.mem_cons_self ..))).2.1
          simp only at hzg
          have HKQ := Lib.hid KQ; have HHH := Lib.hid HH; have HBE := Lib.hid X0.bel
          clear KQ HH X0
          go_wp2_with fail
          obtain ⟨q0, q1, q2, q3, q4, q5, q6, q7, q8⟩ := HKQ.out.at9
          refine bodyPost_ret (v := .tuple #[csrW N m S T ⟨AF, cF, AH, cH, AR, cR, AC, cC, AA, cA, AB, cB⟩, .int .i64 0]) (by simp [results, Try.results9, go_sem, q0, q1, q2, q3, q4, q5, q6, q7, q8]) rfl ?_
          refine ⟨⟨AF, cF, AH, cH, AR, cR, AC, cC, AA, cA, AB, cB⟩, FF, H, R, C, Ai, B, by rw [HM.out], ⟨HFF.out.symm, by rw [HM.out]; exact HE0.out, by rw [HM.out]; exact HR.out⟩, ?_, ?_, ?_⟩
          · rw [HM.out]
            have h := HHH.out
            exact ⟨h.ints (i := 0) rfl (by rw [← HFF.out, tab_len]), h.ints (i := 1) rfl HLN.out.1, h.ints (i := 2) rfl HR.out.len, h.ints (i := 3) rfl HLN.out.2.1, h.ints (i := 4) rfl HLN.out.2.2.1, h.bools (i := 5) rfl HLN.out.2.2.2⟩
          · have h := HHH.out
            exact ⟨h.abv (i := 0) rfl, h.abv (i := 1) rfl, h.abv (i := 2) rfl, h.abv (i := 3) rfl, h.abv (i := 4) rfl, h.abv (i := 5) rfl⟩
          · exact ((((((((HBE.out.setCell (by simp) _).setCell (by simp) _).setCell (by simp) _).setCell (by simp) _).setCell (by simp) _).setCell (by simp) _).setCell (by simp) _).setCell (by simp) _).setCell (by simp) _

        end Go.Proofs.Ytgjokddcaadjdaa

/-! Refc -/
namespace Go.Proofs.Ytgjokddcaadjdaa
open Go.RowKit
set_option maxRecDepth 100000

theorem RdBy.adr {α : Type} {f : α → List Value} {size : Nat} {w : World} {B n : Nat} {A : Option Addr} {L : List α} (h : RdBy f size w B A n L) (hn : 0 < n) : ∃ b off, A = some ⟨b, off, none⟩ := by
  obtain ⟨b, off, e, _⟩ := h.2 hn
  exact ⟨b, off, e⟩
theorem RdBy.cel {w : World} {B n b off k : Nat} {L : List Int} {x : Int} (h : RdBy intCells 1 w B (some ⟨b, off, none⟩) n L) (hx : L[k]? = some x) : b < B ∧ w.cell? ⟨b, off + k, none⟩ = some (.int .i64 x) := Ints.cel h hx

theorem wrap_in {n : Int} (h0 : -9223372036854775808 ≤ n) (h1 : n < 9223372036854775808) : IntKind.i64.wrap n = n := by
  rw [IntKind.wrap_i64]
  omega

theorem inc_cap {l : List ArcN} {i : Nat} {v u : Int} {b : Bool} {c t : Int} (hI : Inc l i v u b c) (h : ∀ a ∈ l, 0 ≤ a.cap ∧ a.cap ≤ t) : 0 ≤ c ∧ c ≤ t := by
  obtain ⟨_, a, ha, hh⟩ := hI
  have := h a (mem_at ha)
  rcases hh with ⟨_, _, _, e⟩ | ⟨_, _, _, e⟩ <;> omega

/-- What is left is answered. -/
def RetRes2 (l : List ArcN) (f : List Int) (M : Nat) (w : World) (e : Ending) (w' : World) : Prop :=
  ∃ (A : Option Addr) (c : Nat) (X : List Int), e = .returned (.tuple #[.slice A M c, .int .i64 0]) ∧ Ints w' w'.heap.size A M X ∧ ResOf l f M X ∧ Abv w.heap.size A ∧ Below w.heap.size w w'


end Go.Proofs.Ytgjokddcaadjdaa
