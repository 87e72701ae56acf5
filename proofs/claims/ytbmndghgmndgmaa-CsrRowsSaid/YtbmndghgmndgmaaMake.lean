/- Layer 2: Make. -/
import Derived.Test.YtbmndghgmndgmaaWrite
import Derived.Test.YtbmndghgmndgmaaJoinp
import Derived.Laws.ResultCell
namespace Go.Proofs.Ytbmndghgmndgmaa
open Go.RowKit

/-- The residual network of the arcs l lies in the blocks gF .. gB, below n0. -/
structure CsrAt (w : World) (n0 N : Nat) (l : List ArcN) (gF gH gR gC gA gB : Nat) : Prop where
  lt : gF < n0 ∧ gH < n0 ∧ gR < n0 ∧ gC < n0 ∧ gA < n0 ∧ gB < n0
  first : ∀ v, v ≤ N → w.cell? ⟨gF, v, none⟩ = some (.int .i64 (firstOf l v : Int))
  ent : ∀ i v u b c, Inc l i v u b c → w.cell? ⟨gH, posOf l i v, none⟩ = some (.int .i64 u) ∧ w.cell? ⟨gR, posOf l i v, none⟩ = some (.int .i64 (posOf l i u : Int)) ∧
    w.cell? ⟨gC, posOf l i v, none⟩ = some (.int .i64 c) ∧ w.cell? ⟨gA, posOf l i v, none⟩ = some (.int .i64 (i : Int)) ∧ w.cell? ⟨gB, posOf l i v, none⟩ = some (.bool b)
section
variable {w w' : World} {n0 n1 N : Nat} {l : List ArcN} {gF gH gR gC gA gB : Nat}
theorem CsrAt.below (h : CsrAt w n0 N l gF gH gR gC gA gB) (hb : Below n0 w w') : CsrAt w' n0 N l gF gH gR gC gA gB := by
  obtain ⟨h1, h2, h3, h4, h5, h6⟩ := h.lt
  refine ⟨h.lt, fun v hv => (hb.cell h1).trans (h.first v hv), fun i v u b c hI => ?_⟩
  obtain ⟨e1, e2, e3, e4, e5⟩ := h.ent i v u b c hI
  exact ⟨(hb.cell h2).trans e1, (hb.cell h3).trans e2, (hb.cell h4).trans e3, (hb.cell h5).trans e4, (hb.cell h6).trans e5⟩
theorem CsrAt.more (h : CsrAt w n0 N l gF gH gR gC gA gB) (hn : n0 ≤ n1) : CsrAt w n1 N l gF gH gR gC gA gB := ⟨by have := h.lt; omega, h.first, h.ent⟩
theorem CsrAt.on (h : CsrAt w w.heap.size N l gF gH gR gC gA gB) (hb : Below w.heap.size w w') : CsrAt w' w'.heap.size N l gF gH gR gC gA gB := (h.below hb).more hb.size
theorem CsrAt.onAlloc (h : CsrAt w w.heap.size N l gF gH gR gC gA gB) (o : Obj) : CsrAt (w.alloc o) (w.alloc o).heap.size N l gF gH gR gC gA gB := h.on (below_alloc o)
theorem CsrAt.alloc1 (h : CsrAt w w.heap.size N l gF gH gR gC gA gB) (o : Obj) : CsrAt (w.alloc o) w.heap.size N l gF gH gR gC gA gB := h.below (below_alloc o)
theorem CsrAt.of_blk {M : Nat} {H R C A : List Int} {B : List Bool} (h : CsrBlk w (tab (N + 1) fun v => (firstOf l v : Int)) H R C A B gF gH gR gC gA gB) (P : Part l M l.length H R C A B) : CsrAt w w.heap.size N l gF gH gR gC gA gB :=
  ⟨h.lts, fun v hv => h.kF.iat (tab_at (by omega)), fun i v u b c hI => by
    obtain ⟨e1, e2, e3, e4, e5⟩ := P.ent i v u b c hI.lt hI
    exact ⟨h.kH.iat e1, h.kR.iat e2, h.kC.iat e3, h.kA.iat e4, h.kB.bat e5⟩⟩
end
/-- A residual network in new memory is answered. -/
def RetCsr (N : Nat) (S T : Int) (l : List ArcN) (w : World) (e : Ending) (w' : World) : Prop :=
  ∃ gF gH gR gC gA gB, e = .returned (.tuple #[csrV N (firstOf l N) S T gF gH gR gC gA gB, .int .i64 0]) ∧ (w.heap.size ≤ gF ∧ w.heap.size ≤ gH ∧ w.heap.size ≤ gR ∧ w.heap.size ≤ gC ∧ w.heap.size ≤ gA ∧ w.heap.size ≤ gB) ∧
    CsrAt w' w'.heap.size N l gF gH gR gC gA gB ∧ Below w.heap.size w w'

theorem ends_of_check {N : Nat} {S T : Int} {l : List ArcN} (h : checkF N S T l = 0) : N ≤ 4096 ∧ l.length ≤ 16384 ∧ EndsIn N l := by
  obtain ⟨h1, h2, h3, h4, h5, h6⟩ := check_ok h
  refine ⟨?_, h2, fun a ha => ?_⟩
  · simp [vertsB] at h1; omega
  · have := List.all_eq_true.1 h4 a ha
    simp [isVertB] at this
    omega

set_option maxHeartbeats 1000000 in
theorem make_good (N : Nat) (S T : Int) (A : Option Addr) (n c : Nat) (l : List ArcN) (w : World) (hA : Arcs w w.heap.size A n l) (hc : checkF N S T l = 0) :
    Calls Try.prog 8 #[.agg #[.int .i64 N, .int .i64 S, .int .i64 T, .slice A n c]] w (RetCsr N S T l w) := by
  obtain ⟨hN, hl, hE⟩ := ends_of_check hc
  have hln := hA.len
  have HC := Lib.hid hc; clear hc
  obtain ⟨M, hMe⟩ : ∃ M, firstOf l N = M := ⟨_, rfl⟩
  go_enter Try.func8, Try.ntmps8
  go_wp2_with fail
  refine (check_is _ ((hA.onAlloc _).onAlloc _) (by omega) HC.out).mono ?_
  rintro e w1 ⟨rfl, B1⟩
  have K1 : Blk w1 w.heap.size 24 #[.int .i64 N, .int .i64 S, .int .i64 T, .slice A n c] := ((Blk.new rfl).alloc _).below B1 (by simp; omega)
  have K2 : Blk w1 (w.heap.size + 1) 30 #[.int .i64 0, .int .i64 0, .int .i64 0, .slice none 0 0, .slice none 0 0, .slice none 0 0, .slice none 0 0, .slice none 0 0, .slice none 0 0] := (Blk.new (by simp)).below B1 (by simp)
  have A1 := ((hA.onAlloc _).onAlloc _).on B1
  have hz1 := K1.lt
  have hz2 := K2.lt
  have Bw1 : Below w.heap.size w w1 := below_step ((below_alloc _).alloc (by simp) _) B1
  obtain ⟨r0, r1, r2, r3⟩ := K1.at4
  clear B1
  go_wp2_with fail
  refine (empty_any _ _ _ _ _ _ l _ A1 (by omega) hN hE).mono ?_
  rintro e w2 ⟨gF, gH, gR, gC, gA, gB, rfl, hg, CB, B2⟩
  rw [hMe] at CB ⊢
  have K12 := K1.below B2 K1.lt
  have K22 := K2.below B2 K2.lt
  have A2 := hA.below (Bw1.trans (B2.mono (by omega)))
  have Bw2 : Below w.heap.size w w2 := below_step Bw1 B2
  have hz3 := B2.size
  have hz4 : w.heap.size < w2.heap.size := K12.lt
  have hz5 : w.heap.size + 1 < w2.heap.size := K22.lt
  obtain ⟨r0, r1, r2, r3⟩ := K12.at4
  clear K1 K2 A1
  go_wp2_with fail
  refine (write_any N M w.heap.size S T gF gH gR gC gA gB A n c l _ (A2.below ((Below.refl _ _).alloc (by omega) _)) (by omega) hN hE hMe (by simp; omega) (by omega) (CB.alloc _)).mono ?_
  rintro e w3 ⟨rfl, ⟨H, R, C, Ac, B, P, C3⟩, B3, kp3⟩
  have K23 := kp3 _ _ _ (K22.alloc _) (by decide) (by decide) (by decide)
  have K33 := kp3 _ _ _ (Blk.new rfl) (by decide) (by decide) (by decide)
  have Bw3 : Below w.heap.size w w3 := (Bw2.alloc (by omega) _).trans B3
  obtain ⟨a0, a1, a2, a3, a4, a5, a6, a7, a8⟩ := K33.at9
  obtain ⟨b0, b1, b2, b3, b4, b5, b6, b7, b8⟩ := K23.at9
  obtain ⟨f0, f1, f2, f3, f4, f5, f6, f7, f8⟩ := K23.free9
  have KQ := K23.set9 (.int .i64 N) (.int .i64 S) (.int .i64 T) (.slice (some ⟨gF, 0, none⟩) (N + 1) (N + 1)) (.slice (some ⟨gH, 0, none⟩) M M) (.slice (some ⟨gR, 0, none⟩) M M) (.slice (some ⟨gC, 0, none⟩) M M) (.slice (some ⟨gA, 0, none⟩) M M) (.slice (some ⟨gB, 0, none⟩) M M)
  have HC3 := Lib.hid C3; have HP := Lib.hid P; have HK := Lib.hid KQ; have HKZ := Lib.hid K23; have HB := Lib.hid Bw3
  clear C3 P KQ K23 K33 Bw3 kp3 B3
  go_wp2_with fail
  obtain ⟨q0, q1, q2, q3, q4, q5, q6, q7, q8⟩ := HK.out.at9
  have hf : gF ≠ w.heap.size + 1 ∧ gH ≠ w.heap.size + 1 ∧ gR ≠ w.heap.size + 1 ∧ gC ≠ w.heap.size + 1 ∧ gA ≠ w.heap.size + 1 ∧ gB ≠ w.heap.size + 1 := by omega
  refine bodyPost_ret (v := .tuple #[csrV N M S T gF gH gR gC gA gB, .int .i64 0]) (by simp [results, Try.results8, go_sem, q0, q1, q2, q3, q4, q5, q6, q7, q8]) rfl ?_
  subst hMe
  refine ⟨gF, gH, gR, gC, gA, gB, rfl, by omega, ?_, ?_⟩
  · exact CsrAt.of_blk (((((((((HC3.out.far hf _).far hf _).far hf _).far hf _).far hf _).far hf _).far hf _).far hf _).far hf _) HP.out
  · exact ((((((((HB.out.setCell (by simp) _).setCell (by simp) _).setCell (by simp) _).setCell (by simp) _).setCell (by simp) _).setCell (by simp) _).setCell (by simp) _).setCell (by simp) _).setCell (by simp) _

end Go.Proofs.Ytbmndghgmndgmaa
