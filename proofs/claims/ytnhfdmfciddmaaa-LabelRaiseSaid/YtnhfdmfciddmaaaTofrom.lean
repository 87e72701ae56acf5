/- Layer 5: To, From. -/
import Derived.Test.YtnhfdmfciddmaaaSearch
namespace Go.Proofs.Ytnhfdmfciddmaaa
open Go.RowKit
set_option maxRecDepth 100000

/-- Is something left of residual arc a? -/
def opn (X : List Int) (a : Nat) : Bool := decide (0 < (X[a]?).getD 0)
theorem opn_at {X : List Int} {a : Nat} {x : Int} (h : X[a]? = some x) : opn X a = decide (0 < x) := by simp [opn, h]


set_option maxHeartbeats 1000000 in
theorem dto1 (k q br bc M cX cR : Nat) (A AR : Option Addr) (X : List Int) (rv : Nat → Nat) (v0 v1 v2 v3 v4 v6 v7 v8 : Value) (w : World) (hk : k < M) (hq : rv k = q) (hqM : q < M) (K1 : Blk w br 25 #[.slice A M cX]) (hX : Ints w w.heap.size A M X)
    (K3 : Blk w bc 29 #[v0, v1, v2, v3, v4, .slice AR M cR, v6, v7, v8]) (hR : Ints w w.heap.size AR M (tab M fun a => (rv a : Int))) :
    Calls Try.prog 41 #[.int .i64 (k : Int), .pointer (some ⟨br, 0, none⟩), .pointer (some ⟨bc, 0, none⟩)] w fun e w' => e = .returned (.bool (opn X q)) ∧ Below w.heap.size w w' := by
  have c1 := K1.cell 0
  have c3 := K3.cell 5
  simp only [List.getElem?_toArray, List.getElem?_cons_zero, List.getElem?_cons_succ] at c1 c3
  obtain ⟨b, off, x, rfl, hb, hx, cx⟩ := intl_at hX hqM
  obtain ⟨bR, oR, rfl⟩ := hR.adr (by omega)
  obtain ⟨hbR, cr⟩ := tab_cell hR hk
  rw [hq] at cr
  rw [opn_at hx]
  have hz := K1.lt; have hz3 := K3.lt
  clear hx hX K1 K3 hR hq
  by_cases h0 : 0 < x
  all_goals
    go_enter Try.func41, Try.ntmps41
    go_wp2_with fail
    go_quiet (fail)
    go_wp2_with fail
    go_ret
    exact ⟨ret_bool (by simp [h0]), below_drewN' (Below.refl _ _) _⟩


set_option maxHeartbeats 4000000 in
theorem to_dist (N M : Nat) (S T : Int) (K : CsrS) (fst hd rv : Nat → Nat) (AX : Option Addr) (cX : Nat) (X : List Int) (s : Nat) (w : World) (hG : Grid N M fst hd rv) (hI : GridIn w w.heap.size N M K fst hd rv) (hX : Ints w w.heap.size AX M X) (hM : M ≤ 100000000) (hN : N ≤ 4096) (hs : s < N) :
    Calls Try.prog 25 #[csrW N M S T K, .slice AX M cX, .int .i64 (s : Int)] w (RetDist (Lk M hd rv (fun a => opn X (rv a))) N s w) := by
  have HG := Lib.hid hG; have HI := Lib.hid hI; have HX := Lib.hid hX
  clear hG hI hX
  obtain ⟨AF, cF, AH, cH, AR, cR, AC, cC, AA, cA, AB, cB⟩ := K
  dsimp only [csrW]
  go_enter Try.func25, Try.ntmps25
  go_wp2_with fail
  refine (fit_yes N M S T ⟨AF, cF, AH, cH, AR, cR, AC, cC, AA, cA, AB, cB⟩ fst hd rv AX cX _ HG.out ((HI.out.onAlloc _).onAlloc _) hN hM).mono ?_
  rintro e w1 ⟨rfl, B1⟩
  have K1 : Blk w1 w.heap.size 29 #[.int .i64 N, .int .i64 S, .int .i64 T, .slice AF (N + 1) cF, .slice AH M cH, .slice AR M cR, .slice AC M cC, .slice AA M cA, .slice AB M cB] := ((Blk.new rfl).alloc _).below B1 (by simp <;> omega)
  have R1 : Blk w1 (w.heap.size + 1) 25 #[.slice AX M cX] := (Blk.new (by simp)).below B1 (by simp <;> omega)
  have I1 := ((HI.out.onAlloc (.cells #[.int .i64 N, .int .i64 S, .int .i64 T, .slice AF (N + 1) cF, .slice AH M cH, .slice AR M cR, .slice AC M cC, .slice AA M cA, .slice AB M cB] 29)).onAlloc (.cells #[.slice AX M cX] 25)).on B1
  have X1 := ((HX.out.onAlloc (.cells #[.int .i64 N, .int .i64 S, .int .i64 T, .slice AF (N + 1) cF, .slice AH M cH, .slice AR M cR, .slice AC M cC, .slice AA M cA, .slice AB M cB] 29)).onAlloc (.cells #[.slice AX M cX] 25)).on B1
  have Bw1 := below_step ((below_alloc (w := w) (.cells #[.int .i64 N, .int .i64 S, .int .i64 T, .slice AF (N + 1) cF, .slice AH M cH, .slice AR M cR, .slice AC M cC, .slice AA M cA, .slice AB M cB] 29)).alloc (by simp) (.cells #[.slice AX M cX] 25)) B1
  clear B1
  obtain ⟨a0, a1, a2, a3, a4, a5, a6, a7, a8⟩ := K1.at9
  have hz1 := K1.lt; have hz2 := R1.lt
  have HR1 := Lib.hid R1; have HI1 := Lib.hid I1; have HX1 := Lib.hid X1; have HB1 := Lib.hid Bw1; have HK1 := Lib.hid K1
  clear R1 I1 X1 Bw1 K1
  go_wp2_with (go_at_call 40; refine (dindex_yes (by omega) _).mono ?_; rintro e w' ⟨rfl, hw⟩; obtain rfl : _ = w' := hw.symm)
  have hcf : ∀ (xs : Array Value) (W : World), (callFunc 41 xs).run Try.prog W = .ok (.enter 41 xs) W := fun xs W => by kernel_rfl
  refine (search_is N M S T ⟨AF, cF, AH, cH, AR, cR, AC, cC, AA, cA, AB, cB⟩ fst hd rv 41 #[.pointer (some ⟨w.heap.size + 1, 0, none⟩), .pointer (some ⟨w.heap.size, 0, none⟩)] (fun a => opn X (rv a)) s _ HG.out (HI1.out.onAlloc _) hM (by omega) hN hs (fun k W hk hB => ?_) hcf).mono ?_
  · exact dto1 k (rv k) (w.heap.size + 1) w.heap.size M cX cR AX AR X rv _ _ _ _ _ _ _ _ W hk rfl (HG.out.rvl k hk) ((HR1.out.alloc _).below hB (by simp; omega)) ((HX1.out.onAlloc _).on hB) ((HK1.out.alloc _).below hB (by simp; omega)) ((HI1.out.onAlloc _).on hB).iR
  · rintro e w2 ⟨g, d, rfl, D2, hD, hg, B2⟩
    have Bw2 := below_step (HB1.out.alloc HB1.out.size _) B2
    have hz3 := HB1.out.size
    simp at hg
    go_wp2_with fail
    go_ret
    exact ⟨g, d, rfl, D2, hD, by omega, Bw2⟩

end Go.Proofs.Ytnhfdmfciddmaaa
