/- Layer 7: Active, and the closures. -/
import Derived.Test.YtanifbofjecpmaaRexo
namespace Go.Proofs.Ytanifbofjecpmaa
open Go.RowKit
set_option maxRecDepth 100000

set_option maxHeartbeats 1000000 in
theorem act1_is (N M s t v nX nH g1 g2 : Nat) (K : CsrS) (Q : PreS) (X E H : List Int) (w : World) (hC : Blk w g1 32 #[.int .i64 (N : Int), .int .i64 (s : Int), .int .i64 (t : Int), .slice K.AF (N + 1) K.cF, .slice K.AH M K.cH, .slice K.AR M K.cR, .slice K.AC M K.cC, .slice K.AA M K.cA, .slice K.AB M K.cB])
    (hP : Blk w g2 29 #[.slice Q.AX nX Q.cX, .slice Q.AE N Q.cE, .slice Q.AH nH Q.cH]) (hQ : StIn w w.heap.size nX N nH Q X E H) (hv : v < N) :
    Calls Try.prog 81 #[.int .i64 (v : Int), .pointer (some ⟨g1, 0, none⟩), .pointer (some ⟨g2, 0, none⟩)] w fun e w' => e = .returned (.bool (actB s t E v)) ∧ Below w.heap.size w w' := by
  have hact := act_is N M s t v nX nH K Q X E H w hQ hv
  have HA := Lib.hid hact
  clear hact hQ
  obtain ⟨AF, cF, AH, cH, AR, cR, AC, cC, AA, cA, AB, cB⟩ := K
  obtain ⟨AX, cX, AE, cE, AHH, cHH⟩ := Q
  dsimp only [csrW, preW] at HA hC hP ⊢
  obtain ⟨a0, a1, a2, a3, a4, a5, a6, a7, a8⟩ := hC.at9
  have p0 := hP.cell 0; have p1 := hP.cell 1; have p2 := hP.cell 2
  simp only [List.getElem?_toArray, List.getElem?_cons_zero, List.getElem?_cons_succ] at p0 p1 p2
  have hz1 := hC.lt; have hz2 := hP.lt
  clear hC hP
  go_enter Try.func81, Try.ntmps81
  go_wp2_with fail
  refine HA.out.mono ?_
  rintro e w2 ⟨rfl, B2⟩
  go_wp2_with fail
  go_ret
  exact ⟨rfl, B2⟩

/-- Active's answer for rows that fit, or not. -/
def activeTo (s t N M nX nE nH : Nat) (E : List Int) : List Nat := if nX = M ∧ nE = N ∧ nH = N then selTo (actB s t E) N else []

set_option maxHeartbeats 2000000 in
theorem active_is (N M s t nX nE nH : Nat) (K : CsrS) (Q : PreS) (fst hd rv : Nat → Nat) (X E H : List Int) (w : World) (hG : Grid N M fst hd rv) (hI : GridIn w w.heap.size N M K fst hd rv) (hQ : StIn w w.heap.size nX nE nH Q X E H) (hs : s < N) (ht : t < N) (hM : M ≤ 100000000) (hN : N ≤ 4096) :
    Calls Try.prog 55 #[csrW N M s t K, preW nX nE nH Q] w (RetSel (activeTo s t N M nX nE nH E) w) := by
  have hfit := fun W (hb : Below w.heap.size w W) => pfit_is N M s t K nX nE nH Q fst hd rv W hG (hI.on hb) hs ht hN hM _ rfl
  have HF := Lib.hid hfit
  have hvt := fun (hn : nE = N) (hx : nX = M) (hh : nH = N) W (hb : Below w.heap.size w W) g1 g2 (hC : Blk W g1 32 #[.int .i64 (N : Int), .int .i64 (s : Int), .int .i64 (t : Int), .slice K.AF (N + 1) K.cF, .slice K.AH M K.cH, .slice K.AR M K.cR, .slice K.AC M K.cC, .slice K.AA M K.cA, .slice K.AB M K.cB])
    (hP : Blk W g2 29 #[.slice Q.AX nX Q.cX, .slice Q.AE N Q.cE, .slice Q.AH nH Q.cH]) => verts_is N M s t K 81 #[.pointer (some ⟨g1, 0, none⟩), .pointer (some ⟨g2, 0, none⟩)] (actB s t E) W (by omega)
      (fun k W2 hk hb2 => act1_is N M s t k nX nH g1 g2 K Q X E H W2 (hC.below hb2 hC.lt) (hP.below hb2 hP.lt) (by subst hn; exact (hQ.on hb).on hb2) hk) (enters_of Try.func81 (by kernel_rfl) rfl)
  have HV := Lib.hid hvt
  obtain ⟨AF, cF, AH, cH, AR, cR, AC, cC, AA, cA, AB, cB⟩ := K
  obtain ⟨AX, cX, AE, cE, AHH, cHH⟩ := Q
  dsimp only [csrW, preW] at HF HV ⊢
  clear hfit hvt hI hQ hG
  obtain ⟨L, hL⟩ : ∃ L, activeTo s t N M nX nE nH E = L := ⟨_, rfl⟩
  rw [hL]
  have HL := Lib.hid hL
  clear hL
  go_enter Try.func55, Try.ntmps55
  go_wp2_with fail
  obtain ⟨w1, hw1⟩ : ∃ w1, ((w.alloc (.cells #[.int .i64 (N : Int), .int .i64 (s : Int), .int .i64 (t : Int), .slice AF (N + 1) cF, .slice AH M cH, .slice AR M cR, .slice AC M cC, .slice AA M cA, .slice AB M cB] 32)).alloc (.cells #[.slice AX nX cX, .slice AE nE cE, .slice AHH nH cHH] 29)) = w1 := ⟨_, rfl⟩
  have B1 : Below w.heap.size w w1 := by rw [← hw1]; exact ((Below.refl _ w).alloc (Nat.le_refl _) _).alloc (by simp) _
  have C1 : Blk w1 w.heap.size 32 #[.int .i64 (N : Int), .int .i64 (s : Int), .int .i64 (t : Int), .slice AF (N + 1) cF, .slice AH M cH, .slice AR M cR, .slice AC M cC, .slice AA M cA, .slice AB M cB] := by rw [← hw1]; exact (Blk.new rfl).alloc _
  have P1 : Blk w1 (w.heap.size + 1) 29 #[.slice AX nX cX, .slice AE nE cE, .slice AHH nH cHH] := by rw [← hw1]; exact Blk.new (by simp)
  rw [hw1]
  clear hw1
  refine (HF.out _ B1).mono ?_
  rintro e w2 ⟨rfl, B2⟩
  have C2 := C1.below B2 C1.lt
  have P2 := P1.below B2 P1.lt
  have Bw := below_step B1 B2
  obtain ⟨a0, a1, a2, a3, a4, a5, a6, a7, a8⟩ := C2.at9
  have p0 := P2.cell 0; have p1 := P2.cell 1; have p2 := P2.cell 2
  simp only [List.getElem?_toArray, List.getElem?_cons_zero, List.getElem?_cons_succ] at p0 p1 p2
  have hz1 := C2.lt; have hz2 := P2.lt
  by_cases hf : nX = M ∧ nE = N ∧ nH = N
  · rw [decide_eq_true hf]
    obtain rfl : L = selTo (actB s t E) N := HL.out.symm.trans (if_pos hf)
    clear HL
    obtain ⟨hx, he, hh⟩ := hf
    subst he
    have hcall := HV.out rfl hx hh w2 Bw _ _ C2 P2
    have HC := Lib.hid hcall
    clear hcall HV HF C1 P1 B1 B2 C2 P2 hx hh
    go_wp2_with fail
    refine HC.out.mono ?_
    rintro e w3 ⟨A, c, rfl, hrow, B3⟩
    go_wp2_with fail
    go_ret
    exact ⟨A, c, rfl, own_base hrow Bw.size, below_step Bw B3⟩
  · rw [decide_eq_false hf]
    obtain rfl : L = [] := HL.out.symm.trans (if_neg hf)
    clear HL
    clear HV HF C1 P1 B1 B2 C2 P2 hf
    go_wp2_with fail
    go_ret
    exact ⟨none, 0, rfl, ⟨rfl, .inl ⟨rfl, rfl⟩⟩, Bw⟩

end Go.Proofs.Ytanifbofjecpmaa
