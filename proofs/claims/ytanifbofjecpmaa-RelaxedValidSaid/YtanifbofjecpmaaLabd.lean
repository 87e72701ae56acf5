/- Layer 6: heights: fit, sloping, Steep, Flat, Valid. -/
import Derived.Test.YtanifbofjecpmaaLab
import Derived.Test.YtanifbofjecpmaaDwayl
namespace Go.Proofs.Ytanifbofjecpmaa
open Go.RowKit
set_option maxRecDepth 100000

set_option maxHeartbeats 1000000 in
theorem lfit1 (N g : Nat) (x : Int) (v1 v2 v3 v4 v5 v6 v7 v8 : Value) (w : World) (K1 : Blk w g 32 #[.int .i64 (N : Int), v1, v2, v3, v4, v5, v6, v7, v8]) (hx : 0 ≤ x ∧ x < (N : Int)) :
    Calls Try.prog 86 #[.int .i64 x, .pointer (some ⟨g, 0, none⟩)] w fun e w' => e = .returned (.bool false) ∧ Below w.heap.size w w' := by
  have c1 := K1.cell 0
  simp only [List.getElem?_toArray, List.getElem?_cons_zero] at c1
  have hz := K1.lt
  have HX := Lib.hid hx
  clear K1 hx
  go_enter Try.func86, Try.ntmps86
  go_wp2_with fail
  refine (lindex_yes HX.out _).mono ?_
  rintro e w1 ⟨rfl, rfl⟩
  go_wp2_with fail
  go_ret
  exact ⟨rfl, Below.refl _ _⟩

set_option maxHeartbeats 8000000 in
theorem lfit_is (N M s t : Nat) (K : CsrS) (fst hd rv : Nat → Nat) (AX : Option Addr) (nX cX : Nat) (A : Option Addr) (n c : Nat) (H : List Int) (w : World) (hG : Grid N M fst hd rv) (hI : GridIn w w.heap.size N M K fst hd rv) (hA : Ints w w.heap.size A n H) (hs : s < N) (ht : t < N) (hN : N ≤ 4096) (hM : M ≤ 100000000) :
    Calls Try.prog 63 #[csrW N M s t K, .slice AX nX cX, .slice A n c] w fun e w' => e = .returned (.bool (decide (nX = M) && htsB N s t H)) ∧ Below w.heap.size w w' := by
  obtain ⟨AF, cF, AH, cH, AR, cR, AC, cC, AA, cA, AB, cB⟩ := K
  dsimp only [csrW]
  obtain ⟨bF, oF, hF⟩ := hI.iF.adr (by omega)
  dsimp only at hF
  subst hF
  have HG := Lib.hid hG; have HI := Lib.hid hI; have HA := Lib.hid hA
  have hf0 : ((fst 0 : Nat) : Int) = 0 := by rw [hG.f0]; rfl
  have hfN : ((fst N : Nat) : Int) = (M : Int) := by rw [hG.fN]
  have HF0 := Lib.hid hf0; have HFN := Lib.hid hfN
  obtain ⟨r, hr⟩ : ∃ r, (decide (nX = M) && htsB N s t H) = r := ⟨_, rfl⟩
  rw [hr]
  have HR := Lib.hid hr
  clear hG hI hf0 hfN hA hr
  go_enter Try.func63, Try.ntmps63
  go_wp2_with fail
  refine (len2_any N M s t ⟨some ⟨bF, oF, none⟩, cF, AH, cH, AR, cR, AC, cC, AA, cA, AB, cB⟩ _).mono ?_
  rintro e w1 ⟨rfl, B1⟩
  have K1 : Blk w1 w.heap.size 32 #[.int .i64 (N : Int), .int .i64 (s : Int), .int .i64 (t : Int), .slice (some ⟨bF, oF, none⟩) (N + 1) cF, .slice AH M cH, .slice AR M cR, .slice AC M cC, .slice AA M cA, .slice AB M cB] := (Blk.new rfl).below B1 (by simp)
  have I1 := (HI.out.onAlloc _).on B1
  have A1 := (HA.out.onAlloc _).on B1
  have Bw1 := below_step (below_alloc _) B1
  clear B1
  by_cases hne : nX = M
  · subst hne
    obtain ⟨a0, a1, a2, a3, a4, a5, a6, a7, a8⟩ := K1.at9
    have hz1 := K1.lt
    have HI1 := Lib.hid I1; have HA1 := Lib.hid A1; have HK1 := Lib.hid K1
    clear I1 A1 K1
    have hsub : IntKind.i64.wrap ((N : Int) + 1 - 1) = (N : Int) := by rw [wrap_any (by omega) (by omega)]; omega
    go_wp2_with fail
    refine (lright_is N nX s t ⟨some ⟨bF, oF, none⟩, cF, AH, cH, AR, cR, AC, cC, AA, cA, AB, cB⟩ A n c H _ HA1.out hs ht hN).mono ?_
    rintro e w2 ⟨rfl, B2⟩
    have K2 := HK1.out.below B2 HK1.out.lt
    have I2 := HI1.out.on B2
    have Bw2 := below_step Bw1 B2
    clear B2 Bw1 a0 a1 a2 a3 a4 a5 a6 a7 a8 hz1
    have HV := Lib.hid (show htsB N s t H = r by have := HR.out; simpa using this)
    cases hr : htsB N s t H
    · rw [hr] at HV
      clear hr
      go_wp2_with fail
      go_ret
      exact ⟨ret_bool HV.out, Bw2⟩
    · rw [hr] at HV
      clear hr
      obtain ⟨a0, a1, a2, a3, a4, a5, a6, a7, a8⟩ := K2.at9
      have hz2 := K2.lt
      have c0 := tab_cell I2.iF (k := 0) (by omega)
      have cN := tab_cell I2.iF (k := N) (by omega)
      rw [HF0.out] at c0
      rw [HFN.out] at cN
      obtain ⟨hzb, c0⟩ := c0
      rw [Nat.add_zero] at c0
      obtain ⟨-, cN⟩ := cN
      have hn1 : ¬ (N : Int) + 1 = 0 := by omega
      have hn2 : decide (nX < nX) = false := by simp
      have HI2 := Lib.hid I2; have HK2 := Lib.hid K2
      clear I2 K2
      go_wp2_with fail
      refine (sorted_yes _ N _ fst _ HI2.out.iF (by omega) HG.out.mono).mono ?_
      rintro e w3 ⟨rfl, B3⟩
      have K3 := HK2.out.below B3 HK2.out.lt
      have I3 := HI2.out.on B3
      have Bw3 := below_step Bw2 B3
      clear B3 Bw2 a0 a1 a2 a3 a4 a5 a6 a7 a8 hz2 c0 cN hn1
      obtain ⟨a0, a1, a2, a3, a4, a5, a6, a7, a8⟩ := K3.at9
      have hz3 := K3.lt
      have HI3 := Lib.hid I3; have HK3 := Lib.hid K3
      clear I3 K3
      go_wp2_with fail
      have hcf : ∀ (xs : Array Value) (W : World), (callFunc 86 xs).run Try.prog W = .ok (.enter 86 xs) W := fun xs W => by kernel_rfl
      refine (lconf_none 86 #[.pointer (some ⟨w.heap.size, 0, none⟩)] _ _ _ _ _ HI3.out.iH (by omega) (fun k x W hx hB => ?_) hcf).mono ?_
      · have hk : k < nX := by
          have := (List.getElem?_eq_some_iff.1 hx).1
          rwa [tab_len] at this
        rw [tab_at hk] at hx
        injection hx with hx
        subst hx
        exact lfit1 N w.heap.size _ _ _ _ _ _ _ _ _ W (HK3.out.below hB HK3.out.lt) (by have := HG.out.hdl k hk; omega)
      · rintro e w4 ⟨rfl, B4⟩
        have Bw4 := below_step Bw3 B4
        clear B4 Bw3 a0 a1 a2 a3 a4 a5 a6 a7 a8 hz3
        go_wp2_with fail
        go_ret
        exact ⟨ret_bool HV.out, Bw4⟩
  · have hne' : ¬ (nX : Int) = (M : Int) := by omega
    have hne2 : ((nX : Int) == (M : Int)) = false := beq_false_of_ne hne'
    have HV := Lib.hid (show false = r by have := HR.out; simpa [hne] using this)
    clear I1 A1 K1
    go_wp2_with fail
    go_ret
    exact ⟨ret_bool HV.out, Bw1⟩

end Go.Proofs.Ytanifbofjecpmaa
