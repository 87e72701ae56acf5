/- The statements' own helper of layer 5: Left. -/
import Derived.Test.YtnhfdmfciddmaaaRefc
import Derived.Test.YtnhfdmfciddmaaaSomes
import Derived.Test.YtnhfdmfciddmaaaGridp
import Derived.Deep.RegionHeld3
namespace Go.Proofs.Ytnhfdmfciddmaaa
open Go.RowKit
set_option maxRecDepth 100000

/-- A residual network, and what is left of its residual arcs, are answered. -/
def RetLeft (N : Nat) (S T : Int) (l : List ArcN) (L : List Int) (w : World) (e : Ending) (w' : World) : Prop :=
  ∃ (K : CsrS) (F H R C Ai : List Int) (B : List Bool) (A : Option Addr) (c : Nat) (f X : List Int), e = .returned (.tuple #[csrW N (firstOf l N) S T K, .slice A (firstOf l N) c]) ∧ CsrL N l F H R C Ai B ∧
    CsrIn w' w'.heap.size N (firstOf l N) K F H R C Ai B ∧ Ints w' w'.heap.size A (firstOf l N) X ∧ ResOf l f (firstOf l N) X ∧ WithinX l L l.length f ∧ Below w.heap.size w w'

theorem left_keep {W0 W : World} {g b n c : Nat} {N S T : Int} {A : Option Addr} {v0 v1 v2 v3 v4 v5 v6 v7 v8 : Value} (K : Blk W0 g 24 #[.int .i64 N, .int .i64 S, .int .i64 T, .slice A n c]) (C : Blk W0 b 29 #[v0, v1, v2, v3, v4, v5, v6, v7, v8]) (hB : Below W0.heap.size W0 W) :
    Below W0.heap.size W0 W ∧ W.cell? ⟨g, 0, none⟩ = some (.int .i64 N) ∧ W.cell? ⟨g, 1, none⟩ = some (.int .i64 S) ∧ W.cell? ⟨g, 2, none⟩ = some (.int .i64 T) ∧ W.cell? ⟨g, 3, none⟩ = some (.slice A n c) ∧
      W.cell? ⟨b, 0, none⟩ = some v0 ∧ W.cell? ⟨b, 1, none⟩ = some v1 ∧ W.cell? ⟨b, 2, none⟩ = some v2 ∧ W.cell? ⟨b, 3, none⟩ = some v3 ∧ W.cell? ⟨b, 4, none⟩ = some v4 ∧ W.cell? ⟨b, 5, none⟩ = some v5 ∧ W.cell? ⟨b, 6, none⟩ = some v6 ∧ W.cell? ⟨b, 7, none⟩ = some v7 ∧ W.cell? ⟨b, 8, none⟩ = some v8 :=
  have k := (K.below hB K.lt).at4
  have q := (C.below hB C.lt).at9
  ⟨hB, k.1, k.2.1, k.2.2.1, k.2.2.2, q.1, q.2.1, q.2.2.1, q.2.2.2.1, q.2.2.2.2.1, q.2.2.2.2.2.1, q.2.2.2.2.2.2.1, q.2.2.2.2.2.2.2.1, q.2.2.2.2.2.2.2.2⟩

set_option maxHeartbeats 4000000 in
theorem left_good (N : Nat) (S T : Int) (A : Option Addr) (n c : Nat) (l : List ArcN) (AL : Option Addr) (nl cl : Nat) (L : List Int) (w : World) (hA : Arcs w w.heap.size A n l) (hck : checkF N S T l = 0) (hL : Ints w w.heap.size AL nl L) (hLR : ∀ x ∈ L, InR x)
    (hcap : ∀ a ∈ l, 0 ≤ a.cap ∧ a.cap < 1125899906842624) :
    Calls Try.prog 8 #[.agg #[.int .i64 N, .int .i64 S, .int .i64 T, .slice A n c], .slice AL nl cl] w (RetLeft N S T l L w) := by
  have hend := ends_in hck
  have hla := hA.len
  obtain ⟨hN2, hN3, hn3, hE, -, -, -, -, -, -, -⟩ := hend
  have hcs := csr_size hN3 hn3
  rw [hla] at hn3
  have HC := Lib.hid hck; have HE := Lib.hid hE; have HCAP := Lib.hid hcap; have HLR := Lib.hid hLR
  clear hck hE hcap hLR
  unfold RetLeft
  obtain ⟨M, hMe⟩ : ∃ M, firstOf l N = M := ⟨_, rfl⟩
  rw [hMe] at hcs ⊢
  go_enter Try.func8, Try.ntmps8
  go_wp2_with fail
  refine (rmake_good N S T A n c l _ ((hA.onAlloc _).onAlloc _) HC.out).mono ?_
  rintro e w1 ⟨⟨AF, cF, AH, cH, AR, cR, AC, cC, AA, cA, AB, cB⟩, F, H, R, C, Ai, B, rfl, hcl, I1, V1, B1⟩
  rw [hMe] at I1 ⊢
  dsimp only [csrW]
  have HM := Lib.hid hMe; have HCL := Lib.hid hcl
  clear hMe hcl
  have K1 : Blk w1 w.heap.size 24 #[.int .i64 N, .int .i64 S, .int .i64 T, .slice A n c] := ((Blk.new rfl).alloc _).below B1 (by simp <;> omega)
  have Z1 : Blk w1 (w.heap.size + 1) 29 #[.int .i64 0, .int .i64 0, .int .i64 0, .slice none 0 0, .slice none 0 0, .slice none 0 0, .slice none 0 0, .slice none 0 0, .slice none 0 0] := (Blk.new (by simp)).below B1 (by simp <;> omega)
  have Bw1 : Below w.heap.size w w1 := below_step ((below_alloc _).alloc (by simp) _) B1
  have a1 := ((hA.onAlloc (.cells #[.int .i64 N, .int .i64 S, .int .i64 T, .slice A n c] 24)).onAlloc (.cells #[.int .i64 0, .int .i64 0, .int .i64 0, .slice none 0 0, .slice none 0 0, .slice none 0 0, .slice none 0 0, .slice none 0 0, .slice none 0 0] 29)).on B1
  have L1 := ((hL.onAlloc (.cells #[.int .i64 N, .int .i64 S, .int .i64 T, .slice A n c] 24)).onAlloc (.cells #[.int .i64 0, .int .i64 0, .int .i64 0, .slice none 0 0, .slice none 0 0, .slice none 0 0, .slice none 0 0, .slice none 0 0, .slice none 0 0] 29)).on B1
  have hz1 := Z1.lt
  have hk1 := K1.lt
  clear B1 hA hL
  obtain ⟨r0, r1, r2, r3⟩ := K1.at4
  go_wp2_with fail
  have C2 : Blk (w1.alloc (.cells #[.int .i64 N, .int .i64 S, .int .i64 T, .slice AF (N + 1) cF, .slice AH M cH, .slice AR M cR, .slice AC M cC, .slice AA M cA, .slice AB M cB] 29)) w1.heap.size 29 _ := Blk.new rfl
  have K2 := K1.alloc (.cells #[.int .i64 N, .int .i64 S, .int .i64 T, .slice AF (N + 1) cF, .slice AH M cH, .slice AR M cR, .slice AC M cC, .slice AA M cA, .slice AB M cB] 29)
  have Z2 := Z1.alloc (.cells #[.int .i64 N, .int .i64 S, .int .i64 T, .slice AF (N + 1) cF, .slice AH M cH, .slice AR M cR, .slice AC M cC, .slice AA M cA, .slice AB M cB] 29)
  have I2 := I1.onAlloc (.cells #[.int .i64 N, .int .i64 S, .int .i64 T, .slice AF (N + 1) cF, .slice AH M cH, .slice AR M cR, .slice AC M cC, .slice AA M cA, .slice AB M cB] 29)
  have a2 := a1.onAlloc (.cells #[.int .i64 N, .int .i64 S, .int .i64 T, .slice AF (N + 1) cF, .slice AH M cH, .slice AR M cR, .slice AC M cC, .slice AA M cA, .slice AB M cB] 29)
  have L2 := L1.onAlloc (.cells #[.int .i64 N, .int .i64 S, .int .i64 T, .slice AF (N + 1) cF, .slice AH M cH, .slice AR M cR, .slice AC M cC, .slice AA M cA, .slice AB M cB] 29)
  have Bw2 := Bw1.alloc Bw1.size (.cells #[.int .i64 N, .int .i64 S, .int .i64 T, .slice AF (N + 1) cF, .slice AH M cH, .slice AR M cR, .slice AC M cC, .slice AA M cA, .slice AB M cB] 29)
  have hs2 : (w1.alloc (.cells #[.int .i64 N, .int .i64 S, .int .i64 T, .slice AF (N + 1) cF, .slice AH M cH, .slice AR M cR, .slice AC M cC, .slice AA M cA, .slice AB M cB] 29)).heap.size = w1.heap.size + 1 := by simp
  generalize (w1.alloc (.cells #[.int .i64 N, .int .i64 S, .int .i64 T, .slice AF (N + 1) cF, .slice AH M cH, .slice AR M cR, .slice AC M cC, .slice AA M cA, .slice AB M cB] 29)) = w2 at *
  have HS2 := Lib.hid hs2
  have hk2 := K2.lt; have hz2 := Z2.lt; have hc2 := C2.lt
  have hzc : w.heap.size + 1 ≠ w1.heap.size := by omega
  have HK2 := Lib.hid K2; have HZ2 := Lib.hid Z2; have HC2 := Lib.hid C2; have HI2 := Lib.hid I2; have HA2 := Lib.hid a2; have HL2 := Lib.hid L2; have HBw2 := Lib.hid Bw2
  clear K1 Z1 I1 a1 L1 Bw1 r0 r1 r2 r3 hz1 hk1 K2 Z2 C2 I2 a2 L2 Bw2 hs2
  have HWC : Hid (∀ a ∈ l, 0 ≤ a.cap ∧ a.cap < 1125899906842624) := HCAP
  go_upto_region 2 with fail
  have HAA := Lib.hid fun (W : World) (hb : Below w2.heap.size w2 W) => HA2.out.on hb
  have HLL := Lib.hid fun (W : World) (hb : Below w2.heap.size w2 W) => HL2.out.on hb
  have HII := Lib.hid fun (W : World) (hb : Below w2.heap.size w2 W) => HI2.out.on hb
  have HFI : Hid (∀ f, WithinX l L n f → FlowIn l f) := Lib.hid fun f h => h.base.flow hla
  have HCP : Hid (∀ a ∈ l, 0 ≤ a.cap ∧ a.cap ≤ 4611686018427387903) := Lib.hid fun a ha => by have := HCAP.out a ha; omega
  have HXL : Hid (∀ f, WithinX l L n f → f.length = n) := Lib.hid fun f h => h.base.len.trans hla
  have hM1 : M ≤ 100000000 := by omega
  go_region_held3 (fun W => Below w2.heap.size w2 W ∧ W.cell? ⟨w.heap.size, 0, none⟩ = some (.int .i64 (N : Int)) ∧ W.cell? ⟨w.heap.size, 1, none⟩ = some (.int .i64 S) ∧ W.cell? ⟨w.heap.size, 2, none⟩ = some (.int .i64 T) ∧ W.cell? ⟨w.heap.size, 3, none⟩ = some (.slice A n c) ∧
      W.cell? ⟨w1.heap.size, 0, none⟩ = some (.int .i64 (N : Int)) ∧ W.cell? ⟨w1.heap.size, 1, none⟩ = some (.int .i64 S) ∧ W.cell? ⟨w1.heap.size, 2, none⟩ = some (.int .i64 T) ∧ W.cell? ⟨w1.heap.size, 3, none⟩ = some (.slice AF (N + 1) cF) ∧ W.cell? ⟨w1.heap.size, 4, none⟩ = some (.slice AH M cH) ∧
      W.cell? ⟨w1.heap.size, 5, none⟩ = some (.slice AR M cR) ∧ W.cell? ⟨w1.heap.size, 6, none⟩ = some (.slice AC M cC) ∧ W.cell? ⟨w1.heap.size, 7, none⟩ = some (.slice AA M cA) ∧ W.cell? ⟨w1.heap.size, 8, none⟩ = some (.slice AB M cB))
    (first
      | exact left_keep HK2.out HC2.out (Below.refl _ _).drew
      | (go_split_ands
         exact left_keep HK2.out HC2.out (by refine below_step ?_ (by assumption); assumption)))
    (first
      | (go_at_call 29; go_split_ands; ((with_reducible refine (withinX_any N S T A n c l AL nl cl L _ (HAA.out _ (by assumption)) (by omega) HCAP.out (HLL.out _ (by assumption)) HLR.out).mono ?_); rintro e W3 ⟨g, X, rfl, hg, X3, WX, B3⟩))
      | (go_at_call 28; go_split_ands; ((with_reducible refine (rres_good N M S T ⟨AF, cF, AH, cH, AR, cR, AC, cC, AA, cA, AB, cB⟩ l F H R C Ai B _ n n _ _ HCL.out (HII.out _ (by assumption)) HE.out HM.out hM1 (X3.ints (HXL.out _ WX)) (HFI.out _ WX) HCP.out).mono ?_); rintro e W4 ⟨AX, cX, Y, rfl, IX, RX, VX, B4⟩)))
  go_split_ands
  have Bw4 : Below w2.heap.size w2 W4 := by assumption
  have Bt := below_step HBw2.out Bw4
  have I4 := HI2.out.on Bw4
  have Z4 := HZ2.out.below Bw4 (by omega)
  have C4 := HC2.out.below Bw4 (by omega)
  obtain ⟨z0, z1, z2, z3, z4, z5, z6, z7, z8⟩ := Z4.at9
  obtain ⟨y0, y1, y2, y3, y4, y5, y6, y7, y8⟩ := Z4.free9
  have hzz := Z4.lt
  have hzc4 := C4.lt
  have HX := Lib.hid IX; have HI4 := Lib.hid I4; have HBt := Lib.hid Bt; have HZ4 := Lib.hid Z4; have HRX := Lib.hid RX; have HWX := Lib.hid WX
  clear IX I4 Bt RX WX Z4
  simp only [World.size_alloc] at V1
  have hvx : ∀ a, AX = some a → a.block ≠ w.heap.size + 1 := fun a e => by have := VX a e; have h3 := B3.size; simp at h3; omega
  have HVX := Lib.hid hvx
  have HV1 := Lib.hid V1
  clear V1 VX hvx
  go_wp2_with fail
  have hv : ∀ {A : Option Addr}, Abv (w.heap.size + 1 + 1) A → ∀ a, A = some a → a.block ≠ w.heap.size + 1 := fun h a e => by have := h a e; omega
  have KQ := HZ4.out.set9 (.int .i64 N) (.int .i64 S) (.int .i64 T) (.slice AF (N + 1) cF) (.slice AH M cH) (.slice AR M cR) (.slice AC M cC) (.slice AA M cA) (.slice AB M cB)
  obtain ⟨q0, q1, q2, q3, q4, q5, q6, q7, q8⟩ := KQ.at9
  refine bodyPost_ret (v := .tuple #[csrW N M S T ⟨AF, cF, AH, cH, AR, cR, AC, cC, AA, cA, AB, cB⟩, .slice AX M cX]) (by simp [results, Try.results8, go_sem, q0, q1, q2, q3, q4, q5, q6, q7, q8]) rfl ?_
  have hi := HI4.out
  have va := HV1.out
  have hsz : ∀ (W : World) (a : Addr) (v : Value), (W.setCell a v).heap.size = W.heap.size := fun W a v => by simp
  refine ⟨⟨AF, cF, AH, cH, AR, cR, AC, cC, AA, cA, AB, cB⟩, F, H, R, C, Ai, B, AX, cX, X, Y, rfl, HCL.out, ?_, ?_, HRX.out, by rw [hla]; exact HWX.out, ?_⟩
  · rw [hsz, hsz, hsz, hsz, hsz, hsz, hsz, hsz, hsz]
    exact ⟨hi.iF.far9 (hv va.aF), hi.iH.far9 (hv va.aH), hi.iR.far9 (hv va.aR), hi.iC.far9 (hv va.aC), hi.iA.far9 (hv va.aA), hi.iB.far9 (hv va.aB)⟩
  · rw [hsz, hsz, hsz, hsz, hsz, hsz, hsz, hsz, hsz]
    exact HX.out.far9 HVX.out
  · exact ((((((((HBt.out.setCell (by simp) _).setCell (by simp) _).setCell (by simp) _).setCell (by simp) _).setCell (by simp) _).setCell (by simp) _).setCell (by simp) _).setCell (by simp) _).setCell (by simp) _

end Go.Proofs.Ytnhfdmfciddmaaa
