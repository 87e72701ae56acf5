/- CutGreatest: the walk. -/
import Derived.Test.YthpmappcfgiggaaGreat
import Derived.Test.YthpmappcfgiggaaFromto
import Derived.Test.YthpmappcfgiggaaSomes
import Derived.Test.YthpmappcfgiggaaFlows
namespace Go.Proofs.Ythpmappcfgiggaa
open Go.RowKit
set_option maxRecDepth 100000

section
variable {l : List ArcN} {F : List Int} {N s t : Nat} {K L C : List Bool}
theorem FromTo.tightK (h : FromTo l F N s t K L) (hE : EndsIn N l) (hF : FlowIn l F) : TightFor K l F := (shut_tight hE hF).1 (from_shut h.fromS)
theorem FromTo.tightL (h : FromTo l F N s t K L) (hE : EndsIn N l) (hF : FlowIn l F) : TightFor L l F := (shut_tight hE hF).1 (to_shut h.toT)
theorem FromTo.between (h : FromTo l F N s t K L) (hE : EndsIn N l) (hF : FlowIn l F) (hs : s < N) (hC : IsCut N s t C) (hT : TightFor C l F) {v : Nat} (hv : v < N) :
    (inS K (v : Int) = true → inS C (v : Int) = true) ∧ (inS C (v : Int) = true → inS L (v : Int) = true) := by
  have hc := (shut_tight hE hF).2 hT
  refine ⟨fun h1 => hc.star hE hs ((h.fromS _ (by omega)).1 h1) hC.src, fun h1 => (h.toT v hv).2 fun h2 => ?_⟩
  have := hc.star hE hv h2 h1
  rw [hC.snk] at this
  cases this
end

set_option maxHeartbeats 16000000 in
theorem cgreat_walk (N S T : Int) (A : Option Addr) (n c : Nat) (l : List ArcN) (AK : Option Addr) (nk ck : Nat) (KK : List Bool) (w : World) (hA : Arcs w w.heap.size A n l) (hf : FitsAll l) (hnc : n ≤ c)
    (hKK : Bools w w.heap.size AK nk KK) :
    Calls Try.prog 4 #[.agg #[.int .i64 N, .int .i64 S, .int .i64 T, .slice A n c], .slice AK nk ck] w fun e w' => e = .returned (.bool true) ∧ Below w.heap.size w w' := by
  have hso := fun W hW => some_any N S T A n c 12 30 l W hW hf hnc (by omega) (by omega) (by omega)
  obtain ⟨N1, hN1, hN2, hN3, hck, hln, hmem⟩ := some_net N S T 12 30 l (by omega) (by omega) (by omega)
  rw [hN1] at hso hck hln hmem
  generalize S % (N1 : Int) = S1 at *
  generalize someT (N1 : Int) S T = T1 at *
  generalize someL (N1 : Int) 30 l = l1 at *
  have hend := ends_in hck
  obtain ⟨-, hN5, -, hE, hS0, hS1, hT0, hT1, hST, hnn, -⟩ := hend
  obtain ⟨s, rfl⟩ := Int.eq_ofNat_of_zero_le hS0
  obtain ⟨t, rfl⟩ := Int.eq_ofNat_of_zero_le hT0
  have hsN : s < N1 := by omega
  have htN : t < N1 := by omega
  have HSO := Lib.hid hso; have HCK := Lib.hid hck; have HMEM := Lib.hid hmem; have HE := Lib.hid hE
  clear hso hck hmem hN1 hE
  go_enter Try.func4, Try.ntmps4
  go_wp2_with fail
  refine (HSO.out _ (hA.onAlloc _)).mono ?_
  rintro e w1 ⟨A1, n1, c1, rfl, o1, hl1, B1⟩
  have K1 : Blk w1 w.heap.size 24 #[.int .i64 N, .int .i64 S, .int .i64 T, .slice A n c] := (Blk.new rfl).below B1 (by simp)
  have hz1 := K1.lt
  obtain ⟨r0, r1, r2, r3⟩ := K1.at4
  obtain ⟨f0, f1, f2, f3⟩ := K1.free4
  have ST := some_stored K1 o1 hl1 (below_step (below_alloc _) B1) (.int .i64 (N1 : Int)) (.int .i64 (s : Int)) (.int .i64 (t : Int))
  have hn1 : n1 ≤ 30 := by omega
  go_wp2_with fail
  generalize (((w1.setCell ⟨w.heap.size, 0, none⟩ (.int .i64 (N1 : Int))).setCell ⟨w.heap.size, 1, none⟩ (.int .i64 (s : Int))).setCell ⟨w.heap.size, 2, none⟩ (.int .i64 (t : Int))).setCell ⟨w.heap.size, 3, none⟩ (.slice A1 n1 c1) = w2 at *
  obtain ⟨K2, a2, Bw2⟩ := ST
  clear r0 r1 r2 r3 f0 f1 f2 f3 K1 o1 B1 hz1 HSO
  have hz2 := K2.lt
  refine (greatest_is N1 s t A1 n1 c1 l1 _ a2 HCK.out (by omega) (by omega)).mono ?_
  rintro e w3 ⟨gX, X, ok, rfl, HG, hno, B3⟩
  have hXl : X.length = n1 := HG.len
  have hgX := HG.far
  have K3 := K2.below B3 K2.lt
  have a3 := a2.on B3
  have Bw3 := below_step Bw2 B3
  have X3 := HG.blk
  have hfl := HG.flow
  have hri := HG.right
  have HFL := Lib.hid hfl; have HRI := Lib.hid hri; have HNO := Lib.hid hno
  clear hfl hri hno HG K2 a2 Bw2 B3
  obtain ⟨r0, r1, r2, r3⟩ := K3.at4
  have hz3 := K3.lt
  cases ok
  case false =>
    go_wp2_with fail
    refine (awake4_any _).mono ?_
    rintro e w12 ⟨rfl, B12⟩
    go_wp2_with fail
    go_ret
    exact ⟨rfl, below_step Bw3 B12⟩
  case true =>
    go_wp2_with fail
    refine (value_good N1 s t A1 n1 c1 l1 _ n1 _ X _ a3 HCK.out (X3.ints hXl) (by omega) HFL.out HRI.out).mono ?_
    rintro e wv ⟨rfl, Bv⟩
    have Kv := K3.below Bv K3.lt
    have av := a3.on Bv
    have Xv := X3.below Bv X3.lt
    have Bwv := below_step Bw3 Bv
    clear r0 r1 r2 r3 hz3 K3 X3 a3 Bw3 Bv
    obtain ⟨r0, r1, r2, r3⟩ := Kv.at4
    have hzv := Kv.lt
    go_wp2_with fail
    refine (from_good N1 s t A1 n1 c1 l1 _ n1 _ X _ av HCK.out (Xv.ints hXl) HFL.out).mono ?_
    rintro e w4 ⟨gA, KA, rfl, hgA, P4, hlA, hKA, B4⟩
    have K4 := Kv.below B4 Kv.lt
    have a4 := av.on B4
    have X4 := Xv.below B4 Xv.lt
    have Bw4 := below_step Bwv B4
    clear r0 r1 r2 r3 hzv Kv Xv av Bwv B4
    obtain ⟨r0, r1, r2, r3⟩ := K4.at4
    have hz4 := K4.lt
    go_wp2_with fail
    refine (to_good N1 s t A1 n1 c1 l1 _ n1 _ X _ a4 HCK.out (X4.ints hXl) HFL.out).mono ?_
    rintro e w5 ⟨gB, KB, rfl, hgB, Q5, hlB, hKB, B5⟩
    have K5 := K4.below B5 K4.lt
    have a5 := a4.on B5
    have X5 := X4.below B5 X4.lt
    have P5 := P4.below B5 P4.lt
    have Bw5 := below_step Bw4 B5
    have hFT : FromTo l1 X N1 s t KA KB := ⟨hKA, hKB⟩
    have hxt : inS KA (t : Int) = false := by
      rw [← Bool.not_eq_true, hFT.fromS _ (by omega)]
      exact HNO.out trivial
    have hcA := (hFT.cutK hlA).1 (by rw [hxt]; rfl)
    have hcB := (hFT.cutL hlB hsN htN).1 (by rw [hxt]; rfl)
    have htA := hFT.tightK HE.out HFL.out
    have htB := hFT.tightL HE.out HFL.out
    have hbt := fun C h1 h2 v h3 => hFT.between (C := C) HE.out HFL.out hsN h1 h2 (v := v) h3
    have hval := fun C h1 => acc_value (K := C) (F := X) HCK.out h1 HRI.out
    have hcap := fun C => acc_cap (K := C) HFL.out
    have hwA : capX KA l1 = exOf l1 X (t : Int) := by rw [← hval _ hcA]; exact ((hcap KA).2.2 htA).symm
    have hwB : capX KB l1 = exOf l1 X (t : Int) := by rw [← hval _ hcB]; exact ((hcap KB).2.2 htB).symm
    have HCA := Lib.hid hcA; have HCB := Lib.hid hcB; have HTA := Lib.hid htA; have HTB := Lib.hid htB; have HBT := Lib.hid hbt; have HVAL := Lib.hid hval; have HCAP := Lib.hid hcap; have HWA := Lib.hid hwA; have HWB := Lib.hid hwB
    clear r0 r1 r2 r3 hz4 K4 X4 P4 a4 Bw4 B5 hKA hKB hFT hxt hcA hcB htA htB hbt hval hcap hwA hwB
    obtain ⟨r0, r1, r2, r3⟩ := K5.at4
    have hz5 := K5.lt
    obtain ⟨wx, hwx⟩ : ∃ x, exOf l1 X (t : Int) = x := ⟨_, rfl⟩
    have HWX := Lib.hid hwx
    rw [hwx]
    clear hwx
    go_wp2_with fail
    refine (tight_is N1 s t A1 n1 c1 l1 _ n1 _ X _ N1 _ KA true _ a5 HCK.out (X5.ints hXl) HFL.out (P5.bools hlA) HCA.out ⟨fun _ => HTA.out, fun _ => rfl⟩).mono ?_
    rintro e w6 ⟨rfl, B6⟩
    have K6 := K5.below B6 K5.lt
    have a6 := a5.on B6
    have X6 := X5.below B6 X5.lt
    have P6 := P5.below B6 P5.lt
    have Q6 := Q5.below B6 Q5.lt
    have Bw6 := below_step Bw5 B6
    clear r0 r1 r2 r3 hz5 K5 X5 P5 Q5 a5 Bw5 B6
    obtain ⟨r0, r1, r2, r3⟩ := K6.at4
    have hz6 := K6.lt
    go_wp2_with fail
    refine (tight_is N1 s t A1 n1 c1 l1 _ n1 _ X _ N1 _ KB true _ a6 HCK.out (X6.ints hXl) HFL.out (Q6.bools hlB) HCB.out ⟨fun _ => HTB.out, fun _ => rfl⟩).mono ?_
    rintro e w7 ⟨rfl, B7⟩
    have K7 := K6.below B7 K6.lt
    have a7 := a6.on B7
    have X7 := X6.below B7 X6.lt
    have P7 := P6.below B7 P6.lt
    have Q7 := Q6.below B7 Q6.lt
    have Bw7 := below_step Bw6 B7
    clear r0 r1 r2 r3 hz6 K6 X6 P6 Q6 a6 Bw6 B7 HTA HTB
    have hz7 := K7.lt
    obtain ⟨r0, r1, r2, r3⟩ := K7.at4
    go_wp2_with fail
    clear r0 r1 r2 r3
    have C8 : Blk (w7.alloc (.cells #[.slice (some ⟨gA, 0, none⟩) N1 N1, .slice (some ⟨gB, 0, none⟩) N1 N1] 26)) w7.heap.size 26 #[.slice (some ⟨gA, 0, none⟩) N1 N1, .slice (some ⟨gB, 0, none⟩) N1 N1] := Blk.new rfl
    have B8 : Below w7.heap.size w7 (w7.alloc (.cells #[.slice (some ⟨gA, 0, none⟩) N1 N1, .slice (some ⟨gB, 0, none⟩) N1 N1] 26)) := below_alloc _
    generalize w7.alloc (.cells #[.slice (some ⟨gA, 0, none⟩) N1 N1, .slice (some ⟨gB, 0, none⟩) N1 N1] 26) = w8 at *
    have K8 := K7.below B8 K7.lt
    have a8 := a7.on B8
    have X8 := X7.below B8 X7.lt
    have P8 := P7.below B8 P7.lt
    have Q8 := Q7.below B8 Q7.lt
    have Bw8 := below_step Bw7 B8
    clear hz7 K7 X7 P7 Q7 a7 Bw7 B8
    go_loopw [14, 15, 16, 77] (fun _ _ _ i wr => ∃ k : Nat, k ≤ 2 ∧ i = .int .i64 k ∧ Below w8.heap.size w8 wr) (fun _ _ _ i _ => 2 - (intOf i).toNat)
    case atStart => exact ⟨0, by omega, rfl, Below.refl _ _⟩
    case round =>
      obtain ⟨k, hk, rfl, B9⟩ := hrel
      have K9 := K8.below B9 K8.lt
      have a9 := a8.on B9
      have X9 := X8.below B9 X8.lt
      have P9 := P8.below B9 P8.lt
      have Q9 := Q8.below B9 Q8.lt
      have C9 := C8.below B9 C8.lt
      obtain ⟨r0, r1, r2, r3⟩ := K9.at4
      have hz9 := K9.lt
      have hcz := C9.lt
      by_cases hlt : k < 2
      · by_cases h0 : k < 1
        · obtain rfl : k = 0 := by omega
          have cc := C9.cell 0
          simp only [List.getElem?_toArray, List.getElem?_cons_zero] at cc
          go_wp2_with fail
          refine (cap_good N1 s t A1 n1 c1 l1 _ N1 _ KA _ a9 HCK.out (P9.bools hlA) HCA.out).mono ?_
          rintro e w10 ⟨rfl, B10⟩
          rw [HWA.out, HWX.out]
          go_wp2_with fail
          go_roundw
          case rel => exact ⟨1, by omega, by go_num, below_step B9 B10⟩
          case measure => simp [intOf]
        · obtain rfl : k = 1 := by omega
          have cc := C9.cell 1
          simp only [List.getElem?_toArray, List.getElem?_cons_zero, List.getElem?_cons_succ] at cc
          go_wp2_with fail
          refine (cap_good N1 s t A1 n1 c1 l1 _ N1 _ KB _ a9 HCK.out (Q9.bools hlB) HCB.out).mono ?_
          rintro e w10 ⟨rfl, B10⟩
          rw [HWB.out, HWX.out]
          go_wp2_with fail
          go_roundw
          case rel => exact ⟨2, by omega, by go_num, below_step B9 B10⟩
          case measure => simp [intOf]
      · obtain rfl : k = 2 := by omega
        have Bw9 := below_step Bw8 B9
        clear K8 a8 X8 P8 Q8 C8 C9 B9 Bw8 hcz
        go_wp2_with fail
        refine (side_is N1 s t A1 n1 c1 l1 AK nk ck KK _ HCK.out ((hKK.below Bw9).more Bw9.size)).mono ?_
        rintro e w10 ⟨gK, K, rfl, hgK, S10, hlK, hcut, B10⟩
        have K10 := K9.below B10 K9.lt
        have a10 := a9.on B10
        have X10 := X9.below B10 X9.lt
        have P10 := P9.below B10 P9.lt
        have Q10 := Q9.below B10 Q9.lt
        have Bw10 := below_step Bw9 B10
        have HCUT := Lib.hid hcut
        clear hcut r0 r1 r2 r3 hz9 K9 a9 X9 P9 Q9 Bw9 B10
        obtain ⟨r0, r1, r2, r3⟩ := K10.at4
        have hz10 := K10.lt
        go_wp2_with fail
        refine (cap_good N1 s t A1 n1 c1 l1 _ N1 _ K _ a10 HCK.out (S10.bools hlK) HCUT.out).mono ?_
        rintro e w11 ⟨rfl, B11⟩
        have K11 := K10.below B11 K10.lt
        have a11 := a10.on B11
        have X11 := X10.below B11 X10.lt
        have P11 := P10.below B11 P10.lt
        have Q11 := Q10.below B11 Q10.lt
        have S11 := S10.below B11 S10.lt
        have Bw11 := below_step Bw10 B11
        clear r0 r1 r2 r3 hz10 K10 a10 X10 P10 Q10 S10 Bw10 B11
        obtain ⟨r0, r1, r2, r3⟩ := K11.at4
        have hz11 := K11.lt
        have hcp := HCAP.out K
        rw [HVAL.out K HCUT.out, HWX.out] at hcp
        have hbt := HBT.out K HCUT.out
        obtain ⟨y, hy⟩ : ∃ y, capX K l1 = y := ⟨_, rfl⟩
        rw [hy] at hcp ⊢
        have hyx : ¬ y < wx := by omega
        have HCP := Lib.hid hcp.2; have HBE := Lib.hid hbt
        clear hcp hbt hy HCAP HVAL HBT HWA HWB HWX
        cases hq : decide (y = wx)
        all_goals
          have HQ' := Lib.hid hq
          clear hq
        · have hne : (y == wx) = false := by simpa using HQ'.out
          go_wp2_with fail
          refine (tight_is N1 s t A1 n1 c1 l1 _ n1 _ X _ N1 _ K false _ a11 HCK.out (X11.ints hXl) HFL.out (S11.bools hlK) HCUT.out ⟨fun h => (by cases h), fun h => absurd (HCP.out.2 h).symm (of_decide_eq_false HQ'.out)⟩).mono ?_
          rintro e w12 ⟨rfl, B12⟩
          have P12 := P11.below B12 P11.lt
          have Q12 := Q11.below B12 Q11.lt
          have S12 := S11.below B12 S11.lt
          have Bw12 := below_step Bw11 B12
          clear r0 r1 r2 r3 hz11 K11 a11 X11 P11 Q11 S11 Bw11 B12
          go_wp2_with fail
          go_loopw [20, 123] (fun _ i wr => ∃ k : Nat, k ≤ N1 ∧ i = .int .i64 k ∧ Below w12.heap.size w12 wr) (fun _ i _ => N1 - (intOf i).toNat)
          case atStart => exact ⟨0, Nat.zero_le _, rfl, Below.refl _ _⟩
          case round =>
            obtain ⟨k, hk, rfl, B13⟩ := hrel
            by_cases hlt : k < N1
            · have sk := (S12.below B13 S12.lt).bat (at_inS (K := K) (v := k) (by omega))
              have pk := (P12.below B13 P12.lt).bat (at_inS (K := KA) (v := k) (by omega))
              have qk := (Q12.below B13 Q12.lt).bat (at_inS (K := KB) (v := k) (by omega))
              go_wp2_with fail
              go_roundw
              case rel => exact ⟨k + 1, by omega, by go_num, B13⟩
              case measure => simp [intOf]; omega
            · have Bw13 := below_step Bw12 B13
              go_wp2_with fail
              refine (awake4_any _).mono ?_
              rintro e w14 ⟨rfl, B14⟩
              go_wp2_with fail
              go_ret
              exact ⟨rfl, below_step Bw13 B14⟩
        · have heq : (y == wx) = true := by simpa using HQ'.out
          go_wp2_with fail
          refine (tight_is N1 s t A1 n1 c1 l1 _ n1 _ X _ N1 _ K true _ a11 HCK.out (X11.ints hXl) HFL.out (S11.bools hlK) HCUT.out ⟨fun _ => HCP.out.1 (of_decide_eq_true HQ'.out).symm, fun _ => rfl⟩).mono ?_
          rintro e w12 ⟨rfl, B12⟩
          have P12 := P11.below B12 P11.lt
          have Q12 := Q11.below B12 Q11.lt
          have S12 := S11.below B12 S11.lt
          have Bw12 := below_step Bw11 B12
          clear r0 r1 r2 r3 hz11 K11 a11 X11 P11 Q11 S11 Bw11 B12
          go_wp2_with fail
          go_loopw [20, 123] (fun _ i wr => ∃ k : Nat, k ≤ N1 ∧ i = .int .i64 k ∧ Below w12.heap.size w12 wr) (fun _ i _ => N1 - (intOf i).toNat)
          case atStart => exact ⟨0, Nat.zero_le _, rfl, Below.refl _ _⟩
          case round =>
            obtain ⟨k, hk, rfl, B13⟩ := hrel
            by_cases hlt : k < N1
            · have sk := (S12.below B13 S12.lt).bat (at_inS (K := K) (v := k) (by omega))
              have pk := (P12.below B13 P12.lt).bat (at_inS (K := KA) (v := k) (by omega))
              have qk := (Q12.below B13 Q12.lt).bat (at_inS (K := KB) (v := k) (by omega))
              obtain ⟨g1, g2⟩ := HBE.out (HCP.out.1 (of_decide_eq_true HQ'.out).symm) k hlt
              generalize inS K (k : Int) = vk at *
              generalize inS KA (k : Int) = va at *
              generalize inS KB (k : Int) = vb at *
              have G1 := Lib.hid g1; have G2 := Lib.hid g2
              clear g1 g2
              cases va
              case false =>
                cases vk
                case false =>
                  go_wp2_with fail
                  go_roundw
                  case rel => exact ⟨k + 1, by omega, by go_num, B13⟩
                  case measure => simp [intOf]; omega
                case true =>
                  obtain rfl := G2.out rfl
                  go_wp2_with fail
                  go_roundw
                  case rel => exact ⟨k + 1, by omega, by go_num, B13⟩
                  case measure => simp [intOf]; omega
              case true =>
                obtain rfl := G1.out rfl
                obtain rfl := G2.out rfl
                go_wp2_with fail
                go_roundw
                case rel => exact ⟨k + 1, by omega, by go_num, B13⟩
                case measure => simp [intOf]; omega
            · have Bw13 := below_step Bw12 B13
              go_wp2_with fail
              refine (awake4_any _).mono ?_
              rintro e w14 ⟨rfl, B14⟩
              go_wp2_with fail
              go_ret
              exact ⟨rfl, below_step Bw13 B14⟩

end Go.Proofs.Ythpmappcfgiggaa
