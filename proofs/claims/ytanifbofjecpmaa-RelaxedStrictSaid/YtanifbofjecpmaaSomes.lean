/- The statements' own helpers: Among, Some, Within, and plain facts on them. -/
import Derived.Test.YtanifbofjecpmaaChecks
import Derived.Test.YtanifbofjecpmaaGround
import Derived.Test.YtanifbofjecpmaaFacts
import Derived.Test.YtanifbofjecpmaaCells
import Derived.Deep.RegionHeld3
import Derived.Deep.DeepCutAuto
import Derived.Deep.CutBlock
/-! The statements' own helpers: Among. -/
namespace Go.Proofs.Ytanifbofjecpmaa
open Go.RowKit

theorem tmod_mod {x n : Int} (hn : 0 < n) : x.tmod n % n = x % n := by
  rw [Int.tmod_eq_emod]
  split
  · rw [Int.natCast_zero, Int.sub_zero, Int.emod_emod]
  · have hn' : (n.natAbs : Int) = n := by omega
    rw [hn', Int.sub_emod_right, Int.emod_emod]

set_option maxHeartbeats 400000 in
theorem among_any (x n : Int) (w : World) (hn : 0 < n) (hn' : n ≤ 1000000) :
    Calls Try.prog 30 #[.int .i64 x, .int .i64 n] w fun e w' => e = .returned (.int .i64 (x % n)) ∧ w' = w := by
  have h0 : ¬ n < 1 := by omega
  have h1 : ¬ n = 0 := by omega
  have h2 := Int.lt_tmod_of_pos x hn
  have h3 := Int.tmod_lt_of_pos x hn
  go_enter Try.func30, Try.ntmps30
  go_wp2
  go_ret
  exact ⟨ret_i64 (tmod_mod hn), rfl⟩

end Go.Proofs.Ytanifbofjecpmaa

/-! The statements' own helpers: Some. -/
namespace Go.Proofs.Ytanifbofjecpmaa
open Go.RowKit
set_option maxRecDepth 100000

def someCap (c : Int) : Int := (if c < 0 then -(c + 1) else c) % 1125899906842624
def someArc (N : Int) (a : ArcN) : ArcN := ⟨a.frm % N, a.to % N, someCap a.cap⟩
def someN (N v : Int) : Int := 2 + N % (v - 1)
def someT (N S T : Int) : Int := if S % N = T % N then (S % N + 1) % N else T % N
def someL (N : Int) (q : Nat) (l : List ArcN) : List ArcN := (l.take q).map (someArc N)

set_option maxHeartbeats 4000000 in
theorem some_any (N S T : Int) (A : Option Addr) (n c v q : Nat) (l : List ArcN) (w : World) (hA : Arcs w w.heap.size A n l) (hf : FitsAll l) (hnc : n ≤ c) (hv : 2 ≤ v) (hv' : v ≤ 1000) (hq : q ≤ 1000) :
    Calls Try.prog 9 #[.agg #[.int .i64 N, .int .i64 S, .int .i64 T, .slice A n c], .int .i64 v, .int .i64 q] w (RetNet (someN N v) (S % someN N v) (someT (someN N v) S T) (someL (someN N v) q l) w) := by
  have hv1 : (0 : Int) < (v : Int) - 1 := by omega
  have hm1 := Int.emod_nonneg N (show (v : Int) - 1 ≠ 0 by omega)
  have hm2 := Int.emod_lt_of_pos N hv1
  obtain ⟨M, hM⟩ : ∃ M, someN N v = M := ⟨_, rfl⟩
  have hM' : 2 + N % ((v : Int) - 1) = M := hM
  have hM1 : 2 ≤ M := by omega
  have hM2 : M ≤ 1001 := by omega
  rw [hM]
  have hs1 := Int.emod_nonneg S (show M ≠ 0 by omega)
  have hs2 := Int.emod_lt_of_pos S (show 0 < M by omega)
  have ht1 := Int.emod_nonneg T (show M ≠ 0 by omega)
  have ht2 := Int.emod_lt_of_pos T (show 0 < M by omega)
  obtain ⟨S', hS'⟩ : ∃ S', S % M = S' := ⟨_, rfl⟩
  obtain ⟨T', hT'⟩ : ∃ T', T % M = T' := ⟨_, rfl⟩
  obtain ⟨T2, hT2⟩ : ∃ T2, someT M S T = T2 := ⟨_, rfl⟩
  obtain ⟨m, hm⟩ : ∃ m, min n q = m := ⟨_, rfl⟩
  have HT2 := Lib.hid hT2; clear hT2
  have hd : (S' == T') = decide (S' = T') := rfl
  rw [HT2.out]
  rw [hS'] at hs1 hs2 ⊢
  rw [hT'] at ht1 ht2
  go_enter Try.func9, Try.ntmps9
  go_wp2_with fail
  refine (among_any _ _ _ hv1 (by omega)).mono ?_
  rintro e w1 ⟨rfl, rfl⟩
  go_wp2_with fail
  refine (among_any _ _ _ (by omega) (by omega)).mono ?_
  rintro e w1 ⟨rfl, rfl⟩
  rw [hS']
  go_wp2_with fail
  refine (among_any _ _ _ (by omega) (by omega)).mono ?_
  rintro e w1 ⟨rfl, rfl⟩
  rw [hT']
  go_upto_if 34 with fail
  go_cut [41] (fun _ wx => wx = ((w.alloc (.cells #[.int .i64 N, .int .i64 S, .int .i64 T, .slice A n c] 24)).alloc (.cells #[.int .i64 0, .int .i64 0, .int .i64 0, .slice none 0 0] 24)).alloc (.cells #[.int .i64 M, .int .i64 S', .int .i64 T2, .slice none 0 0] 24))
  case first =>
    by_cases hST : S' = T'
    · subst hST
      have hE2 : (S' + 1) % M = T2 := by rw [← HT2.out, someT, hS', hT', if_pos rfl]
      go_wp2_with fail
      go_meet
      rfl
    · have hE2 : T' = T2 := by rw [← HT2.out, someT, hS', hT', if_neg hST]
      have hST' : decide (S' = T') = false := by simpa using hST
      go_wp2_with fail
      go_meet
      rw [hE2]
  case rest =>
    subst hcut
    go_upto_region 6 with fail
    go_cut [49, 50, 51] (fun s49 s50 s51 wx => s49 = .slice A m c ∧ s50 = .int .i64 m ∧ s51 = .int .i64 0 ∧ wx = ((w.alloc (.cells #[.int .i64 N, .int .i64 S, .int .i64 T, .slice A n c] 24)).alloc (.cells #[.int .i64 0, .int .i64 0, .int .i64 0, .slice none 0 0] 24)).alloc (.cells #[.int .i64 M, .int .i64 S', .int .i64 T2, .slice none 0 0] 24))
    case first =>
      by_cases hnq : n ≤ q
      · have hmn : m = n := by omega
        subst hmn
        have h1 : (m : Int) ≤ (q : Int) := by omega
        have h2 : (m : Int) ≤ (c : Int) := by omega
        go_wp2_with fail
        go_meet
        exact ⟨rfl, rfl, rfl, rfl⟩
      · have hmn : m = q := by omega
        subst hmn
        have h1 : ¬ (n : Int) ≤ (m : Int) := by omega
        have h2 : (m : Int) ≤ (c : Int) := by omega
        go_wp2_with fail
        go_meet
        exact ⟨rfl, rfl, rfl, rfl⟩
    case rest =>
      obtain ⟨rfl, rfl, rfl, rfl⟩ := hcut
      obtain ⟨i0, hi, hz0, hz1, hz2⟩ := info_parts arc_info
      have HI := Lib.hid hi; have HZ0 := Lib.hid hz0; have HZ1 := Lib.hid hz1; have HZ2 := Lib.hid hz2
      clear hi hz0 hz1 hz2
      go_wp2_with fail
      go_loopw [9, 10, 51] (fun _ _ i wr => ∃ (k : Nat) (AJ : Option Addr) (cJ : Nat), k ≤ m ∧ i = .int .i64 k ∧ Below w.heap.size w wr ∧ Blk wr (w.heap.size + 1) 24 #[.int .i64 0, .int .i64 0, .int .i64 0, .slice none 0 0] ∧
        Blk wr (w.heap.size + 1 + 1) 24 #[.int .i64 M, .int .i64 S', .int .i64 T2, .slice AJ k cJ] ∧ wr.ownsRow (w.heap.size + 3) 68 3 (.slice AJ k cJ) k (((l.take k).map (someArc M)).flatMap arcCells)) (fun _ _ i _ => m - (intOf i).toNat)
      case atStart =>
        refine ⟨0, none, 0, Nat.zero_le _, rfl, ((below_alloc _).alloc (by simp) _).alloc (by simp; omega) _, (Blk.new (by simp)).alloc _, Blk.new (by simp), ?_⟩
        simpa using World.ownsRow_nil _ _ _ _
      case round =>
        obtain ⟨k, AJ, cJ, hk, rfl, Bw, K1, K2, ho⟩ := hrel
        have HO := Lib.hid ho; clear ho
        have hz1 := K1.lt
        have hz2 := K2.lt
        obtain ⟨r0, r1, r2, r3⟩ := K2.at4
        by_cases hlt : k < m
        · obtain ⟨b, off, a, rfl, hbl, hla, d0, d1, d2⟩ := arcs_at (hA.below Bw) (show k < n by omega)
          have hfa := hf _ (mem_at hla)
          have HL := Lib.hid hla; clear hla
          have hbw : b < wr.heap.size := by omega
          obtain ⟨hfa1, hfa2, hfa3⟩ := hfa
          unfold InR at hfa1 hfa2 hfa3
          have K3 : Blk (wr.alloc (.cells #[.int .i64 a.frm, .int .i64 a.to, .int .i64 a.cap] 68)) wr.heap.size 68 #[.int .i64 a.frm, .int .i64 a.to, .int .i64 a.cap] := Blk.new rfl
          have L2 := K2.alloc (.cells #[.int .i64 a.frm, .int .i64 a.to, .int .i64 a.cap] 68)
          have L1 := K1.alloc (.cells #[.int .i64 a.frm, .int .i64 a.to, .int .i64 a.cap] 68)
          have HO2 : Hid _ := Lib.hid (HO.out.alloc (.cells #[.int .i64 a.frm, .int .i64 a.to, .int .i64 a.cap] 68))
          have B2 := Bw.alloc Bw.size (.cells #[.int .i64 a.frm, .int .i64 a.to, .int .i64 a.cap] 68)
          obtain ⟨y, hy⟩ : ∃ y, (if a.cap < 0 then -(a.cap + 1) else a.cap) = y := ⟨_, rfl⟩
          have htm : y.tmod 1125899906842624 = someCap a.cap := by rw [someCap, hy, Int.tmod_eq_emod_of_nonneg (by rw [← hy]; split <;> omega)]
          have hy0 : 0 ≤ y := by rw [← hy]; split <;> omega
          have hy1 : y ≤ 9223372036854775807 := by rw [← hy]; split <;> omega
          by_cases hcn : a.cap < 0
          · have hy2 : -(a.cap + 1) = y := by rw [← hy, if_pos hcn]
            go_wp2_with fail
            clear hy2 hd d0 d1 d2 r0 r1 r2 r3 hM hM' hv1 hm1 hm2
            have hw2 : (wr.alloc (.cells #[.int .i64 a.frm, .int .i64 a.to, .int .i64 a.cap] 68)).heap.size = wr.heap.size + 1 := by simp
            have HW2 := Lib.hid hw2; clear hw2
            generalize (wr.alloc (.cells #[.int .i64 a.frm, .int .i64 a.to, .int .i64 a.cap] 68)) = w2 at *
            obtain ⟨r0, r1, r2, r3⟩ := L2.at4
            have e0 := K3.cell 0; have e1 := K3.cell 1
            simp only [List.getElem?_toArray, List.getElem?_cons_zero, List.getElem?_cons_succ] at e0 e1
            have hkeep : ∀ W, Blk W (w.heap.size + 1 + 1) 24 #[.int .i64 M, .int .i64 S', .int .i64 T2, .slice AJ k cJ] → Blk W wr.heap.size 68 #[.int .i64 a.frm, .int .i64 a.to, .int .i64 a.cap] → (W.cell? ⟨w.heap.size + 1 + 1, 0, none⟩ = some (.int .i64 M) ∧ W.cell? ⟨w.heap.size + 1 + 1, 3, none⟩ = some (.slice AJ k cJ) ∧ W.cell? ⟨wr.heap.size, 0, none⟩ = some (.int .i64 a.frm) ∧ W.cell? ⟨wr.heap.size, 1, none⟩ = some (.int .i64 a.to)) :=
              fun W h1 h2 => ⟨h1.at4.1, h1.at4.2.2.2, h2.cell 0, h2.cell 1⟩
            refine wp_region_lastL (S := fun W => W.cell? ⟨w.heap.size + 1 + 1, 0, none⟩ = some (.int .i64 M) ∧ W.cell? ⟨w.heap.size + 1 + 1, 3, none⟩ = some (.slice AJ k cJ) ∧ W.cell? ⟨wr.heap.size, 0, none⟩ = some (.int .i64 a.frm) ∧ W.cell? ⟨wr.heap.size, 1, none⟩ = some (.int .i64 a.to)) rfl (by kernel_rfl) (by kernel_rfl) (hkeep _ L2.drew K3.drew) (fun hS0 => ?_)
            simp only [List.dropLast]
            refine takeD (i := 0) (v := ?v0) (some 62) rfl rfl (by kernel_rfl) (by kernel_rfl) (by kernel_rfl) (fun _ _ _ h => h) (Or.inl ⟨by rfl, ?y0⟩) (by assumption) ?_
            case y0 =>
              intro W hSw
              go_split_ands
              go_simp
              try with_reducible rfl
            simp only [Act.put, pa, pz, ps]
            refine takeD (i := 1) (v := ?v1) (some 63) rfl rfl (by kernel_rfl) (by kernel_rfl) (by kernel_rfl) (fun _ _ _ h => h) (Or.inl ⟨by rfl, ?y1⟩) (by assumption) ?_
            case y1 =>
              intro W hSw
              go_split_ands
              go_simp
              try with_reducible rfl
            simp only [Act.put, pa, pz, ps]
            refine takeD (i := 2) (v := ?v2) (some 64) rfl rfl (by kernel_rfl) (by kernel_rfl) (by kernel_rfl) (fun _ _ _ h => h) (Or.inl ⟨by rfl, ?y2⟩) (by assumption) ?_
            case y2 =>
              intro W hSw
              go_split_ands
              go_simp
              try with_reducible rfl
            simp only [Act.put, pa, pz, ps]
            refine takeD (i := 3) (v := ?v3) (some 65) rfl rfl (by kernel_rfl) (by kernel_rfl) (by kernel_rfl) (fun _ _ _ h => h) (Or.inl ⟨by rfl, ?y3⟩) (by assumption) ?_
            case y3 =>
              intro W hSw
              go_split_ands
              go_simp
              try with_reducible rfl
            simp only [Act.put, pa, pz, ps]
            refine takeD (i := 4) (v := ?v4) (some 66) rfl rfl (by kernel_rfl) (by kernel_rfl) (by kernel_rfl) (fun _ _ _ h => h) (Or.inl ⟨by rfl, ?y4⟩) (by assumption) ?_
            case y4 =>
              intro W hSw
              go_split_ands
              go_simp
              try with_reducible rfl
            simp only [Act.put, pa, pz, ps]
            refine takeD (i := 5) (v := ?v5) (some 67) rfl rfl (by kernel_rfl) (by kernel_rfl) (by kernel_rfl) (fun _ _ _ h => h) (Or.inl ⟨by rfl, ?y5⟩) (by assumption) ?_
            case y5 =>
              intro W hSw
              go_split_ands
              go_simp
              try with_reducible rfl
            simp only [Act.put, pa, pz, ps]
            refine takeD (i := 7) (v := ?v7) (some 69) rfl rfl (by kernel_rfl) (by kernel_rfl) (by kernel_rfl) (fun _ _ _ h => h) (Or.inl ⟨by rfl, ?y7⟩) (by assumption) ?_
            case y7 =>
              intro W hSw
              go_split_ands
              go_simp
              try with_reducible rfl
            simp only [Act.put, pa, pz, ps]
            refine takeD (i := 8) (v := ?v8) (some 70) rfl rfl (by kernel_rfl) (by kernel_rfl) (by kernel_rfl) (fun _ _ _ h => h) (Or.inl ⟨by rfl, ?y8⟩) (by assumption) ?_
            case y8 =>
              intro W hSw
              go_split_ands
              go_simp
              try with_reducible rfl
            simp only [Act.put, pa, pz, ps]
            refine takeD (i := 9) (v := ?v9) (some 71) rfl rfl (by kernel_rfl) (by kernel_rfl) (by kernel_rfl) (fun _ _ _ h => h) (Or.inl ⟨by rfl, ?y9⟩) (by assumption) ?_
            case y9 =>
              intro W hSw
              go_split_ands
              go_simp
              try with_reducible rfl
            simp only [Act.put, pa, pz, ps]
            refine takeD (i := 10) (v := ?v10) (some 72) rfl rfl (by kernel_rfl) (by kernel_rfl) (by kernel_rfl) (fun _ _ _ h => h) (Or.inl ⟨by rfl, ?y10⟩) (by assumption) ?_
            case y10 =>
              intro W hSw
              go_split_ands
              go_simp
              try with_reducible rfl
            simp only [Act.put, pa, pz, ps]
            refine takeD (i := 12) (v := ?v12) (some 74) rfl rfl (by kernel_rfl) (by kernel_rfl) (by kernel_rfl) (fun _ _ _ h => h) (Or.inl ⟨by rfl, ?y12⟩) (by assumption) ?_
            case y12 =>
              intro W hSw
              go_split_ands
              go_simp
              try with_reducible rfl
            simp only [Act.put, pa, pz, ps]
            refine takeD (i := 13) (v := ?v13) (some 75) rfl rfl (by kernel_rfl) (by kernel_rfl) (by kernel_rfl) (fun _ _ _ h => h) (Or.inl ⟨by rfl, ?y13⟩) (by assumption) ?_
            case y13 =>
              intro W hSw
              go_split_ands
              go_simp
              try with_reducible rfl
            simp only [Act.put, pa, pz, ps]
            refine wpAnyH_ready (rs := [6]) (by kernel_rfl) (by simp) ?_
            refine AllReadyH.cons rfl (fun K hK => ?_) AllReadyH.nil
            go_simp
            refine (among_any _ _ _ (by omega) (by omega)).mono ?_
            rintro e W ⟨rfl, rfl⟩
            refine hK.out _ _ hS0 (fun _ => ?_)
            clear hK K
            refine wpAnyH_ready (rs := [11]) (by kernel_rfl) (by simp) ?_
            refine AllReadyH.cons rfl (fun K hK => ?_) AllReadyH.nil
            go_simp
            refine (among_any _ _ _ (by omega) (by omega)).mono ?_
            rintro e W ⟨rfl, rfl⟩
            refine hK.out _ _ hS0 (fun _ => ?_)
            clear hK K
            refine takeD (i := 14) (v := ?v14) (some 76) rfl rfl (by kernel_rfl) (by kernel_rfl) (by kernel_rfl) (fun _ _ _ h => h) (Or.inl ⟨by rfl, ?y14⟩) (by assumption) ?_
            case y14 =>
              intro W hSw
              go_split_ands
              go_simp
              try with_reducible rfl
            simp only [Act.put, pa, pz, ps]
            refine wpAnyH_ready (rs := [15]) (by kernel_rfl) (by simp) ?_
            refine AllReadyH.cons rfl (fun K hK => ?_) AllReadyH.nil
            go_simp
            have L2' := (L2.alloc (.cells #[.int .i64 (a.frm % M), .int .i64 (a.to % M), .int .i64 (someCap a.cap)] 68)).drew
            have K3' := (K3.alloc (.cells #[.int .i64 (a.frm % M), .int .i64 (a.to % M), .int .i64 (someCap a.cap)] 68)).drew
            refine hK.out _ _ (hkeep _ L2' K3') (fun hS1 => ?_)
            clear hK K
            refine wpAnyH_ready (rs := [16]) (by kernel_rfl) (by simp) ?_
            refine AllReadyH.cons rfl (fun K hK => ?_) AllReadyH.nil
            have HO3 : Hid (((w2.alloc (.cells #[.int .i64 (a.frm % M), .int .i64 (a.to % M), .int .i64 (someCap a.cap)] 68)).drew).ownsRow (w.heap.size + 3) 68 3 (.slice AJ k cJ) k (((l.take k).map (someArc M)).flatMap arcCells)) := Lib.hid (HO2.out.alloc _)
            refine step_append_row _ (by rfl) (.tmp 63) (.tmp 77) _ (by rfl) (w.heap.size + 3) 68 i0 _ 3 24 Try.underlying22 HI.out HZ0.out HZ1.out HZ2.out rfl (by omega) AJ k cJ _ (by rfl) HO3.out (some ⟨w2.heap.size, 0, none⟩) 1 1 ([someArc M a].flatMap arcCells) (by rfl) rfl ?_ arc_one ?_ ?_ ?_ ?_
            · intro _
              refine ⟨_, rfl, fun j u hu => ?_⟩
              rw [addr_add, Nat.zero_add]
              exact ((Blk.new rfl : Blk (w2.alloc _) w2.heap.size 68 #[.int .i64 (a.frm % M), .int .i64 (a.to % M), .int .i64 (someCap a.cap)]).cell j).trans (by simpa [arcCells, someArc] using hu)
            · unfold maxLen; omega
            · omega
            · have := HW2.out; simp; omega
            · have hw2 := HW2.out
              intro A4 c4 w4 HO4 hg4 HX4
              have L4 := L2'.grownO hg4 HO3.out (by decide)
              have L14 := (L1.alloc (.cells #[.int .i64 (a.frm % M), .int .i64 (a.to % M), .int .i64 (someCap a.cap)] 68)).drew.grownO hg4 HO3.out (by decide)
              have K4 := K3'.grownUp hg4 HO.out (Nat.le_refl _)
              have B4 := below_grown (B2.alloc B2.size (.cells #[.int .i64 (a.frm % M), .int .i64 (a.to % M), .int .i64 (someCap a.cap)] 68)).drew hg4 HO3.out (by omega) (by simp; omega)
              refine hK.out _ _ (hkeep _ L4 K4) (fun hS2 => ?_)
              clear hK K hw2
              show wpAnyH _ _ _ _ _ _ _ (Act.put _ (some 78) _) _
              simp only [Act.put, pa, pz, ps]
              refine takeD (i := 17) (v := ?v17) (some 79) rfl rfl (by kernel_rfl) (by kernel_rfl) (by kernel_rfl) (fun _ _ _ h => h) (Or.inl ⟨by rfl, ?y17⟩) (by assumption) ?_
              case y17 =>
                intro W hSw
                go_split_ands
                go_simp
                try with_reducible rfl
              simp only [Act.put, pa, pz, ps]
              refine wpAnyH_done (by kernel_rfl) ?_ _
              clear hkeep hS0 hS1 hS2 r0 r1 r2 r3 e0 e1
              obtain ⟨r0, r1, r2, r3⟩ := L4.at4
              obtain ⟨f0, f1, f2, f3⟩ := L4.free4
              simp only [Exit.then, List.getLast_cons_cons, List.getLast_singleton]
              go_simp
              go_wp2_with fail
              go_roundw
              case rel =>
                refine ⟨k + 1, A4, c4, by omega, by go_num, ?_, ?_, ?_, ?_⟩
                · exact B4.setCell (by simp; omega) _
                · exact L14.far (by simp) _
                · exact L4.set4' _
                · rw [take_at HL.out, List.map_append, List.flatMap_append]
                  exact own_far HO4.out (own_ne HO4.out L4 (by decide)) _
              case measure => simp [intOf]; omega
          · have hy2 : y = a.cap := by rw [← hy, if_neg hcn]
            subst hy2
            go_wp2_with fail
            clear hd d0 d1 d2 r0 r1 r2 r3 hM hM' hv1 hm1 hm2
            have hw2 : (wr.alloc (.cells #[.int .i64 a.frm, .int .i64 a.to, .int .i64 a.cap] 68)).heap.size = wr.heap.size + 1 := by simp
            have HW2 := Lib.hid hw2; clear hw2
            generalize (wr.alloc (.cells #[.int .i64 a.frm, .int .i64 a.to, .int .i64 a.cap] 68)) = w2 at *
            obtain ⟨r0, r1, r2, r3⟩ := L2.at4
            have e0 := K3.cell 0; have e1 := K3.cell 1
            simp only [List.getElem?_toArray, List.getElem?_cons_zero, List.getElem?_cons_succ] at e0 e1
            have hkeep : ∀ W, Blk W (w.heap.size + 1 + 1) 24 #[.int .i64 M, .int .i64 S', .int .i64 T2, .slice AJ k cJ] → Blk W wr.heap.size 68 #[.int .i64 a.frm, .int .i64 a.to, .int .i64 a.cap] → (W.cell? ⟨w.heap.size + 1 + 1, 0, none⟩ = some (.int .i64 M) ∧ W.cell? ⟨w.heap.size + 1 + 1, 3, none⟩ = some (.slice AJ k cJ) ∧ W.cell? ⟨wr.heap.size, 0, none⟩ = some (.int .i64 a.frm) ∧ W.cell? ⟨wr.heap.size, 1, none⟩ = some (.int .i64 a.to)) :=
              fun W h1 h2 => ⟨h1.at4.1, h1.at4.2.2.2, h2.cell 0, h2.cell 1⟩
            refine wp_region_lastL (S := fun W => W.cell? ⟨w.heap.size + 1 + 1, 0, none⟩ = some (.int .i64 M) ∧ W.cell? ⟨w.heap.size + 1 + 1, 3, none⟩ = some (.slice AJ k cJ) ∧ W.cell? ⟨wr.heap.size, 0, none⟩ = some (.int .i64 a.frm) ∧ W.cell? ⟨wr.heap.size, 1, none⟩ = some (.int .i64 a.to)) rfl (by kernel_rfl) (by kernel_rfl) (hkeep _ L2.drew K3.drew) (fun hS0 => ?_)
            simp only [List.dropLast]
            refine takeD (i := 0) (v := ?vb0) (some 62) rfl rfl (by kernel_rfl) (by kernel_rfl) (by kernel_rfl) (fun _ _ _ h => h) (Or.inl ⟨by rfl, ?yb0⟩) (by assumption) ?_
            case yb0 =>
              intro W hSw
              go_split_ands
              go_simp
              try with_reducible rfl
            simp only [Act.put, pa, pz, ps]
            refine takeD (i := 1) (v := ?vb1) (some 63) rfl rfl (by kernel_rfl) (by kernel_rfl) (by kernel_rfl) (fun _ _ _ h => h) (Or.inl ⟨by rfl, ?yb1⟩) (by assumption) ?_
            case yb1 =>
              intro W hSw
              go_split_ands
              go_simp
              try with_reducible rfl
            simp only [Act.put, pa, pz, ps]
            refine takeD (i := 2) (v := ?vb2) (some 64) rfl rfl (by kernel_rfl) (by kernel_rfl) (by kernel_rfl) (fun _ _ _ h => h) (Or.inl ⟨by rfl, ?yb2⟩) (by assumption) ?_
            case yb2 =>
              intro W hSw
              go_split_ands
              go_simp
              try with_reducible rfl
            simp only [Act.put, pa, pz, ps]
            refine takeD (i := 3) (v := ?vb3) (some 65) rfl rfl (by kernel_rfl) (by kernel_rfl) (by kernel_rfl) (fun _ _ _ h => h) (Or.inl ⟨by rfl, ?yb3⟩) (by assumption) ?_
            case yb3 =>
              intro W hSw
              go_split_ands
              go_simp
              try with_reducible rfl
            simp only [Act.put, pa, pz, ps]
            refine takeD (i := 4) (v := ?vb4) (some 66) rfl rfl (by kernel_rfl) (by kernel_rfl) (by kernel_rfl) (fun _ _ _ h => h) (Or.inl ⟨by rfl, ?yb4⟩) (by assumption) ?_
            case yb4 =>
              intro W hSw
              go_split_ands
              go_simp
              try with_reducible rfl
            simp only [Act.put, pa, pz, ps]
            refine takeD (i := 5) (v := ?vb5) (some 67) rfl rfl (by kernel_rfl) (by kernel_rfl) (by kernel_rfl) (fun _ _ _ h => h) (Or.inl ⟨by rfl, ?yb5⟩) (by assumption) ?_
            case yb5 =>
              intro W hSw
              go_split_ands
              go_simp
              try with_reducible rfl
            simp only [Act.put, pa, pz, ps]
            refine takeD (i := 7) (v := ?vb7) (some 69) rfl rfl (by kernel_rfl) (by kernel_rfl) (by kernel_rfl) (fun _ _ _ h => h) (Or.inl ⟨by rfl, ?yb7⟩) (by assumption) ?_
            case yb7 =>
              intro W hSw
              go_split_ands
              go_simp
              try with_reducible rfl
            simp only [Act.put, pa, pz, ps]
            refine takeD (i := 8) (v := ?vb8) (some 70) rfl rfl (by kernel_rfl) (by kernel_rfl) (by kernel_rfl) (fun _ _ _ h => h) (Or.inl ⟨by rfl, ?yb8⟩) (by assumption) ?_
            case yb8 =>
              intro W hSw
              go_split_ands
              go_simp
              try with_reducible rfl
            simp only [Act.put, pa, pz, ps]
            refine takeD (i := 9) (v := ?vb9) (some 71) rfl rfl (by kernel_rfl) (by kernel_rfl) (by kernel_rfl) (fun _ _ _ h => h) (Or.inl ⟨by rfl, ?yb9⟩) (by assumption) ?_
            case yb9 =>
              intro W hSw
              go_split_ands
              go_simp
              try with_reducible rfl
            simp only [Act.put, pa, pz, ps]
            refine takeD (i := 10) (v := ?vb10) (some 72) rfl rfl (by kernel_rfl) (by kernel_rfl) (by kernel_rfl) (fun _ _ _ h => h) (Or.inl ⟨by rfl, ?yb10⟩) (by assumption) ?_
            case yb10 =>
              intro W hSw
              go_split_ands
              go_simp
              try with_reducible rfl
            simp only [Act.put, pa, pz, ps]
            refine takeD (i := 12) (v := ?vb12) (some 74) rfl rfl (by kernel_rfl) (by kernel_rfl) (by kernel_rfl) (fun _ _ _ h => h) (Or.inl ⟨by rfl, ?yb12⟩) (by assumption) ?_
            case yb12 =>
              intro W hSw
              go_split_ands
              go_simp
              try with_reducible rfl
            simp only [Act.put, pa, pz, ps]
            refine takeD (i := 13) (v := ?vb13) (some 75) rfl rfl (by kernel_rfl) (by kernel_rfl) (by kernel_rfl) (fun _ _ _ h => h) (Or.inl ⟨by rfl, ?yb13⟩) (by assumption) ?_
            case yb13 =>
              intro W hSw
              go_split_ands
              go_simp
              try with_reducible rfl
            simp only [Act.put, pa, pz, ps]
            refine wpAnyH_ready (rs := [6]) (by kernel_rfl) (by simp) ?_
            refine AllReadyH.cons rfl (fun K hK => ?_) AllReadyH.nil
            go_simp
            refine (among_any _ _ _ (by omega) (by omega)).mono ?_
            rintro e W ⟨rfl, rfl⟩
            refine hK.out _ _ hS0 (fun _ => ?_)
            clear hK K
            refine wpAnyH_ready (rs := [11]) (by kernel_rfl) (by simp) ?_
            refine AllReadyH.cons rfl (fun K hK => ?_) AllReadyH.nil
            go_simp
            refine (among_any _ _ _ (by omega) (by omega)).mono ?_
            rintro e W ⟨rfl, rfl⟩
            refine hK.out _ _ hS0 (fun _ => ?_)
            clear hK K
            refine takeD (i := 14) (v := ?vb14) (some 76) rfl rfl (by kernel_rfl) (by kernel_rfl) (by kernel_rfl) (fun _ _ _ h => h) (Or.inl ⟨by rfl, ?yb14⟩) (by assumption) ?_
            case yb14 =>
              intro W hSw
              go_split_ands
              go_simp
              try with_reducible rfl
            simp only [Act.put, pa, pz, ps]
            refine wpAnyH_ready (rs := [15]) (by kernel_rfl) (by simp) ?_
            refine AllReadyH.cons rfl (fun K hK => ?_) AllReadyH.nil
            go_simp
            have L2' := (L2.alloc (.cells #[.int .i64 (a.frm % M), .int .i64 (a.to % M), .int .i64 (someCap a.cap)] 68)).drew
            have K3' := (K3.alloc (.cells #[.int .i64 (a.frm % M), .int .i64 (a.to % M), .int .i64 (someCap a.cap)] 68)).drew
            refine hK.out _ _ (hkeep _ L2' K3') (fun hS1 => ?_)
            clear hK K
            refine wpAnyH_ready (rs := [16]) (by kernel_rfl) (by simp) ?_
            refine AllReadyH.cons rfl (fun K hK => ?_) AllReadyH.nil
            have HO3 : Hid (((w2.alloc (.cells #[.int .i64 (a.frm % M), .int .i64 (a.to % M), .int .i64 (someCap a.cap)] 68)).drew).ownsRow (w.heap.size + 3) 68 3 (.slice AJ k cJ) k (((l.take k).map (someArc M)).flatMap arcCells)) := Lib.hid (HO2.out.alloc _)
            refine step_append_row _ (by rfl) (.tmp 63) (.tmp 77) _ (by rfl) (w.heap.size + 3) 68 i0 _ 3 24 Try.underlying22 HI.out HZ0.out HZ1.out HZ2.out rfl (by omega) AJ k cJ _ (by rfl) HO3.out (some ⟨w2.heap.size, 0, none⟩) 1 1 ([someArc M a].flatMap arcCells) (by rfl) rfl ?_ arc_one ?_ ?_ ?_ ?_
            · intro _
              refine ⟨_, rfl, fun j u hu => ?_⟩
              rw [addr_add, Nat.zero_add]
              exact ((Blk.new rfl : Blk (w2.alloc _) w2.heap.size 68 #[.int .i64 (a.frm % M), .int .i64 (a.to % M), .int .i64 (someCap a.cap)]).cell j).trans (by simpa [arcCells, someArc] using hu)
            · unfold maxLen; omega
            · omega
            · have := HW2.out; simp; omega
            · have hw2 := HW2.out
              intro A4 c4 w4 HO4 hg4 HX4
              have L4 := L2'.grownO hg4 HO3.out (by decide)
              have L14 := (L1.alloc (.cells #[.int .i64 (a.frm % M), .int .i64 (a.to % M), .int .i64 (someCap a.cap)] 68)).drew.grownO hg4 HO3.out (by decide)
              have K4 := K3'.grownUp hg4 HO.out (Nat.le_refl _)
              have B4 := below_grown (B2.alloc B2.size (.cells #[.int .i64 (a.frm % M), .int .i64 (a.to % M), .int .i64 (someCap a.cap)] 68)).drew hg4 HO3.out (by omega) (by simp; omega)
              refine hK.out _ _ (hkeep _ L4 K4) (fun hS2 => ?_)
              clear hK K hw2
              show wpAnyH _ _ _ _ _ _ _ (Act.put _ (some 78) _) _
              simp only [Act.put, pa, pz, ps]
              refine takeD (i := 17) (v := ?vb17) (some 79) rfl rfl (by kernel_rfl) (by kernel_rfl) (by kernel_rfl) (fun _ _ _ h => h) (Or.inl ⟨by rfl, ?yb17⟩) (by assumption) ?_
              case yb17 =>
                intro W hSw
                go_split_ands
                go_simp
                try with_reducible rfl
              simp only [Act.put, pa, pz, ps]
              refine wpAnyH_done (by kernel_rfl) ?_ _
              clear hkeep hS0 hS1 hS2 r0 r1 r2 r3 e0 e1
              obtain ⟨r0, r1, r2, r3⟩ := L4.at4
              obtain ⟨f0, f1, f2, f3⟩ := L4.free4
              simp only [Exit.then, List.getLast_cons_cons, List.getLast_singleton]
              go_simp
              go_wp2_with fail
              go_roundw
              case rel =>
                refine ⟨k + 1, A4, c4, by omega, by go_num, ?_, ?_, ?_, ?_⟩
                · exact B4.setCell (by simp; omega) _
                · exact L14.far (by simp) _
                · exact L4.set4' _
                · rw [take_at HL.out, List.map_append, List.flatMap_append]
                  exact own_far HO4.out (own_ne HO4.out L4 (by decide)) _
              case measure => simp [intOf]; omega
        · obtain ⟨s0, s1, s2, s3⟩ := K1.at4
          obtain ⟨t0, t1, t2, t3⟩ := K1.free4
          obtain rfl : m = k := by omega
          have L9 := K1.set4 (.int .i64 M) (.int .i64 S') (.int .i64 T2) (.slice AJ m cJ)
          have HK9 := Lib.hid L9; clear L9
          go_wp2_with fail
          obtain ⟨q0, q1, q2, q3⟩ := HK9.out.at4
          have hne := own_ne HO.out K1 (by decide)
          refine bodyPost_ret (v := .agg #[.int .i64 M, .int .i64 S', .int .i64 T2, .slice AJ m cJ]) (by simp [results, Try.results9, go_sem, q0, q1, q2, q3]) rfl ⟨_, _, _, rfl, ?_, ?_, ?_⟩
          · have hl' : l.take m = l.take q := by
              have h1 := hA.len
              rcases Nat.le_total n q with h2 | h2
              · rw [List.take_of_length_le (by omega), List.take_of_length_le (by omega)]
              · rw [show m = q by omega]
            have h3 := own_less (base' := w.heap.size) HO.out (by omega)
            rw [hl'] at h3
            exact own_far (own_far (own_far (own_far h3 hne _) hne _) hne _) hne _
          · have h1 := hA.len
            simp [someL]
            omega
          · exact (((Bw.setCell (by simp) _).setCell (by simp) _).setCell (by simp) _).setCell (by simp) _

end Go.Proofs.Ytanifbofjecpmaa

/-! Plain facts: a net that Some makes is right. -/
namespace Go.Proofs.Ytanifbofjecpmaa
open Go.RowKit

theorem sum_small : ∀ (l : List ArcN) (s : Int), 0 ≤ s → (∀ a ∈ l, 0 ≤ a.cap ∧ a.cap < 1125899906842624) → s + l.length * 1125899906842624 ≤ 4611686018427387904 → ∃ r, sumFrom s l = some r
  | [], s, _, _, _ => ⟨s, rfl⟩
  | a :: r, s, h0, h1, h2 => by
    have ha := h1 a (by simp)
    simp only [List.length_cons, Int.natCast_add, Int.natCast_one] at h2
    obtain ⟨x, hx⟩ := sum_small r (s + a.cap) (by omega) (fun b hb => h1 b (by simp [hb])) (by omega)
    exact ⟨x, by rw [sumFrom, if_neg (by unfold maxSum; omega)]; exact hx⟩

theorem someCap_in (c : Int) : 0 ≤ someCap c ∧ someCap c < 1125899906842624 := ⟨Int.emod_nonneg _ (by omega), Int.emod_lt_of_pos _ (by omega)⟩
theorem someL_mem {M : Int} {q : Nat} {l : List ArcN} (hM : 0 < M) {a : ArcN} (ha : a ∈ someL M q l) : 0 ≤ a.frm ∧ a.frm < M ∧ 0 ≤ a.to ∧ a.to < M ∧ 0 ≤ a.cap ∧ a.cap < 1125899906842624 := by
  obtain ⟨b, _, rfl⟩ := List.mem_map.1 ha
  exact ⟨Int.emod_nonneg _ (by omega), Int.emod_lt_of_pos _ hM, Int.emod_nonneg _ (by omega), Int.emod_lt_of_pos _ hM, (someCap_in _).1, (someCap_in _).2⟩
theorem someL_len (M : Int) (q : Nat) (l : List ArcN) : (someL M q l).length ≤ q := by simp [someL]; omega

theorem some_check (N S T : Int) (v q : Nat) (l : List ArcN) (hv : 2 ≤ v) (hv' : v ≤ 1000) (hq : q ≤ 1000) :
    checkF (someN N v) (S % someN N v) (someT (someN N v) S T) (someL (someN N v) q l) = 0 := by
  have hm1 := Int.emod_nonneg N (show (v : Int) - 1 ≠ 0 by omega)
  have hm2 := Int.emod_lt_of_pos N (show (0 : Int) < (v : Int) - 1 by omega)
  have hM1 : 2 ≤ someN N v := by unfold someN; omega
  have hM2 : someN N v ≤ 1001 := by unfold someN; omega
  generalize someN N v = M at *
  have hs1 := Int.emod_nonneg S (show M ≠ 0 by omega)
  have hs2 := Int.emod_lt_of_pos S (show 0 < M by omega)
  have ht1 := Int.emod_nonneg T (show M ≠ 0 by omega)
  have ht2 := Int.emod_lt_of_pos T (show 0 < M by omega)
  have hlen := someL_len M q l
  have h1 : vertsB M = true := by simp [vertsB]; omega
  have h3 : endsB M (S % M) (someT M S T) = true := by
    unfold someT
    split
    · rename_i h
      have e1 := Int.emod_nonneg (S % M + 1) (show M ≠ 0 by omega)
      have e2 := Int.emod_lt_of_pos (S % M + 1) (show 0 < M by omega)
      have e3 : (S % M + 1) % M ≠ S % M := by
        by_cases h : S % M + 1 < M
        · rw [Int.emod_eq_of_lt (by omega) h]; omega
        · rw [show S % M + 1 = M by omega, Int.emod_self]; omega
      simp only [endsB, isVertB, Bool.and_eq_true, decide_eq_true_eq]
      exact ⟨⟨hs1, hs2⟩, ⟨e1, e2⟩, fun e => e3 e.symm⟩
    · rename_i h
      simp only [endsB, isVertB, Bool.and_eq_true, decide_eq_true_eq]
      exact ⟨⟨hs1, hs2⟩, ⟨ht1, ht2⟩, h⟩
  have h4 : betweenB M (someL M q l) = true := by
    refine List.all_eq_true.2 fun a ha => ?_
    have := someL_mem (by omega) ha
    simp [isVertB]; omega
  have h5 : capsB (someL M q l) = true := by
    refine List.all_eq_true.2 fun a ha => ?_
    have := someL_mem (by omega) ha
    simp; omega
  have h6 : sumB (someL M q l) = true := by
    obtain ⟨r, hr⟩ := sum_small (someL M q l) 0 (by omega) (fun a ha => by have := someL_mem (by omega) ha; omega) (by omega)
    unfold sumB sumOf
    rw [hr]; rfl
  simp [checkF, h1, h3, h4, h5, h6]
  omega
/-- What a net that Some made is like, its number of vertices a natural number. -/
theorem some_net (N S T : Int) (v q : Nat) (l : List ArcN) (hv : 2 ≤ v) (hv' : v ≤ 1000) (hq : q ≤ 1000) :
    ∃ N1 : Nat, someN N v = (N1 : Int) ∧ 2 ≤ N1 ∧ N1 ≤ 1001 ∧ checkF (N1 : Int) (S % someN N v) (someT (someN N v) S T) (someL (someN N v) q l) = 0 ∧ (someL (someN N v) q l).length ≤ q ∧
      ∀ a ∈ someL (someN N v) q l, 0 ≤ a.frm ∧ a.frm < N1 ∧ 0 ≤ a.to ∧ a.to < N1 ∧ 0 ≤ a.cap ∧ a.cap < 1125899906842624 := by
  have hm1 := Int.emod_nonneg N (show (v : Int) - 1 ≠ 0 by omega)
  have hm2 := Int.emod_lt_of_pos N (show (0 : Int) < (v : Int) - 1 by omega)
  have hM1 : 2 ≤ someN N v := by unfold someN; omega
  have hM2 : someN N v ≤ 1001 := by unfold someN; omega
  obtain ⟨N1, hN1⟩ := Int.eq_ofNat_of_zero_le (show 0 ≤ someN N v by omega)
  refine ⟨N1, hN1, by omega, by omega, ?_, someL_len _ _ _, fun a ha => ?_⟩
  · rw [← hN1]; exact some_check N S T v q l hv hv' hq
  · rw [← hN1]; exact someL_mem (by omega) ha

/-- A net that Some made, stored. -/
theorem some_stored {w w1 : World} {base n1 c1 : Nat} {A1 : Option Addr} {l1 : List ArcN} {u0 u1 u2 u3 : Value} (K1 : Blk w1 w.heap.size 24 #[u0, u1, u2, u3]) (o1 : w1.ownsRow base 68 3 (.slice A1 n1 c1) n1 (l1.flatMap arcCells)) (hl1 : l1.length = n1) (Bw1 : Below w.heap.size w w1) (v0 v1 v2 : Value) :
    Blk ((((w1.setCell ⟨w.heap.size, 0, none⟩ v0).setCell ⟨w.heap.size, 1, none⟩ v1).setCell ⟨w.heap.size, 2, none⟩ v2).setCell ⟨w.heap.size, 3, none⟩ (.slice A1 n1 c1)) w.heap.size 24 #[v0, v1, v2, .slice A1 n1 c1] ∧
    Arcs ((((w1.setCell ⟨w.heap.size, 0, none⟩ v0).setCell ⟨w.heap.size, 1, none⟩ v1).setCell ⟨w.heap.size, 2, none⟩ v2).setCell ⟨w.heap.size, 3, none⟩ (.slice A1 n1 c1)) ((((w1.setCell ⟨w.heap.size, 0, none⟩ v0).setCell ⟨w.heap.size, 1, none⟩ v1).setCell ⟨w.heap.size, 2, none⟩ v2).setCell ⟨w.heap.size, 3, none⟩ (.slice A1 n1 c1)).heap.size A1 n1 l1 ∧
    Below w.heap.size w ((((w1.setCell ⟨w.heap.size, 0, none⟩ v0).setCell ⟨w.heap.size, 1, none⟩ v1).setCell ⟨w.heap.size, 2, none⟩ v2).setCell ⟨w.heap.size, 3, none⟩ (.slice A1 n1 c1)) := by
  have hne := own_ne o1 K1 (by decide)
  refine ⟨K1.set4 _ _ _ _, arcs_own (own_far (own_far (own_far (own_far o1 hne _) hne _) hne _) hne _) hl1, ?_⟩
  exact (((Bw1.setCell (by simp) _).setCell (by simp) _).setCell (by simp) _).setCell (by simp) _

end Go.Proofs.Ytanifbofjecpmaa

/-! The statements' own helpers: Within. -/
namespace Go.Proofs.Ytanifbofjecpmaa
open Go.RowKit

/-- A flow within the capacities, 0 on loops, for the first k arcs; 0 beyond. -/
structure WithinTo (l : List ArcN) (k : Nat) (X : List Int) : Prop where
  len : X.length = l.length
  ent : ∀ (i : Nat) (a : ArcN) (x : Int), i < k → l[i]? = some a → X[i]? = some x → 0 ≤ x ∧ x ≤ a.cap ∧ (a.frm = a.to → x = 0)
  rest : ∀ i, k ≤ i → i < l.length → X[i]? = some 0
section
variable {l : List ArcN} {k : Nat} {X : List Int}
theorem WithinTo.zero (l : List ArcN) : WithinTo l 0 (List.replicate l.length 0) := ⟨by simp, fun i a x hi => absurd hi (by omega), fun i _ h => by simp [h]⟩
theorem WithinTo.skip (h : WithinTo l k X) {a : ArcN} (ha : l[k]? = some a) (hc : 0 ≤ a.cap) : WithinTo l (k + 1) X := by
  refine ⟨h.len, fun i b x hi hb hx => ?_, fun i h1 h2 => h.rest i (by omega) h2⟩
  by_cases e : i = k
  · subst e
    have h0 := h.rest i (Nat.le_refl _) (List.getElem?_eq_some_iff.1 ha).1
    rw [hx] at h0
    injection h0 with h0
    rw [ha] at hb
    injection hb with hb
    subst hb
    omega
  · exact h.ent i b x (by omega) hb hx
theorem WithinTo.step (h : WithinTo l k X) {a : ArcN} {z : Int} (ha : l[k]? = some a) (hne : a.frm ≠ a.to) (h0 : 0 ≤ z) (h1 : z ≤ a.cap) : WithinTo l (k + 1) (X.set k z) := by
  have hk := (List.getElem?_eq_some_iff.1 ha).1
  have hl := h.len
  refine ⟨by simp [hl], fun i b x hi hb hx => ?_, fun i h1 h2 => ?_⟩
  · by_cases e : i = k
    · subst e
      rw [ha] at hb
      injection hb with hb
      subst hb
      rw [List.getElem?_set_self (by omega)] at hx
      injection hx with hx
      subst hx
      exact ⟨h0, h1, fun e => absurd e hne⟩
    · rw [List.getElem?_set_ne (fun x => e x.symm)] at hx
      exact h.ent i b x (by omega) hb hx
  · rw [List.getElem?_set_ne (by omega)]
    exact h.rest i (by omega) h2
end

/-- Beside: what it is, where it is told. -/
structure WithinX (l : List ArcN) (L : List Int) (k : Nat) (X : List Int) : Prop where
  base : WithinTo l k X
  told : ∀ (i : Nat) (a : ArcN) (x : Int), i < k → l[i]? = some a → X[i]? = some x → (L.length ≤ i → x = 0) ∧ (∀ y, L[i]? = some y → 0 ≤ y → y ≤ a.cap → a.frm ≠ a.to → x = y)
section
variable {l : List ArcN} {L : List Int} {k : Nat} {X : List Int}
theorem WithinX.zero (l : List ArcN) (L : List Int) : WithinX l L 0 (List.replicate l.length 0) := ⟨WithinTo.zero l, fun _ _ _ h => absurd h (by omega)⟩
theorem WithinX.skip (h : WithinX l L k X) {a : ArcN} (ha : l[k]? = some a) (hc : 0 ≤ a.cap) (hw : L.length ≤ k ∨ a.frm = a.to) : WithinX l L (k + 1) X := by
  refine ⟨h.base.skip ha hc, fun i b x hi hb hx => ?_⟩
  by_cases e : i = k
  · subst e
    have h0 := h.base.rest i (Nat.le_refl _) (List.getElem?_eq_some_iff.1 ha).1
    rw [hx] at h0
    injection h0 with h0
    rw [ha] at hb
    injection hb with hb
    subst hb
    refine ⟨fun _ => h0, fun y hy _ _ hne => ?_⟩
    rcases hw with hw | hw
    · rw [List.getElem?_eq_none hw] at hy; cases hy
    · exact absurd hw hne
  · exact h.told i b x (by omega) hb hx
theorem WithinX.step (h : WithinX l L k X) {a : ArcN} {z : Int} (ha : l[k]? = some a) (hne : a.frm ≠ a.to) (h0 : 0 ≤ z) (h1 : z ≤ a.cap) (hy : ∀ y, L[k]? = some y → 0 ≤ y → y ≤ a.cap → z = y) (hlt : k < L.length) : WithinX l L (k + 1) (X.set k z) := by
  refine ⟨h.base.step ha hne h0 h1, fun i b x hi hb hx => ?_⟩
  by_cases e : i = k
  · subst e
    rw [ha] at hb
    injection hb with hb
    subst hb
    rw [List.getElem?_set_self (by have := (List.getElem?_eq_some_iff.1 ha).1; have := h.base.len; omega)] at hx
    injection hx with hx
    subst hx
    exact ⟨fun h => absurd hlt (by omega), fun y hy1 h1 h2 _ => hy y hy1 h1 h2⟩
  · rw [List.getElem?_set_ne (fun x => e x.symm)] at hx
    exact h.told i b x (by omega) hb hx
end



end Go.Proofs.Ytanifbofjecpmaa

/-! Plain facts for the laws of layer 3. -/
namespace Go.Proofs.Ytanifbofjecpmaa
open Go.RowKit

/-- A Boolean says whether. -/
def Says (r : Bool) (p : Prop) : Prop := r = true ↔ p
theorem Says.mk {r : Bool} {p : Prop} (h : r = true ↔ p) : Says r p := h
theorem Says.iff {r : Bool} {p : Prop} (h : Says r p) : r = true ↔ p := h
theorem wrap_id {n : Int} (h0 : 0 ≤ n) (h1 : n < 9223372036854775808) : IntKind.i64.wrap n = n := by
  simp [IntKind.wrap, IntKind.bits, IntKind.signed]
  omega
theorem wrap_any {n : Int} (h0 : -9223372036854775808 ≤ n) (h1 : n < 9223372036854775808) : IntKind.i64.wrap n = n := by
  simp [IntKind.wrap, IntKind.bits, IntKind.signed]
  omega
theorem total_le {c : Int} : ∀ {l : List ArcN} (_ : ∀ a ∈ l, a.cap < c), total l ≤ l.length * c
  | [], _ => by simp [total]
  | a :: r, h => by
    have h1 := h a (by simp)
    have h2 := total_le (l := r) fun b hb => h b (by simp [hb])
    simp only [total, List.length_cons, Int.natCast_add, Int.natCast_one, Int.add_mul]
    omega
/-- Numbers that Within made are within. -/
theorem WithinTo.flow {l : List ArcN} {n : Nat} {X : List Int} (h : WithinTo l n X) (hl : l.length = n) : FlowIn l X :=
  ⟨h.len, fun i a x ha hx => by
    have := h.ent i a x (by have := (List.getElem?_eq_some_iff.1 ha).1; omega) ha hx
    omega⟩
theorem someN_le (N : Int) {N1 : Nat} (h : someN N ((40 : Nat) : Int) = (N1 : Int)) : N1 ≤ 40 := by
  have := Int.emod_lt_of_pos N (show (0 : Int) < ((40 : Nat) : Int) - 1 by omega)
  unfold someN at h
  omega
theorem sumN_bound {f : Nat → Int} {c : Int} : ∀ {n : Nat} (_ : ∀ u, u < n → -c ≤ f u ∧ f u ≤ c), -((n : Int) * c) ≤ sumN f n ∧ sumN f n ≤ (n : Int) * c
  | 0, _ => by simp [sumN]
  | n + 1, h => by
    have h1 := h n (by omega)
    have h2 := sumN_bound (n := n) fun u hu => h u (by omega)
    simp only [sumN, Int.natCast_add, Int.natCast_one, Int.add_mul]
    omega
/-- Few vertices, small excesses: no sum of them is too great. -/
theorem sumN_small {f : Nat → Int} {n N : Nat} (hn : n ≤ N) (hN : N ≤ 40) (h : ∀ u, u < N → -90071992547409920 ≤ f u ∧ f u ≤ 90071992547409920) : -3602879701896396800 ≤ sumN f n ∧ sumN f n ≤ 3602879701896396800 := by
  have h1 := sumN_bound (c := 90071992547409920) fun u hu => h u (Nat.lt_of_lt_of_le hu hn)
  omega

def preD (S : Int) (l : List ArcN) (F : List Int) (k : Nat) : Bool := decide (∀ u : Nat, u < k → (u : Int) = S ∨ 0 ≤ exOf l F u)
def rightD (S T : Int) (l : List ArcN) (F : List Int) (k : Nat) : Bool := decide (∀ u : Nat, u < k → (u : Int) = S ∨ (u : Int) = T ∨ exOf l F u = 0)
section
variable {S T : Int} {l : List ArcN} {F : List Int} {k N : Nat}
theorem preD_zero : preD S l F 0 = true := by simp [preD]
theorem rightD_zero : rightD S T l F 0 = true := by simp [rightD]
theorem preD_succ : preD S l F (k + 1) = (preD S l F k && (decide (0 ≤ exOf l F k) || decide ((k : Int) = S))) := by
  rw [Bool.eq_iff_iff]
  simp only [preD, decide_eq_true_eq, Bool.and_eq_true, Bool.or_eq_true]
  constructor
  · intro h
    exact ⟨fun u hu => h u (by omega), (h k (by omega)).symm⟩
  · rintro ⟨h1, h2⟩ u hu
    by_cases e : u = k
    · subst e; exact h2.symm
    · exact h1 u (by omega)
theorem rightD_succ : rightD S T l F (k + 1) = (rightD S T l F k && (decide (exOf l F k = 0) || (decide ((k : Int) = S) || decide ((k : Int) = T)))) := by
  rw [Bool.eq_iff_iff]
  simp only [rightD, decide_eq_true_eq, Bool.and_eq_true, Bool.or_eq_true]
  constructor
  · intro h
    refine ⟨fun u hu => h u (by omega), ?_⟩
    rcases h k (by omega) with h | h | h
    · exact .inr (.inl h)
    · exact .inr (.inr h)
    · exact .inl h
  · rintro ⟨h1, h2⟩ u hu
    by_cases e : u = k
    · subst e
      rcases h2 with h | h | h
      · exact .inr (.inr h)
      · exact .inl h
      · exact .inr (.inl h)
    · exact h1 u (by omega)
theorem preD_iff : preD S l F N = true ↔ PreIn N S l F := by simp only [preD, PreIn, decide_eq_true_eq]
theorem rightD_iff : rightD S T l F N = true ↔ RightIn N S T l F := by simp only [rightD, RightIn, decide_eq_true_eq]
/-- A flow is a preflow just if it is worth something from 0 on. -/
theorem right_pre (hc : checkF N S T l = 0) (h : RightIn N S T l F) : preD S l F N = decide (0 ≤ exOf l F T) := by
  obtain ⟨_, _, _, _, hS0, hS1, hT0, hT1, hST, _, _⟩ := ends_in hc
  obtain ⟨t, rfl⟩ := Int.eq_ofNat_of_zero_le hT0
  rw [Bool.eq_iff_iff, preD_iff, decide_eq_true_eq]
  constructor
  · intro hp
    rcases hp t (by omega) with e | e
    · exact absurd e.symm hST
    · exact e
  · intro h0 u hu
    rcases h u hu with e | e | e
    · exact .inl e
    · have : u = t := by omega
      subst this
      exact .inr h0
    · exact .inr (by omega)
end

end Go.Proofs.Ytanifbofjecpmaa
