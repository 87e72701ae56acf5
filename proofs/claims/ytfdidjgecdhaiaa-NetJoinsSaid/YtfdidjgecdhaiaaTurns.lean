/- NetTurns: the walk. -/
import Derived.Test.YtfdidjgecdhaiaaTurnp
import Derived.Test.YtfdidjgecdhaiaaNeti
import Derived.Deep.RegionHeld3
namespace Go.Proofs.Ytfdidjgecdhaiaa
open Go.RowKit Go.Maps

theorem same_is {N S T N' S' T' : Int} {A B : Option Addr} {n m : Nat} (c d : Nat) {l r : List ArcN} {w : World} (hA : Arcs w w.heap.size A n l) (hB : Arcs w w.heap.size B m r) (hn : n ≤ 1000000000000) (hm : m ≤ 1000000000000) {v : Bool} (hv : sameB N S T l N' S' T' r = v) :
    Calls Try.prog 15 #[.agg #[.int .i64 N, .int .i64 S, .int .i64 T, .slice A n c], .agg #[.int .i64 N', .int .i64 S', .int .i64 T', .slice B m d]] w fun e w' => e = .returned (.bool v) ∧ Below w.heap.size w w' := by
  subst hv
  exact same_any N S T N' S' T' A B n m c d l r w hA hB hn hm

theorem turn_is {N S T : Int} {A : Option Addr} {n : Nat} (c : Nat) {l r : List ArcN} {w : World} (hA : Arcs w w.heap.size A n l) (hn : n ≤ 1000000000000) (hr : l.map turnArc = r) :
    Calls Try.prog 12 #[.agg #[.int .i64 N, .int .i64 S, .int .i64 T, .slice A n c]] w (RetNet N T S r w) := by
  subst hr
  exact turn_any N S T A n c l w hA hn

/-- What the region reads stays. -/
theorem turns_keep {w3 W : World} {g1 g2 g3 : Nat} {t : TypeId} {u0 u1 u2 u3 v0 v1 v2 v3 x0 x1 x2 x3 : Value} (h1 : Blk w3 g1 t #[u0, u1, u2, u3]) (h2 : Blk w3 g2 t #[v0, v1, v2, v3]) (h3 : Blk w3 g3 t #[x0, x1, x2, x3]) (hb : Below w3.heap.size w3 W) :
    Below w3.heap.size w3 W ∧ W.cell? ⟨g1, 0, none⟩ = some u0 ∧ W.cell? ⟨g1, 1, none⟩ = some u1 ∧ W.cell? ⟨g1, 2, none⟩ = some u2 ∧ W.cell? ⟨g1, 3, none⟩ = some u3 ∧
      W.cell? ⟨g2, 0, none⟩ = some v0 ∧ W.cell? ⟨g2, 1, none⟩ = some v1 ∧ W.cell? ⟨g2, 2, none⟩ = some v2 ∧ W.cell? ⟨g2, 3, none⟩ = some v3 ∧
      W.cell? ⟨g3, 0, none⟩ = some x0 ∧ W.cell? ⟨g3, 1, none⟩ = some x1 ∧ W.cell? ⟨g3, 2, none⟩ = some x2 ∧ W.cell? ⟨g3, 3, none⟩ = some x3 := by
  obtain ⟨a0, a1, a2, a3⟩ := (h1.below hb h1.lt).at4
  obtain ⟨b0, b1, b2, b3⟩ := (h2.below hb h2.lt).at4
  obtain ⟨c0, c1, c2, c3⟩ := (h3.below hb h3.lt).at4
  exact ⟨hb, a0, a1, a2, a3, b0, b1, b2, b3, c0, c1, c2, c3⟩

set_option maxHeartbeats 4000000 in
theorem turns_walk (N S T N' S' T' : Int) (A A' : Option Addr) (n n' c c' : Nat) (l l' : List ArcN) (w : World) (hA : Arcs w w.heap.size A n l) (hA' : Arcs w w.heap.size A' n' l') :
    Calls Try.prog 4 #[.agg #[.int .i64 N, .int .i64 S, .int .i64 T, .slice A n c], .agg #[.int .i64 N', .int .i64 S', .int .i64 T', .slice A' n' c']] w fun e w' => e = .returned (.bool true) ∧ Below w.heap.size w w' := by
  by_cases h1 : n ≤ 300
  · by_cases h2 : n' ≤ 300
    · go_enter Try.func4, Try.ntmps4
      go_wp2_with fail
      have b0 := ((hA.onAlloc (.cells #[.int .i64 N, .int .i64 S, .int .i64 T, .slice A n c] 24)).onAlloc (.cells #[.int .i64 N', .int .i64 S', .int .i64 T', .slice A' n' c'] 24))
      have b0' := ((hA'.onAlloc (.cells #[.int .i64 N, .int .i64 S, .int .i64 T, .slice A n c] 24)).onAlloc (.cells #[.int .i64 N', .int .i64 S', .int .i64 T', .slice A' n' c'] 24))
      have K1 : Blk ((w.alloc (.cells #[.int .i64 N, .int .i64 S, .int .i64 T, .slice A n c] 24)).alloc (.cells #[.int .i64 N', .int .i64 S', .int .i64 T', .slice A' n' c'] 24)) w.heap.size 24 #[.int .i64 N, .int .i64 S, .int .i64 T, .slice A n c] := (Blk.new rfl).alloc _
      have K2 : Blk ((w.alloc (.cells #[.int .i64 N, .int .i64 S, .int .i64 T, .slice A n c] 24)).alloc (.cells #[.int .i64 N', .int .i64 S', .int .i64 T', .slice A' n' c'] 24)) (w.heap.size + 1) 24 #[.int .i64 N', .int .i64 S', .int .i64 T', .slice A' n' c'] := Blk.new (by simp)
      have B0 : Below w.heap.size w ((w.alloc (.cells #[.int .i64 N, .int .i64 S, .int .i64 T, .slice A n c] 24)).alloc (.cells #[.int .i64 N', .int .i64 S', .int .i64 T', .slice A' n' c'] 24)) := (below_alloc _).alloc (by simp) _
      refine (turn_any _ _ _ _ _ _ l _ b0 (by omega)).mono ?_
      rintro e w1 ⟨A1, n1, c1, rfl, o1, l1, B1⟩
      have a1 := arcs_own o1 l1
      have L1 : n1 = n := by rw [← l1, List.length_map]; exact hA.len
      subst L1
      have c0 := b0.on B1
      have c0' := b0'.on B1
      have M1 := K1.below B1 K1.lt
      have M2 := K2.below B1 K2.lt
      have B01 := below_step B0 B1
      have z1 : w.heap.size < w1.heap.size := M1.lt
      have z2 : w.heap.size + 1 < w1.heap.size := M2.lt
      clear o1 l1 b0 b0' K1 K2 B0 B1
      obtain ⟨p0, p1, p2, p3⟩ := M1.at4
      go_wp2_with fail
      have M3 : Blk (w1.alloc (.cells #[.int .i64 N, .int .i64 T, .int .i64 S, .slice A1 n1 c1] 24)) w1.heap.size 24 #[.int .i64 N, .int .i64 T, .int .i64 S, .slice A1 n1 c1] := Blk.new rfl
      refine (sum_any _ _ _ _ _ _ l _ (c0.onAlloc _) (by omega)).mono ?_
      rintro e w2 ⟨rfl, B2⟩
      have d0 := (c0.onAlloc _).on B2
      have d0' := (c0'.onAlloc _).on B2
      have d1 := (a1.onAlloc _).on B2
      have P1 := (M1.alloc _).below B2 (M1.alloc _).lt
      have P2 := (M2.alloc _).below B2 (M2.alloc _).lt
      have P3 := M3.below B2 M3.lt
      have B02 := below_step (B01.alloc B01.size _) B2
      clear p0 p1 p2 p3 c0 c0' a1 M1 M2 M3 B01 B2
      obtain ⟨p0, p1, p2, p3⟩ := P3.at4
      go_wp2_with fail
      refine (sum_is _ d1 (by omega) (sumV_turn l) (sumB_turn l)).mono ?_
      rintro e w3 ⟨rfl, B3⟩
      have e0 := d0.on B3
      have e0' := d0'.on B3
      have e1 := d1.on B3
      have Q1 := P1.below B3 P1.lt
      have Q2 := P2.below B3 P2.lt
      have Q3 := P3.below B3 P3.lt
      have B03 := below_step B02 B3
      clear p0 p1 p2 p3 d0 d0' d1 P1 P2 P3 B02 B3
      obtain ⟨p0, p1, p2, p3⟩ := Q1.at4
      obtain ⟨q0, q1, q2, q3⟩ := Q2.at4
      obtain ⟨r0, r1, r2, r3⟩ := Q3.at4
      have HR := Lib.hid (fun (W : World) (hb : Below w3.heap.size w3 W) => e0.on hb)
      have HR' := Lib.hid (fun (W : World) (hb : Below w3.heap.size w3 W) => e0'.on hb)
      have HT := Lib.hid (fun (W : World) (hb : Below w3.heap.size w3 W) => e1.on hb)
      clear e0 e0' e1
      go_wp2_with fail
      go_region_held3 (fun W => Below w3.heap.size w3 W ∧ W.cell? ⟨w.heap.size, 0, none⟩ = some (.int .i64 N) ∧ W.cell? ⟨w.heap.size, 1, none⟩ = some (.int .i64 S) ∧ W.cell? ⟨w.heap.size, 2, none⟩ = some (.int .i64 T) ∧ W.cell? ⟨w.heap.size, 3, none⟩ = some (.slice A n1 c) ∧
          W.cell? ⟨w.heap.size + 1, 0, none⟩ = some (.int .i64 N') ∧ W.cell? ⟨w.heap.size + 1, 1, none⟩ = some (.int .i64 S') ∧ W.cell? ⟨w.heap.size + 1, 2, none⟩ = some (.int .i64 T') ∧ W.cell? ⟨w.heap.size + 1, 3, none⟩ = some (.slice A' n' c') ∧
          W.cell? ⟨w1.heap.size, 0, none⟩ = some (.int .i64 N) ∧ W.cell? ⟨w1.heap.size, 1, none⟩ = some (.int .i64 T) ∧ W.cell? ⟨w1.heap.size, 2, none⟩ = some (.int .i64 S) ∧ W.cell? ⟨w1.heap.size, 3, none⟩ = some (.slice A1 n1 c1))
        (first
          | exact turns_keep Q1 Q2 Q3 (Below.refl _ _).drew
          | (go_split_ands
             exact turns_keep Q1 Q2 Q3 (by refine below_step ?_ (by assumption); assumption)))
        (first
          | (go_at_call 12; ((with_reducible refine (turn_is (A := A1) _ (HT.out _ (by go_split_ands; assumption)) (by omega) (turn_turn l)).mono ?_); rintro e W4 ⟨A4, n4, c4, rfl, o4, l4, B4⟩; have a4 := arcs_own o4 l4; have L4 : n4 ≤ 300 := (by have := HR.out _ (Below.refl _ _); rw [← l4, this.len]; exact h1)))
          | (go_at_call 12; ((with_reducible refine (turn_is (A := A') _ (HR'.out _ (by go_split_ands; assumption)) (by omega) rfl).mono ?_); rintro e W6 ⟨A6, n6, c6, rfl, o6, l6, B6⟩; have a6 := arcs_own o6 l6; have L6 : n6 ≤ 300 := (by have := HR'.out _ (Below.refl _ _); rw [← l6, List.length_map, this.len]; exact h2)))
          | (go_at_call 14; ((with_reducible refine (sameNet_is _ _ a4 (HR.out _ (by go_split_ands; assumption)) (by omega) (by omega) (same_refl _ _ _ _)).mono ?_); rintro e W5 ⟨rfl, B5⟩))
          | (go_at_call 10; ((with_reducible refine (check_is (A := A1) _ (HT.out _ (by go_split_ands; assumption)) (by omega) (check_turn N S T l)).mono ?_); rintro e W7 ⟨rfl, B7⟩))
          | (go_at_call 10; ((with_reducible refine (check_is (A := A) _ (HR.out _ (by go_split_ands; assumption)) (by omega) rfl).mono ?_); rintro e W8 ⟨rfl, B8⟩))
          | (go_at_call 8; ((with_reducible refine (awake_any _).mono ?_); rintro e W9 ⟨rfl, B9⟩))
          | (go_at_call 15; ((with_reducible refine (same_is (A := A) (B := A') _ _ (HR.out _ (by go_split_ands; assumption)) (HR'.out _ (by go_split_ands; assumption)) (by omega) (by omega) rfl).mono ?_); rintro e W10 ⟨rfl, B10⟩))
          | (go_at_call 15; ((with_reducible refine (same_is (A := A) (B := A) _ _ (HR.out _ (by go_split_ands; assumption)) (HR.out _ (by go_split_ands; assumption)) (by omega) (by omega) (same_refl _ _ _ _)).mono ?_); rintro e W11 ⟨rfl, B11⟩))
          | (go_at_call 15; ((with_reducible refine (same_is (A := A1) (B := A6) _ _ (HT.out _ (by go_split_ands; assumption)) (by first | exact a6 | exact a6.on (by assumption)) (by omega) (by omega) (same_turn N S T l N' S' T' l')).mono ?_); rintro e W12 ⟨rfl, B12⟩)))
      all_goals
        go_split_ands
        go_wp2_with fail
        go_ret
        exact ⟨rfl, below_step B03 (by assumption)⟩
    · have h2' : ¬ (n' : Int) ≤ 300 := by omega
      go_enter Try.func4, Try.ntmps4
      go_wp2_with fail
      refine (awake_any _).mono ?_
      rintro e w1 ⟨rfl, B1⟩
      go_wp2_with fail
      go_ret
      exact ⟨rfl, below_step ((below_alloc _).alloc (by simp) _) B1⟩
  · have h1' : ¬ (n : Int) ≤ 300 := by omega
    go_enter Try.func4, Try.ntmps4
    go_wp2_with fail
    refine (awake_any _).mono ?_
    rintro e w1 ⟨rfl, B1⟩
    go_wp2_with fail
    go_ret
    exact ⟨rfl, below_step ((below_alloc _).alloc (by simp) _) B1⟩

end Go.Proofs.Ytfdidjgecdhaiaa
