/- Layer 3: Room. -/
import Derived.Test.YtmmafibeciaghaaWayd
namespace Go.Proofs.Ytmmafibeciaghaa
open Go.RowKit Go.Maps

theorem room_keep {W0 W : World} {g n c : Nat} {N S T : Int} {A : Option Addr} (K : Blk W0 g 24 #[.int .i64 N, .int .i64 S, .int .i64 T, .slice A n c]) (hB : Below W0.heap.size W0 W) :
    Below W0.heap.size W0 W ∧ W.cell? ⟨g, 0, none⟩ = some (.int .i64 N) ∧ W.cell? ⟨g, 1, none⟩ = some (.int .i64 S) ∧ W.cell? ⟨g, 2, none⟩ = some (.int .i64 T) ∧ W.cell? ⟨g, 3, none⟩ = some (.slice A n c) :=
  ⟨hB, (K.below hB K.lt).at4⟩

set_option maxHeartbeats 2000000 in
theorem room_good (N : Nat) (S T : Int) (A : Option Addr) (n c : Nat) (l : List ArcN) (AF : Option Addr) (m cF : Nat) (F : List Int) (AH : Option Addr) (p cH : Nat) (H : List HopN) (w : World) (hA : Arcs w w.heap.size A n l) (hck : checkF N S T l = 0)
    (hF : Ints w w.heap.size AF m F) (hfl : FlowIn l F) (hH : Hops w w.heap.size AH p H) (hp : p ≤ 1000000000) (hw : IsWay l H) :
    Calls Try.prog 17 #[.agg #[.int .i64 N, .int .i64 S, .int .i64 T, .slice A n c], .slice AF m cF, .slice AH p cH] w fun e w' => ∃ r, e = .returned (.tuple #[.int .i64 r, .int .i64 0]) ∧ IsRoom l F H r ∧ Below w.heap.size w w' := by
  have hend := ends_in hck
  obtain ⟨-, -, hn3, -, -, -, -, -, -, hnn, htot⟩ := hend
  have hcap : ∀ a ∈ l, a.cap ≤ 4611686018427387904 := fun a ha => by
    obtain ⟨i, hi⟩ := List.getElem?_of_mem ha
    have := total_at hnn hi
    unfold maxSum at htot
    omega
  have hln := hA.len
  have hlm := hF.len
  have hlf := hfl.len
  have hlp := hH.len
  have hHR : ∀ h ∈ H, InR h.arc := fun h hh => by have := hw.arcs h hh; unfold InR; omega
  have hHN : ∀ h ∈ H, 0 ≤ h.arc ∧ h.arc < n := fun h hh => by have := hw.arcs h hh; omega
  have HCAP := Lib.hid hcap; have HHR := Lib.hid hHR; have HHN := Lib.hid hHN; have HFL := Lib.hid hfl; have HC := Lib.hid hck
  clear hcap hHR hHN hnn htot hck hfl
  go_enter Try.func17, Try.ntmps17
  go_wp2_with fail
  refine (flowIn_any N S T A n c l AF m cF F true _ (hA.onAlloc _) (by omega) HC.out (hF.onAlloc _) (by omega) (by simp; exact HFL.out)).mono ?_
  rintro e w1 ⟨rfl, B1⟩
  have K1 : Blk w1 w.heap.size 24 #[.int .i64 N, .int .i64 S, .int .i64 T, .slice A n c] := (Blk.new rfl).below B1 (by simp)
  have a1 := (hA.onAlloc (.cells #[.int .i64 N, .int .i64 S, .int .i64 T, .slice A n c] 24)).on B1
  have F1 := (hF.onAlloc (.cells #[.int .i64 N, .int .i64 S, .int .i64 T, .slice A n c] 24)).on B1
  have H1 := (hH.onAlloc (.cells #[.int .i64 N, .int .i64 S, .int .i64 T, .slice A n c] 24)).on B1
  have Bw1 := below_step (below_alloc _) B1
  clear B1
  obtain ⟨x0, x1, x2, x3⟩ := K1.at4
  have hz1 := K1.lt
  go_wp2_with fail
  refine (isPath_any N S T A n c l AH p cH H true _ a1 H1 (by omega) (by simp; exact hw)).mono ?_
  rintro e w2 ⟨rfl, B2⟩
  have K2 := K1.below B2 K1.lt
  have a2 := a1.on B2
  have F2 := F1.on B2
  have H2 := H1.on B2
  have Bw2 := below_step Bw1 B2
  clear B2 x0 x1 x2 x3 K1 a1 F1 H1 Bw1
  go_wp2_with fail
  have HK := Lib.hid K2; have HA2 := Lib.hid (fun (W : World) (hb : Below w2.heap.size w2 W) => a2.on hb); have HF2 := Lib.hid (fun (W : World) (hb : Below w2.heap.size w2 W) => F2.on hb); have HH2 := Lib.hid (fun (W : World) (hb : Below w2.heap.size w2 W) => H2.on hb)
  go_region_held3 (fun W => Below w2.heap.size w2 W ∧ W.cell? ⟨w.heap.size, 0, none⟩ = some (.int .i64 (N : Int)) ∧ W.cell? ⟨w.heap.size, 1, none⟩ = some (.int .i64 S) ∧ W.cell? ⟨w.heap.size, 2, none⟩ = some (.int .i64 T) ∧ W.cell? ⟨w.heap.size, 3, none⟩ = some (.slice A n c))
    (first
      | exact room_keep HK.out (Below.refl _ _).drew
      | (go_split_ands
         exact room_keep HK.out (by refine below_step ?_ (by assumption); assumption)))
    (first
      | (go_at_call 30; go_split_ands; ((with_reducible refine (surplus_any _ _ _ H _ (HH2.out _ (by assumption)) (by omega) HHR.out).mono ?_); rintro e W4 ⟨rfl, M4', B4⟩; have M4 : MapsTo intV Try.prog 3 2 W4 w2.heap.size p (mapWay H) := M4'))
      | (go_at_call 29; go_split_ands; ((with_reducible refine (least_any N S T A n c l AF m cF F _ p H _ (HA2.out _ (by assumption)) (HF2.out _ (by assumption)) HFL.out HCAP.out M4 HHN.out (by omega) (by omega)).mono ?_); rintro e W5 ⟨r, rfl, hr, B5⟩)))
  go_split_ands
  go_wp2_with fail
  go_ret2
  exact ⟨r, rfl, hr, below_step Bw2 (by assumption)⟩

end Go.Proofs.Ytmmafibeciaghaa
