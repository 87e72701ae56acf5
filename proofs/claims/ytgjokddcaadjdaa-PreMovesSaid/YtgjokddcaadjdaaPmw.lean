/- PreMoves: the walk. -/
import Derived.Test.YtgjokddcaadjdaaPlay
import Derived.Test.YtgjokddcaadjdaaPmov
import Derived.Test.YtgjokddcaadjdaaPawa
import Derived.Test.YtgjokddcaadjdaaSomes
namespace Go.Proofs.Ytgjokddcaadjdaa
open Go.RowKit
set_option maxRecDepth 100000

/-- A right net's rows, whatever memory they lie in. -/
theorem net_rowm {N s t : Nat} {l : List ArcN} (hck : checkF N s t l = 0) : ∃ (M : Nat) (fst hd rv ai : Nat → Nat) (cp : Nat → Int) (bk : Nat → Bool), firstOf l N = M ∧ PNet N M s t fst hd rv ai cp bk ∧
    ∀ (W : World) (n0 gF gH gR gC gA gB : Nat), CsrAt W n0 N l gF gH gR gC gA gB → PIn W n0 N M (csrK N M gF gH gR gC gA gB) fst hd rv ai cp bk := by
  obtain ⟨F, H, R, C, Ai, B, hL⟩ := csrL_ex N l
  have hE := (ends_in hck).2.2.2.1
  exact ⟨_, _, _, _, _, _, _, rfl, (hL.pnet hck).1, fun W n0 gF gH gR gC gA gB h => hL.pin hck (h.rows hE hL)⟩

set_option maxHeartbeats 8000000 in
theorem pmoves_walk (N S T : Int) (A : Option Addr) (n c : Nat) (l : List ArcN) (AU : Option Addr) (nu cu : Nat) (U : List Int) (w : World) (hA : Arcs w w.heap.size A n l) (hf : FitsAll l) (hnc : n ≤ c) (hU : Bytes w w.heap.size AU nu U) (hUR : ∀ x ∈ U, 0 ≤ x ∧ x ≤ 255) (hcu : nu ≤ cu) :
    Calls Try.prog 5 #[.agg #[.int .i64 N, .int .i64 S, .int .i64 T, .slice A n c], .slice AU nu cu] w fun e w' => e = .returned (.bool true) ∧ Below w.heap.size w w' := by
  have hso := fun W hW => some_any N S T A n c 20 50 l W hW hf hnc (by omega) (by omega) (by omega)
  obtain ⟨N1, hN1, hN2, hN3, hck, hln, hmem⟩ := some_net N S T 20 50 l (by omega) (by omega) (by omega)
  rw [hN1] at hso hck hln hmem
  generalize S % (N1 : Int) = S1 at *
  generalize someT (N1 : Int) S T = T1 at *
  generalize someL (N1 : Int) 50 l = l1 at *
  obtain ⟨-, -, -, -, hs0, hs1, ht0, ht1, hst, -, -⟩ := ends_in hck
  obtain ⟨s, rfl⟩ := Int.eq_ofNat_of_zero_le hs0
  obtain ⟨t, rfl⟩ := Int.eq_ofNat_of_zero_le ht0
  obtain ⟨M, fst, hd, rv, ai, cp, bk, hMe, hG, hrows⟩ := net_rowm hck
  have HSO := Lib.hid hso; have HCK := Lib.hid hck; have HG := Lib.hid hG; have HR := Lib.hid hrows; have HME := Lib.hid hMe; have HU := Lib.hid hU; have HUR := Lib.hid hUR
  clear hso hck hN1 hmem hs0 hs1 ht0 ht1 hst hG hrows hMe hU hUR
  go_enter Try.func5, Try.ntmps5
  go_wp2_with fail
  refine (HSO.out _ (hA.onAlloc _)).mono ?_
  rintro e w1 ⟨A1, n1, c1, rfl, o1, hl1, B1⟩
  have K1 : Blk w1 w.heap.size 24 #[.int .i64 N, .int .i64 S, .int .i64 T, .slice A n c] := (Blk.new rfl).below B1 (by simp)
  have hz1 := K1.lt
  obtain ⟨r0, r1, r2, r3⟩ := K1.at4
  obtain ⟨f0, f1, f2, f3⟩ := K1.free4
  have ST := some_stored K1 o1 hl1 (below_step (below_alloc _) B1) (.int .i64 (N1 : Int)) (.int .i64 (s : Int)) (.int .i64 (t : Int))
  go_wp2_with fail
  generalize (((w1.setCell ⟨w.heap.size, 0, none⟩ (.int .i64 (N1 : Int))).setCell ⟨w.heap.size, 1, none⟩ (.int .i64 (s : Int))).setCell ⟨w.heap.size, 2, none⟩ (.int .i64 (t : Int))).setCell ⟨w.heap.size, 3, none⟩ (.slice A1 n1 c1) = w0 at *
  obtain ⟨K0, a0, Bw0⟩ := ST
  clear r0 r1 r2 r3 f0 f1 f2 f3 K1 o1 B1 hz1 HSO
  obtain ⟨w2, hw2⟩ : ∃ w2, w0.drew = w2 := ⟨_, rfl⟩
  have h02 : Below w0.heap.size w0 w2 := by rw [← hw2]; exact (Below.refl _ w0).drew
  have K2 := K0.below h02 K0.lt
  have a2 := a0.on h02
  have Bw2 := below_step Bw0 h02
  have hkeep : ∀ W', Below w2.heap.size w2 W' → Below w2.heap.size w2 W' ∧ W'.cell? ⟨w.heap.size, 0, none⟩ = some (.int .i64 (N1 : Int)) ∧ W'.cell? ⟨w.heap.size, 1, none⟩ = some (.int .i64 (s : Int)) ∧ W'.cell? ⟨w.heap.size, 2, none⟩ = some (.int .i64 (t : Int)) ∧ W'.cell? ⟨w.heap.size, 3, none⟩ = some (.slice A1 n1 c1) := fun W' hb => ⟨hb, (K2.below hb K2.lt).at4⟩
  obtain ⟨q, hq⟩ : ∃ q, min nu 60 = q := ⟨_, rfl⟩
  have U2 : Bytes w2 w2.heap.size AU q (U.take q) := (((HU.out.below Bw2).more Bw2.size).short (m := q) (by omega))
  have hplay := play_is N1 M s t l1 A1 n1 c1 AU q cu (U.take q) fst hd rv ai cp bk 30 #[] (fun _ => False) w2.heap.size (fun _ _ _ _ => True) (fun _ => True) w2 a2 HCK.out HME.out HG.out HR.out U2 (by omega) (fun x hx => HUR.out x (List.mem_of_mem_take hx)) (fun _ h => h.elim) (fun _ _ _ h => h) (Nat.le_refl _) (fun _ _ _ _ _ _ _ => trivial) (fun _ _ => trivial)
    (fun K Q W hkz _ hI hQ => (pm1_is N1 M s t K Q Q fst hd rv ai cp bk _ _ _ W HG.out hI hQ (beg_ok HG.out (k := fst (s + 1) - fst s) (by have := HG.out.g.mono s HG.out.hs; omega))).mono fun e W' h => ⟨h.1, trivial, Kpz.all h.2 hkz.kps.size⟩)
    (fun K S S' Q Q' W hkz _ hI _ hQ' _ hok _ => (pm1_is N1 M s t K Q Q' fst hd rv ai cp bk _ _ _ W HG.out hI hQ' hok).mono fun e W' h => ⟨h.1, trivial, Kpz.all h.2 hkz.kps.size⟩)
    (enters_of Try.func30 (by kernel_rfl) rfl)
  have HPLAY := Lib.hid hplay; have HKEEP := Lib.hid hkeep; have HB2 := Lib.hid Bw2
  have h0q : (0 : Int) ≤ (q : Int) := by omega
  have hqc : (q : Int) ≤ (cu : Int) := by omega
  have hsl := bytes_slice AU nu cu q (by omega)
  have hm1 : min (nu : Int) 60 = (q : Int) := by omega
  have hm2 : (if (60 : Int) < (nu : Int) then (60 : Int) else (nu : Int)) = (q : Int) := by rw [← hm1]; split <;> omega
  have hm3 : (if 60 < nu then (60 : Int) else (nu : Int)) = (q : Int) := by rw [← hm1]; split <;> omega
  have hm4 : (if (nu : Int) < 60 then (nu : Int) else (60 : Int)) = (q : Int) := by rw [← hm1]; split <;> omega
  have hm5 : (if nu < 60 then (nu : Int) else (60 : Int)) = (q : Int) := by rw [← hm1]; split <;> omega
  clear hplay hkeep Bw2 h02 K0 a0 Bw0 U2 a2 hq K2
  refine wp_region_held_drew (S := fun W' => Below w2.heap.size w2 W' ∧ W'.cell? ⟨w.heap.size, 0, none⟩ = some (.int .i64 (N1 : Int)) ∧ W'.cell? ⟨w.heap.size, 1, none⟩ = some (.int .i64 (s : Int)) ∧ W'.cell? ⟨w.heap.size, 2, none⟩ = some (.int .i64 (t : Int)) ∧ W'.cell? ⟨w.heap.size, 3, none⟩ = some (.slice A1 n1 c1)) (by kernel_rfl) (by rw [hw2]; exact HKEEP.out _ (Below.refl _ _)) (fun hS0 => ?_)
  rw [hw2] at hS0 ⊢
  clear hw2
  refine takeD (i := 0) (v := ?_) (some 7) rfl rfl (by kernel_rfl) (by kernel_rfl) (by kernel_rfl) (fun _ _ _ h => h) (Or.inl ⟨by rfl, ?_⟩) (by assumption) ?_
  rotate_left
  · (intro W hSw; obtain ⟨-, r0, r1, r2, r3⟩ := hSw; go_simp; try with_reducible rfl)
  simp only [Act.put, List.setIfInBounds_toArray, List.set_cons_zero, List.set_cons_succ]
  refine takeD (i := 1) (v := ?_) (some 8) rfl rfl (by kernel_rfl) (by kernel_rfl) (by kernel_rfl) (fun _ _ _ h => h) (Or.inl ⟨by rfl, ?_⟩) (by assumption) ?_
  rotate_left
  · (intro W hSw; obtain ⟨-, r0, r1, r2, r3⟩ := hSw; go_simp; try with_reducible rfl)
  simp only [Act.put, List.setIfInBounds_toArray, List.set_cons_zero, List.set_cons_succ]
  refine takeD (i := 2) (v := ?_) (some 9) rfl rfl (by kernel_rfl) (by kernel_rfl) (by kernel_rfl) (fun _ _ _ h => h) (Or.inl ⟨by rfl, ?_⟩) (by assumption) ?_
  rotate_left
  · (intro W hSw; obtain ⟨-, r0, r1, r2, r3⟩ := hSw; go_simp; try with_reducible rfl)
  simp only [Act.put, List.setIfInBounds_toArray, List.set_cons_zero, List.set_cons_succ]
  refine takeD (i := 3) (v := ?_) (some 10) rfl rfl (by kernel_rfl) (by kernel_rfl) (by kernel_rfl) (fun _ _ _ h => h) (Or.inl ⟨by rfl, ?_⟩) (by assumption) ?_
  rotate_left
  · (intro W hSw; obtain ⟨-, r0, r1, r2, r3⟩ := hSw; go_simp; try with_reducible rfl)
  simp only [Act.put, List.setIfInBounds_toArray, List.set_cons_zero, List.set_cons_succ]
  refine takeD (i := 4) (v := ?_) (some 11) rfl rfl (by kernel_rfl) (by kernel_rfl) (by kernel_rfl) (fun _ _ _ h => h) (Or.inl ⟨by rfl, ?_⟩) (by assumption) ?_
  rotate_left
  · (intro W hSw; obtain ⟨-, r0, r1, r2, r3⟩ := hSw; go_simp; try with_reducible rfl)
  simp only [Act.put, List.setIfInBounds_toArray, List.set_cons_zero, List.set_cons_succ]
  refine takeD (i := 5) (v := ?_) (some 12) rfl rfl (by kernel_rfl) (by kernel_rfl) (by kernel_rfl) (fun _ _ _ h => h) (Or.inl ⟨by rfl, ?_⟩) (by assumption) ?_
  rotate_left
  · (intro W hSw; obtain ⟨-, r0, r1, r2, r3⟩ := hSw; go_simp; try with_reducible rfl)
  simp only [Act.put, List.setIfInBounds_toArray, List.set_cons_zero, List.set_cons_succ]
  refine wpAnyH_ready (rs := [6]) (by kernel_rfl) (by simp) ?_
  refine AllReadyH.cons rfl (fun K hK => ?_) (AllReadyH.nil)
  go_simp
  refine HPLAY.out.mono ?_
  rintro e W3 ⟨rfl, K, S, Q, -, -, -, -, -, -, hkz⟩
  have hb3 : Below w2.heap.size w2 W3 := hkz.bel
  refine hK.out _ _ (HKEEP.out _ hb3) (fun hSa => ?_)
  clear hK K
  try simp only [Act.put, List.setIfInBounds_toArray, List.set_cons_zero, List.set_cons_succ]
  refine takeD (i := 7) (v := ?_) (some 14) rfl rfl (by kernel_rfl) (by kernel_rfl) (by kernel_rfl) (fun _ _ _ h => h) (Or.inl ⟨by rfl, ?_⟩) (by assumption) ?_
  rotate_left
  · (intro W hSw; obtain ⟨-, r0, r1, r2, r3⟩ := hSw; go_simp; try with_reducible rfl)
  simp only [Act.put, List.setIfInBounds_toArray, List.set_cons_zero, List.set_cons_succ]
  refine wpAnyH_ready (rs := [8]) (by kernel_rfl) (by simp) ?_
  refine AllReadyH.cons rfl (fun K hK => ?_) (AllReadyH.nil)
  go_simp
  refine (awake7_is _).mono ?_
  rintro e W4 ⟨rfl, B4⟩
  have hb4 := below_step hb3 B4
  refine hK.out _ _ (HKEEP.out _ hb4) (fun hSb => ?_)
  clear hK K
  try simp only [Act.put, List.setIfInBounds_toArray, List.set_cons_zero, List.set_cons_succ]
  refine takeD (i := 9) (v := ?_) (some 16) rfl rfl (by kernel_rfl) (by kernel_rfl) (by kernel_rfl) (fun _ _ _ h => h) (Or.inl ⟨by rfl, ?_⟩) (by assumption) ?_
  rotate_left
  · (intro W hSw; obtain ⟨-, r0, r1, r2, r3⟩ := hSw; go_simp; try with_reducible rfl)
  simp only [Act.put, List.setIfInBounds_toArray, List.set_cons_zero, List.set_cons_succ]
  refine takeD (i := 10) (v := ?_) (some 4) rfl rfl (by kernel_rfl) (by kernel_rfl) (by kernel_rfl) (fun _ _ _ h => h) (Or.inl ⟨by rfl, ?_⟩) (by assumption) ?_
  rotate_left
  · (intro W hSw; obtain ⟨-, r0, r1, r2, r3⟩ := hSw; go_simp; try with_reducible rfl)
  simp only [Act.put, List.setIfInBounds_toArray, List.set_cons_zero, List.set_cons_succ]
  refine wpAnyH_done (by kernel_rfl) ?_ _
  go_wp2_with fail
  go_ret
  exact ⟨rfl, below_step HB2.out hb4⟩

end Go.Proofs.Ytgjokddcaadjdaa
