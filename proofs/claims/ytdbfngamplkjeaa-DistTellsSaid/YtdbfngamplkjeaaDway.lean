/- Layer 5: nearer, Way. -/
import Derived.Test.YtdbfngamplkjeaaTofrom
import Derived.Test.YtdbfngamplkjeaaHx
namespace Go.Proofs.Ytdbfngamplkjeaa
open Go.RowKit
set_option maxRecDepth 100000

/-- The first open residual arc of v that leads nearer. -/
structure Near (fst hd : Nat → Nat) (X : List Int) (d : Nat → Nat) (v a : Nat) : Prop where
  lo : fst v ≤ a
  hi : a < fst (v + 1)
  op : opn X a = true
  dd : d (hd a) + 1 = d v
  least : ∀ a', fst v ≤ a' → a' < a → opn X a' = true → d (hd a') + 1 ≠ d v
/-- Such residual arcs one behind the other. -/
def WayOf (fst hd : Nat → Nat) (X : List Int) (d : Nat → Nat) : Nat → List Nat → Nat → Prop
  | v, [], u => v = u
  | v, a :: r, u => Near fst hd X d v a ∧ WayOf fst hd X d (hd a) r u
section
variable {fst hd rv : Nat → Nat} {X : List Int} {d : Nat → Nat} {v u a b N M t : Nat} {W W' : List Nat}
theorem Near.same (h : Near fst hd X d v a) (h' : Near fst hd X d v b) : a = b := by
  rcases Nat.lt_trichotomy a b with hl | hl | hl
  · exact absurd h.dd (h'.least a h.lo hl h.op)
  · exact hl
  · exact absurd h'.dd (h.least b h'.lo hl h'.op)
theorem WayOf.snoc : ∀ {W : List Nat} {v : Nat} (_ : WayOf fst hd X d v W u) (_ : Near fst hd X d u a), WayOf fst hd X d v (W ++ [a]) (hd a)
  | [], v, h, hn => by
    have e : v = u := h
    subst e
    exact ⟨hn, rfl⟩
  | _ :: _, _, h, hn => ⟨h.1, WayOf.snoc h.2 hn⟩
theorem WayOf.len : ∀ {W : List Nat} {v : Nat} (_ : WayOf fst hd X d v W u), d v = d u + W.length
  | [], v, h => by
    have e : v = u := h
    subst e; simp
  | b :: r, v, h => by
    have h1 := WayOf.len h.2
    have h2 := h.1.dd
    simp only [List.length_cons]
    omega
theorem WayOf.same : ∀ {W W' : List Nat} {v u u' : Nat} (_ : WayOf fst hd X d v W u) (_ : WayOf fst hd X d v W' u') (_ : W.length = W'.length), W = W'
  | [], [], _, _, _, _, _, _ => rfl
  | a :: r, b :: r', _, _, _, h, h', hl => by
    have e := h.1.same h'.1
    subst e
    rw [WayOf.same h.2 h'.2 (by simpa using hl)]
/-- From where there is a way one leads nearer. -/
theorem near_ex (hG : Grid N M fst hd rv) (hD : IsDist (Lk M hd rv fun a => opn X (rv a)) N t d) (hv : v < N) (h1 : d v < N) (h2 : v ≠ t) : ∃ a, fst v ≤ a ∧ a < fst (v + 1) ∧ opn X a = true ∧ d (hd a) + 1 = d v := by
  obtain ⟨u, hu, hR, he⟩ := hD.near v hv h1 h2
  have hk : Lk M hd rv (opn X) v u := (lk_flip hG (q := fun a => opn X (rv a)) (fun _ _ => rfl)).1 hR
  obtain ⟨_, _, a, g1, g2, g3, g4⟩ := lk_row hG hk
  exact ⟨a, g1, g2, g4, by rw [g3]; omega⟩
end

set_option maxHeartbeats 4000000 in
theorem nearer_good (N M : Nat) (S T : Int) (K : CsrS) (fst hd rv : Nat → Nat) (AX : Option Addr) (cX : Nat) (X : List Int) (AD : Option Addr) (cD : Nat) (d : Nat → Nat) (v : Nat) (w : World) (hG : Grid N M fst hd rv) (hI : GridIn w w.heap.size N M K fst hd rv) (hX : Ints w w.heap.size AX M X)
    (hD : Ints w w.heap.size AD N (tab N fun v => (d v : Int))) (hM : M ≤ 100000000) (hN : N ≤ 4096) (hv : v < N) (hd1 : d v ≤ N) (hex : ∃ a, fst v ≤ a ∧ a < fst (v + 1) ∧ opn X a = true ∧ d (hd a) + 1 = d v) :
    Calls Try.prog 28 #[csrW N M S T K, .slice AX M cX, .slice AD N cD, .int .i64 (v : Int)] w fun e w' => (∃ a : Nat, e = .returned (.tuple #[.int .i64 (a : Int), .bool true]) ∧ Near fst hd X d v a) ∧ Below w.heap.size w w' := by
  obtain ⟨q, hq⟩ : ∃ q, d v = q + 1 := by
    obtain ⟨a, _, _, _, h⟩ := hex
    exact ⟨d (hd a), h.symm⟩
  obtain ⟨AF, cF, AH, cH, AR, cR, AC, cC, AA, cA, AB, cB⟩ := K
  dsimp only [csrW]
  obtain ⟨bF, oF, hF⟩ := hI.iF.adr (by omega)
  obtain ⟨bD, oD, rfl⟩ := hD.adr (by omega)
  dsimp only at hF
  subst hF
  obtain ⟨hbF, c0⟩ := tab_cell hI.iF (k := v) (by omega)
  obtain ⟨-, c1⟩ := tab_cell hI.iF (k := v + 1) (by omega)
  obtain ⟨hbD, cv⟩ := tab_cell hD hv
  rw [hq] at cv
  have hf1 := hG.mono v hv
  have hf2 := hG.fle (v := v + 1) (by omega)
  have HG := Lib.hid hG; have HI := Lib.hid hI; have HX := Lib.hid hX; have HD := Lib.hid hD; have HEX := Lib.hid hex; have HQ := Lib.hid hq
  clear hG hI hX hD hex
  rw [hq] at hd1
  clear hq
  obtain ⟨fa, hfa⟩ : ∃ fa, fst v = fa := ⟨_, rfl⟩
  obtain ⟨z, hz⟩ : ∃ z, fst (v + 1) = z := ⟨_, rfl⟩
  rw [hfa] at c0 hf1
  rw [hz] at hf1 hf2 c1
  have HFA := Lib.hid hfa; have HZ := Lib.hid hz
  clear hfa hz
  have HC1 := Lib.hid c1; have HCV := Lib.hid cv
  clear c1 cv
  go_enter Try.func28, Try.ntmps28
  go_wp2_with fail
  have K0 : Blk (w.alloc (.cells #[.int .i64 N, .int .i64 S, .int .i64 T, .slice (some ⟨bF, oF, none⟩) (N + 1) cF, .slice AH M cH, .slice AR M cR, .slice AC M cC, .slice AA M cA, .slice AB M cB] 29)) w.heap.size 29 #[.int .i64 N, .int .i64 S, .int .i64 T, .slice (some ⟨bF, oF, none⟩) (N + 1) cF, .slice AH M cH, .slice AR M cR, .slice AC M cC, .slice AA M cA, .slice AB M cB] := Blk.new rfl
  clear c0
  go_loopw [10] (fun i wr => ∃ a : Nat, fa ≤ a ∧ a ≤ z ∧ i = .int .i64 a ∧ (∀ a', fa ≤ a' → a' < a → opn X a' = true → d (hd a') + 1 ≠ d v) ∧ Below w.heap.size w wr ∧ Blk wr w.heap.size 29 #[.int .i64 N, .int .i64 S, .int .i64 T, .slice (some ⟨bF, oF, none⟩) (N + 1) cF, .slice AH M cH, .slice AR M cR, .slice AC M cC, .slice AA M cA, .slice AB M cB]) (fun i _ => z - (intOf i).toNat)
  case atStart => exact ⟨fa, Nat.le_refl _, hf1, rfl, fun a' h1 h2 => absurd h2 (by omega), below_alloc _, K0⟩
  case round =>
    clear K0
    obtain ⟨a, ha0, ha1, rfl, hls, Bw, K⟩ := hrel
    have c1 := (Bw.cell (p := ⟨bF, oF + (v + 1), none⟩) hbF).trans HC1.out
    have hzr := Bw.size
    have hzk := K.lt
    have k3 := K.cell 3; have k4 := K.cell 4
    simp only [List.getElem?_toArray, List.getElem?_cons_zero, List.getElem?_cons_succ] at k3 k4
    have HLS := Lib.hid hls
    clear hls
    by_cases hlt : a < z
    · have haM : a < M := by omega
      have I := HI.out.below Bw
      obtain ⟨bH, oH, hH⟩ := I.iH.adr (by omega)
      dsimp only at hH
      subst hH
      obtain ⟨hbH, ch⟩ := tab_cell I.iH haM
      have huN := HG.out.hdl a haM
      obtain ⟨u, hu⟩ : ∃ u, hd a = u := ⟨_, rfl⟩
      rw [hu] at ch huN
      have cu := (tab_cell (HD.out.below Bw) huN).2
      have cv := (Bw.cell (p := ⟨bD, oD + v, none⟩) hbD).trans HCV.out
      obtain ⟨bX, oX, x, rfl, hbX, hx, cx⟩ := intl_at (HX.out.below Bw) haM
      have hop := opn_at hx
      have HU := Lib.hid hu; have HOP := Lib.hid hop
      have hBw := Lib.hid Bw; have hK := Lib.hid K
      clear hu hop hx I K Bw
      by_cases hx0 : 0 < x
      · have hxd : decide (0 < x) = true := decide_eq_true hx0
        have hw1 : IntKind.i64.wrap (q : Int) = (q : Int) := by rw [IntKind.wrap_i64]; omega
        have hw2 : IntKind.i64.wrap ((q : Int) + 1) = (q : Int) + 1 := by rw [IntKind.wrap_i64]; omega
        by_cases hdu : d u = q
        · rw [hdu] at cu
          go_wp2_with fail
          go_quiet (fail)
          clear hw1 hw2
          go_wp2_with fail
          go_ret2
          refine ⟨⟨a, rfl, by rw [HFA.out]; exact ha0, by rw [HZ.out]; exact hlt, by rw [HOP.out]; exact decide_eq_true hx0, by rw [HU.out, HQ.out, hdu], by rw [HFA.out]; exact HLS.out⟩, below_drewN' hBw.out _⟩
        · have hdn : ((d u : Int) == (q : Int)) = false := beq_false_of_ne (by omega)
          have hdn2 : ¬ (d u : Int) = (q : Int) := by omega
          have hdn3 : ¬ d u = q := hdu
          go_wp2_with fail
          go_quiet (fail)
          clear hw1 hw2
          go_wp2_with fail
          go_roundw
          case rel =>
            refine ⟨a + 1, by omega, by omega, by go_num, fun a' h1 h2 h3 => ?_, below_drewN' hBw.out _, hK.out⟩
            by_cases e : a' = a
            · subst e; rw [HU.out, HQ.out]; omega
            · exact HLS.out a' h1 (by omega) h3
          case measure => simp [intOf]; omega
      · have hxd : decide (0 < x) = false := decide_eq_false hx0
        go_wp2_with fail
        go_quiet (fail)
        go_wp2_with fail
        go_roundw
        case rel =>
          refine ⟨a + 1, by omega, by omega, by go_num, fun a' h1 h2 h3 => ?_, below_drewN' hBw.out _, hK.out⟩
          by_cases e : a' = a
          · subst e; rw [HOP.out] at h3; simp at h3; omega
          · exact HLS.out a' h1 (by omega) h3
        case measure => simp [intOf]; omega
    · exfalso
      obtain ⟨a', h1, h2, h3, h4⟩ := HEX.out
      rw [HFA.out] at h1
      rw [HZ.out] at h2
      exact HLS.out a' h1 (by omega) h3 h4

def lenV : Value → Nat
  | .slice _ n _ => n
  | _ => 0

/-- A shortest way is answered, if there is one. -/
def RetWay (N t s : Nat) (fst hd rv : Nat → Nat) (M : Nat) (X : List Int) (w : World) (e : Ending) (w' : World) : Prop :=
  ∃ (A : Option Addr) (n c : Nat) (W : List Nat) (d : Nat → Nat) (b : Bool), e = .returned (.tuple #[.slice A n c, .bool b]) ∧ IsDist (Lk M hd rv fun a => opn X (rv a)) N t d ∧ b = decide (d s < N) ∧ Ints w' w'.heap.size A n (W.map fun a : Nat => (a : Int)) ∧
    (d s = N → W = []) ∧ (d s < N → WayOf fst hd X d s W t) ∧ Below w.heap.size w w'

set_option maxHeartbeats 4000000 in
theorem way_good (N M : Nat) (S T : Int) (K : CsrS) (fst hd rv : Nat → Nat) (AX : Option Addr) (cX : Nat) (X : List Int) (s t : Nat) (w : World) (hG : Grid N M fst hd rv) (hI : GridIn w w.heap.size N M K fst hd rv) (hX : Ints w w.heap.size AX M X) (hM : M ≤ 100000000) (hN : N ≤ 4096) (hs : s < N) (ht : t < N) :
    Calls Try.prog 11 #[csrW N M S T K, .slice AX M cX, .int .i64 (s : Int), .int .i64 (t : Int)] w (RetWay N t s fst hd rv M X w) := by
  have HG := Lib.hid hG; have HI := Lib.hid hI; have HX := Lib.hid hX
  clear hG hI hX
  obtain ⟨AF, cF, AH, cH, AR, cR, AC, cC, AA, cA, AB, cB⟩ := K
  dsimp only [csrW]
  go_enter Try.func11, Try.ntmps11
  go_wp2_with fail
  refine (to_dist N M S T ⟨AF, cF, AH, cH, AR, cR, AC, cC, AA, cA, AB, cB⟩ fst hd rv AX cX X t _ HG.out (HI.out.onAlloc _) (HX.out.onAlloc _) hM hN ht).mono ?_
  rintro e w1 ⟨gD, d, rfl, D1, hD, hgD, B1⟩
  have K1 : Blk w1 w.heap.size 29 #[.int .i64 N, .int .i64 S, .int .i64 T, .slice AF (N + 1) cF, .slice AH M cH, .slice AR M cR, .slice AC M cC, .slice AA M cA, .slice AB M cB] := (Blk.new rfl).below B1 (by simp)
  have Bw1 := below_step (below_alloc _) B1
  obtain ⟨hbD, cs⟩ := tab_cell D1 hs
  rw [Nat.zero_add] at cs
  have k0 := K1.cell 0
  simp only [List.getElem?_toArray, List.getElem?_cons_zero] at k0
  have hzk := K1.lt
  have hdsN := hD.le s hs
  have HD := Lib.hid hD; have HD1 := Lib.hid D1; have HK1 := Lib.hid K1; have HB1 := Lib.hid Bw1
  clear hD D1 K1 Bw1 B1
  obtain ⟨ds, hds⟩ : ∃ ds, d s = ds := ⟨_, rfl⟩
  rw [hds] at cs hdsN
  have HDS := Lib.hid hds
  clear hds
  by_cases hc : ds = N
  · subst hc
    go_wp2_with fail
    go_quiet ((go_at_call 27; exact Calls.quiet_of_same (dindex_yes (by omega) _)))
    go_wp2_with fail
    go_ret2
    exact ⟨none, 0, 0, [], d, false, rfl, HD.out, by rw [HDS.out]; simp, ⟨rfl, fun h => absurd h (by omega)⟩, fun _ => rfl, fun h => absurd h (by rw [HDS.out]; omega), below_drewN' HB1.out _⟩
  · have hn1 : ((ds : Int) == (N : Int)) = false := beq_false_of_ne (by omega)
    have hn2 : ¬ (ds : Int) = (N : Int) := by omega
    go_wp2_with fail
    go_quiet ((go_at_call 27; exact Calls.quiet_of_same (dindex_yes (by omega) _)))
    rename_i nq
    go_wp2_with fail
    have X0 : Hx w1 (w1.drewN nq) w1.heap.size [⟨3, none, 0, 0, nvs []⟩] := ((Hx.start rfl).nil 3).drew nq
    have hX0 := Lib.hid X0
    clear X0 k0 cs hzk
    go_loopw [11, 12] (fun q v wr => ∃ (W : List Nat) (u : Nat) (AQ : Option Addr) (cQ : Nat), W.length ≤ ds ∧ u < N ∧ q = .slice AQ W.length cQ ∧ v = .int .i64 u ∧ WayOf fst hd X d s W u ∧ Hx w1 wr w1.heap.size [⟨3, AQ, W.length, cQ, nvs W⟩]) (fun q _ _ => ds - lenV q)
    case atStart => exact ⟨[], s, none, 0, Nat.zero_le _, hs, rfl, rfl, rfl, hX0.out⟩
    case round =>
      clear hX0
      obtain ⟨W, u, AQ, cQ, hW, hu, rfl, rfl, hway, X⟩ := hrel
      have hB := X.bel
      have K2 := HK1.out.below hB HK1.out.lt
      have hBt := below_step HB1.out hB
      have hdl := hway.len
      rw [HDS.out] at hdl
      have HW := Lib.hid hway
      have hdl1 : d u + W.length ≤ ds := by omega
      have hdl2 : ds ≤ d u + W.length := by omega
      clear hway hdl
      have cs := (tab_cell (HD1.out.below hB) hs).2
      rw [Nat.zero_add, HDS.out] at cs
      have hz1 := hB.size
      have k3 := K2.cell 3; have k4 := K2.cell 4
      simp only [List.getElem?_toArray, List.getElem?_cons_zero, List.getElem?_cons_succ] at k3 k4
      obtain ⟨a0, a1, a2, a3, a4, a5, a6, a7, a8⟩ := K2.at9
      have hzk := K2.lt
      by_cases hlt : W.length < ds
      · have hut : u ≠ t := fun e => by
          subst e
          have := HD.out.zero
          omega
        have hex := near_ex HG.out HD.out hu (by omega) hut
        have hdu := HD.out.le u hu
        have HEX := Lib.hid hex
        have HX0 := Lib.hid X
        have hBw := Lib.hid hB; have HBt := Lib.hid hBt; have HK2 := Lib.hid K2
        have hlt' : (W.length : Int) < (ds : Int) := by omega
        clear hex X hB k3 k4 K2 hBt
        go_wp2_with fail
        refine (nearer_good N M S T ⟨AF, cF, AH, cH, AR, cR, AC, cC, AA, cA, AB, cB⟩ fst hd rv AX cX X _ N d u _ HG.out (HI.out.on HBt.out) (HX.out.on HBt.out) (HD1.out.on hBw.out) hM hN hu hdu HEX.out).mono ?_
        rintro e w2 ⟨⟨a, rfl, hna⟩, B2⟩
        have X2 := HX0.out.on B2
        have hBt2 := below_step HBt.out B2
        have K3 := HK2.out.below B2 HK2.out.lt
        have hnM := HG.out.fle (v := u + 1) (by omega)
        have haM : a < M := by have := hna.hi; omega
        have I2 := HI.out.below hBt2
        obtain ⟨bH, oH, hH⟩ := I2.iH.adr (by omega)
        dsimp only at hH
        subst hH
        obtain ⟨hbH, ch⟩ := tab_cell I2.iH haM
        have huN := HG.out.hdl a haM
        have k4 := K3.cell 4
        simp only [List.getElem?_toArray, List.getElem?_cons_zero, List.getElem?_cons_succ] at k4
        have hzk2 := K3.lt
        have hbH2 : bH < w2.heap.size := by have := hBt2.size; omega
        have HNA := Lib.hid hna; have hX2 := Lib.hid X2; have HBt2 := Lib.hid hBt2; have HK3 := Lib.hid K3
        clear hna X2 I2 B2 hBt2 K3 a0 a1 a2 a3 a4 a5 a6 a7 a8 cs hzk
        go_wp2_with (at_builtin; refine wp_appH hX2.out rfl (.tmp 51) (.tmp 53) _ _ _ rfl one_int.wide 0 W.length cQ AQ _ (.int .i64 (a : Int)) rfl rfl rfl rfl (by omega) (by simp) ?_)
        intro A4 c4 w4 HX4 HB4
        have X4 : Hx w1 w4 w1.heap.size [⟨3, A4, (W ++ [a]).length, c4, nvs (W ++ [a])⟩] := by
          have h := HX4.out
          rw [List.length_append]
          unfold nvs at h ⊢
          rw [List.map_append]
          exact h
        have K4 := HK1.out.below X4.bel HK1.out.lt
        have k4 := K4.cell 4
        simp only [List.getElem?_toArray, List.getElem?_cons_zero, List.getElem?_cons_succ] at k4
        have ch := (tab_cell (HI.out.below (below_step HB1.out X4.bel)).iH haM).2
        have hzk4 := K4.lt
        have hX4 := Lib.hid X4
        clear X4 HX4 hX2 HB4 K4 HBt2 HK3
        go_wp2_with fail
        go_roundw
        case rel => exact ⟨W ++ [a], hd a, A4, c4, by simp; omega, huN, by rw [List.length_append]; rfl, rfl, HW.out.snoc HNA.out, hX4.out⟩
        case measure => simp [lenV]; omega
      · obtain rfl : ds = W.length := by omega
        have hut : u = t := (HD.out.zero_iff hu).1 (by omega)
        subst hut
        have hX0 := Lib.hid X
        have hnl : ¬ (W.length : Int) < (W.length : Int) := by omega
        clear X k3 k4 a0 a1 a2 a3 a4 a5 a6 a7 a8 K2
        go_wp2_with fail
        go_ret2
        refine ⟨AQ, W.length, cQ, W, d, true, rfl, HD.out, by rw [HDS.out]; exact (decide_eq_true (by omega)).symm, ?_, fun h => absurd h (by rw [HDS.out]; omega), fun _ => HW.out, below_step HB1.out hX0.out.bel⟩
        exact hX0.out.held.ints (i := 0) (by unfold nvs; rw [List.map_map]; rfl) (by simp)

end Go.Proofs.Ytdbfngamplkjeaa
