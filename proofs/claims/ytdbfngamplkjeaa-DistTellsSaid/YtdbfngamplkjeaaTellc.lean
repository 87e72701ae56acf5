/- What the document's Way tells. -/
import Derived.Test.YtdbfngamplkjeaaTellb
import Derived.Deep.RegionHeld3
namespace Go.Proofs.Ytdbfngamplkjeaa
open Go.RowKit
set_option maxRecDepth 100000

set_option maxHeartbeats 16000000 in
theorem rway_any (N M : Nat) (S T : Int) (K : CsrS) (fst hd rv : Nat → Nat) (AX : Option Addr) (n cX : Nat) (X : List Int) (s t : Int) (w : World) (hG : Grid N M fst hd rv) (hI : GridIn w w.heap.size N M K fst hd rv) (hX : Ints w w.heap.size AX n X) (hM : M ≤ 100000000) (hN : N ≤ 4096) :
    Calls Try.prog 12 #[csrW N M S T K, .slice AX n cX, .int .i64 s, .int .i64 t] w (RetPair (WayAns N M n fst hd rv X s t) w) := by
  have HG := Lib.hid hG; have HI := Lib.hid hI; have HX := Lib.hid hX
  clear hG hI hX
  obtain ⟨AF, cF, AH, cH, AR, cR, AC, cC, AA, cA, AB, cB⟩ := K
  dsimp only [csrW]
  go_enter Try.func12, Try.ntmps12
  go_wp2_with fail
  refine (rto_any N M S T ⟨AF, cF, AH, cH, AR, cR, AC, cC, AA, cA, AB, cB⟩ fst hd rv AX n cX X t _ HG.out (HI.out.onAlloc _) (HX.out.onAlloc _) hM hN).mono ?_
  rintro e w1 ⟨AD, m, cD, l, rfl, I1, hm, hA, B1⟩
  have K1 : Blk w1 w.heap.size 29 #[.int .i64 (N : Int), .int .i64 S, .int .i64 T, .slice AF (N + 1) cF, .slice AH M cH, .slice AR M cR, .slice AC M cC, .slice AA M cA, .slice AB M cB] := (Blk.new rfl).below B1 (by simp)
  have Bw1 := below_step (below_alloc _) B1
  have k0 := K1.cell 0
  simp only [List.getElem?_toArray, List.getElem?_cons_zero] at k0
  have hzk := K1.lt
  have HK1 := Lib.hid K1; have HB1 := Lib.hid Bw1
  clear K1 Bw1 B1
  rcases hA with ⟨hn, tn, ht, htN, d, hD, rfl⟩ | ⟨hn, rfl⟩
  case inr =>
    obtain rfl : m = 0 := by have := I1.len; simpa using this.symm
    have HP := Lib.hid (show WayAns N M n fst hd rv X s t [] false from .inr ⟨by omega, rfl, rfl⟩)
    clear hn I1
    go_wp2_with fail
    go_quiet (fail)
    go_wp2_with fail
    go_ret2
    exact ret_pair HP.out (below_drewN' HB1.out _)
  case inl =>
    subst hn
    obtain rfl : m = N := by have := I1.len; rw [tab_len] at this; exact this.symm
    have hn1 : ¬ (m : Int) = 0 := by omega
    have hn2 : ((m : Int) == 0) = false := beq_eq_false_iff_ne.2 hn1
    by_cases h0 : s < 0
    · have HP := Lib.hid (show WayAns m n n fst hd rv X s t [] false from .inr ⟨by omega, rfl, rfl⟩)
      have g1 : decide (s < 0) = true := decide_eq_true h0
      clear I1 hD
      go_wp2_with fail
      go_quiet (fail)
      go_wp2_with fail
      go_ret2
      exact ret_pair HP.out (below_drewN' HB1.out _)
    have g1 : decide (s < 0) = false := decide_eq_false h0
    by_cases h1 : (m : Int) ≤ s
    · have HP := Lib.hid (show WayAns m n n fst hd rv X s t [] false from .inr ⟨by omega, rfl, rfl⟩)
      have g2 : decide ((m : Int) ≤ s) = true := decide_eq_true h1
      clear I1 hD
      go_wp2_with fail
      go_quiet (fail)
      go_wp2_with fail
      go_ret2
      exact ret_pair HP.out (below_drewN' HB1.out _)
    obtain ⟨sn, rfl⟩ := Int.eq_ofNat_of_zero_le (show 0 ≤ s by omega)
    subst ht
    have hsN : sn < m := by omega
    have g2 : decide (m ≤ sn) = false := decide_eq_false (by omega)
    obtain ⟨bD, oD, hAD⟩ := I1.adr (by omega)
    subst hAD
    obtain ⟨hbD, cs⟩ := tab_cell I1 hsN
    have hdsN := hD.le sn hsN
    have HD := Lib.hid hD; have HD1 := Lib.hid I1
    clear hD I1 h0 h1
    obtain ⟨ds, hds⟩ : ∃ ds, d sn = ds := ⟨_, rfl⟩
    rw [hds] at cs hdsN
    have HDS := Lib.hid hds
    clear hds
    by_cases hc : ds = m
    · have HP := Lib.hid (show WayAns m n n fst hd rv X sn tn [] false from .inl ⟨rfl, sn, tn, rfl, rfl, hsN, htN, d, HD.out, .inr ⟨HDS.out.trans hc, rfl, rfl⟩⟩)
      subst hc
      go_wp2_with fail
      go_quiet (fail)
      go_wp2_with fail
      go_ret2
      exact ret_pair HP.out (below_drewN' HB1.out _)
    · have hn3 : ((ds : Int) == (m : Int)) = false := beq_false_of_ne (by omega)
      have hn4 : ¬ (ds : Int) = (m : Int) := by omega
      go_wp2_with fail
      go_quiet (fail)
      have X0 : Hx w1 (w1.drewN nq) w1.heap.size [⟨3, none, 0, 0, nvs []⟩] := ((Hx.start rfl).nil 3).drew nq
      have hX0 := Lib.hid X0
      clear X0 k0 cs hzk g1 g2 hn1 hn2 hn3 hn4
      go_wp2_with fail
      go_loopw [11, 12] (fun q v wr => ∃ (W : List Nat) (u : Nat) (AQ : Option Addr) (cQ : Nat), u < m ∧ q = .slice AQ W.length cQ ∧ v = .int .i64 u ∧ WayOf fst hd X d sn W u ∧ Hx w1 wr w1.heap.size [⟨3, AQ, W.length, cQ, nvs W⟩]) (fun q _ _ => ds - lenV q)
      case atStart => exact ⟨[], sn, none, 0, hsN, rfl, rfl, rfl, hX0.out⟩
      case round =>
        clear hX0
        obtain ⟨W, u, AQ, cQ, hu, rfl, rfl, hway, H⟩ := hrel
        obtain ⟨W0, hW0⟩ := world_name H.bel
        subst hW0
        have hdl := hway.len
        rw [HDS.out] at hdl
        have HW := Lib.hid hway; have HH := Lib.hid H
        by_cases hut : u = tn
        · have hzz : d u = 0 := by rw [hut]; exact HD.out.zero
          have HP := Lib.hid (show WayAns m n n fst hd rv X sn tn (W.map fun a : Nat => (a : Int)) true from .inl ⟨rfl, sn, tn, rfl, rfl, hsN, htN, d, HD.out, .inl ⟨by rw [HDS.out]; omega, rfl, W, by rw [← hut]; exact HW.out, rfl⟩⟩)
          have hlW : W.length ≤ 1000000 := by omega
          subst hut
          clear hway H hdl hzz
          go_wp2_with fail
          go_ret2
          refine ⟨AQ, W.length, cQ, _, true, rfl, HH.out.held.ints (i := 0) (by unfold nvs; rw [List.map_map]; rfl) (by simp), hlW, HP.out, below_step HB1.out HH.out.bel⟩
        · have hut' : ¬ (u : Int) = (tn : Int) := by omega
          have hut2 : ((u : Int) == (tn : Int)) = false := beq_eq_false_iff_ne.2 hut'
          have hut3 : ((u : Int) != (tn : Int)) = true := by rw [bne, hut2]; rfl
          have hex := near_ex HG.out HD.out hu (by have := HD.out.le u hu; omega) hut
          obtain ⟨q, hq⟩ : ∃ q, d u = q + 1 := by
            obtain ⟨a, _, _, _, h⟩ := hex
            exact ⟨d (hd a), h.symm⟩
          have hqm : q + 1 ≤ m := by rw [← hq]; exact HD.out.le u hu
          have hlt : W.length < ds := by omega
          have K2 := HK1.out.below H.bel HK1.out.lt
          have hfm := HG.out.mono u hu
          have hff := HG.out.fle (v := u + 1) (by omega)
          have G2 := HI.out.on (below_step HB1.out H.bel)
          obtain ⟨bF, oF, hAF⟩ := G2.iF.adr (by omega)
          dsimp only at hAF
          subst hAF
          obtain ⟨hbF, cf⟩ := tab_cell G2.iF (k := u) (by omega)
          have HEX := Lib.hid hex; have HQ := Lib.hid hq
          obtain ⟨a0, a1, a2, a3, a4, a5, a6, a7, a8⟩ := K2.at9
          have hzk := K2.lt
          clear hway H hdl hex hq G2 K2
          go_wp2_with fail
          clear a0 a1 a2 a3 a4 a5 a6 a7 a8 hzk cf hbF
          go_loopw [13] (fun i wr => ∃ a : Nat, fst u ≤ a ∧ a ≤ fst (u + 1) ∧ i = .int .i64 a ∧ (∀ a', fst u ≤ a' → a' < a → opn X a' = true → d (hd a') + 1 ≠ d u) ∧ Hx w1 wr w1.heap.size [⟨3, AQ, W.length, cQ, nvs W⟩]) (fun i _ => fst (u + 1) - (intOf i).toNat)
          case atStart => exact ⟨fst u, Nat.le_refl _, hfm, rfl, fun a' h1 h2 => absurd h2 (by omega), HH.out⟩
          case round =>
            clear HH
            obtain ⟨a, ha1, ha2, rfl, hls, H⟩ := hrel
            obtain ⟨W2, hW2⟩ := world_name H.bel
            subst hW2
            have hal : a < fst (u + 1) := by
              rcases Nat.lt_or_ge a (fst (u + 1)) with h | h
              · exact h
              · exfalso
                obtain ⟨a', k1, k2, k3, k4⟩ := HEX.out
                exact hls a' k1 (by omega) k3 k4
            have haM : a < n := by omega
            have K3 := HK1.out.below H.bel HK1.out.lt
            have Bw2 := below_step HB1.out H.bel
            have hah := HG.out.hdl a haM
            have hIa := (HI.out.on Bw2).iH
            obtain ⟨bH, oH, hAH⟩ := hIa.adr (by omega)
            dsimp only at hAH
            subst hAH
            have ch := tab_cell hIa haM
            have cdh := tab_cell (HD1.out.on H.bel) hah
            have cdu := tab_cell (HD1.out.on H.bel) hu
            rw [HQ.out] at cdu
            obtain ⟨y, hy⟩ : ∃ y, d (hd a) = y := ⟨_, rfl⟩
            obtain ⟨v, hv⟩ : ∃ v, hd a = v := ⟨_, rfl⟩
            rw [hy] at cdh
            rw [hv] at cdh ch hah
            have HY := Lib.hid (show d v = y by rw [← hv]; exact hy); have HV := Lib.hid hv; have HLS := Lib.hid hls; have HH := Lib.hid H; have HK3 := Lib.hid K3
            have HKEEP := Lib.hid fun (W' : World) (hb : Below W2.heap.size W2 W') => csr_keep3 K3 (p1 := ⟨bH, oH + a, none⟩) (p2 := ⟨bD, oD + v, none⟩) (p3 := ⟨bD, oD + u, none⟩) ch cdh cdu hb
            have HC := Lib.hid fun (W' : World) (hb : Below W2.heap.size W2 W') (ob : Bool) (ho : opn X a = ob) => ropen_is m n S T ⟨some ⟨bF, oF, none⟩, cF, some ⟨bH, oH, none⟩, cH, AR, cR, AC, cC, AA, cA, AB, cB⟩ fst hd rv AX cX X u a ob W' HG.out (HI.out.on (below_step Bw2 hb)) (HX.out.on (below_step Bw2 hb)) hN hu ha1 hal ho
            clear hls H hy hv hIa ch cdh cdu K3 Bw2
            have hw1 : IntKind.i64.wrap (q : Int) = (q : Int) := by rw [IntKind.wrap_i64]; omega
            cases ho : opn X a
            · have HO := Lib.hid ho
              clear ho
              go_upto_region 8 with fail
              refine wp_region_held_drew (S := fun W' => Below W2.heap.size W2 W' ∧ W'.cell? ⟨w.heap.size, 0, none⟩ = some (.int .i64 (m : Int)) ∧ W'.cell? ⟨w.heap.size, 1, none⟩ = some (.int .i64 S) ∧ W'.cell? ⟨w.heap.size, 2, none⟩ = some (.int .i64 T) ∧ W'.cell? ⟨w.heap.size, 3, none⟩ = some (.slice (some ⟨bF, oF, none⟩) (m + 1) cF) ∧ W'.cell? ⟨w.heap.size, 4, none⟩ = some (.slice (some ⟨bH, oH, none⟩) n cH) ∧ W'.cell? ⟨w.heap.size, 5, none⟩ = some (.slice AR n cR) ∧ W'.cell? ⟨w.heap.size, 6, none⟩ = some (.slice AC n cC) ∧ W'.cell? ⟨w.heap.size, 7, none⟩ = some (.slice AA n cA) ∧ W'.cell? ⟨w.heap.size, 8, none⟩ = some (.slice AB n cB) ∧ W'.cell? ⟨bH, oH + a, none⟩ = some (.int .i64 (v : Int)) ∧ W'.cell? ⟨bD, oD + v, none⟩ = some (.int .i64 (y : Int)) ∧ W'.cell? ⟨bD, oD + u, none⟩ = some (.int .i64 ((q + 1 : Nat) : Int))) (by kernel_rfl) (HKEEP.out _ (Below.refl _ _).drew) (fun hS0 => ?_)
              refine takeD (i := 0) (v := ?_) (some 49) rfl rfl (by kernel_rfl) (by kernel_rfl) (by kernel_rfl) (fun _ _ _ h => h) (Or.inl ⟨by rfl, ?_⟩) (by assumption) ?_
              rotate_left
              · (intro W hSw; go_split_ands; go_simp; try with_reducible rfl)
              simp only [Act.put, List.setIfInBounds_toArray, List.set_cons_zero, List.set_cons_succ]
              refine takeD (i := 1) (v := ?_) (some 50) rfl rfl (by kernel_rfl) (by kernel_rfl) (by kernel_rfl) (fun _ _ _ h => h) (Or.inl ⟨by rfl, ?_⟩) (by assumption) ?_
              rotate_left
              · (intro W hSw; go_split_ands; go_simp; try with_reducible rfl)
              simp only [Act.put, List.setIfInBounds_toArray, List.set_cons_zero, List.set_cons_succ]
              refine takeD (i := 2) (v := ?_) (some 51) rfl rfl (by kernel_rfl) (by kernel_rfl) (by kernel_rfl) (fun _ _ _ h => h) (Or.inl ⟨by rfl, ?_⟩) (by assumption) ?_
              rotate_left
              · (intro W hSw; go_split_ands; go_simp; try with_reducible rfl)
              simp only [Act.put, List.setIfInBounds_toArray, List.set_cons_zero, List.set_cons_succ]
              refine takeD (i := 3) (v := ?_) (some 52) rfl rfl (by kernel_rfl) (by kernel_rfl) (by kernel_rfl) (fun _ _ _ h => h) (Or.inl ⟨by rfl, ?_⟩) (by assumption) ?_
              rotate_left
              · (intro W hSw; go_split_ands; go_simp; try with_reducible rfl)
              simp only [Act.put, List.setIfInBounds_toArray, List.set_cons_zero, List.set_cons_succ]
              refine wpAnyH_ready (rs := [4]) (by kernel_rfl) (by simp) ?_
              refine AllReadyH.cons rfl (fun K hK => ?_) AllReadyH.nil
              go_simp
              first
                | (go_at_call 29; go_split_ands; ((with_reducible refine (HC.out _ (by assumption) _ HO.out).mono ?_); rintro e W8 ⟨rfl, B8⟩); refine hK.out _ _ (HKEEP.out _ (by refine below_step ?_ B8; assumption)) (fun hS5 => ?_))
              clear hK K
              try simp only [Act.put, List.setIfInBounds_toArray, List.set_cons_zero, List.set_cons_succ]
              refine takeD (i := 5) (v := ?_) (some 54) rfl rfl (by kernel_rfl) (by kernel_rfl) (by kernel_rfl) (fun _ _ _ h => h) (Or.inl ⟨by rfl, ?_⟩) (by assumption) ?_
              rotate_left
              · (intro W hSw; go_split_ands; go_simp; try with_reducible rfl)
              simp only [Act.put, List.setIfInBounds_toArray, List.set_cons_zero, List.set_cons_succ]
              refine takeD (i := 6) (v := ?_) (some 55) rfl rfl (by kernel_rfl) (by kernel_rfl) (by kernel_rfl) (fun _ _ _ h => h) (Or.inl ⟨by rfl, ?_⟩) (by assumption) ?_
              rotate_left
              · (intro W hSw; go_split_ands; go_simp; try with_reducible rfl)
              simp only [Act.put, List.setIfInBounds_toArray, List.set_cons_zero, List.set_cons_succ]
              refine takeD (i := 7) (v := undef) (some 56) rfl rfl (by kernel_rfl) (by kernel_rfl) (by kernel_rfl) (fun _ _ _ h => h) (Or.inr ⟨by rfl, rfl⟩) (by assumption) ?_
              simp only [Act.put, List.setIfInBounds_toArray, List.set_cons_zero, List.set_cons_succ]
              refine takeD (i := 8) (v := undef) (some 57) rfl rfl (by kernel_rfl) (by kernel_rfl) (by kernel_rfl) (fun _ _ _ h => h) (Or.inr ⟨by rfl, rfl⟩) (by assumption) ?_
              simp only [Act.put, List.setIfInBounds_toArray, List.set_cons_zero, List.set_cons_succ]
              refine takeD (i := 9) (v := undef) (some 58) rfl rfl (by kernel_rfl) (by kernel_rfl) (by kernel_rfl) (fun _ _ _ h => h) (Or.inr ⟨by rfl, rfl⟩) (by assumption) ?_
              simp only [Act.put, List.setIfInBounds_toArray, List.set_cons_zero, List.set_cons_succ]
              refine takeD (i := 10) (v := undef) (some 59) rfl rfl (by kernel_rfl) (by kernel_rfl) (by kernel_rfl) (fun _ _ _ h => h) (Or.inr ⟨by rfl, rfl⟩) (by assumption) ?_
              simp only [Act.put, List.setIfInBounds_toArray, List.set_cons_zero, List.set_cons_succ]
              refine takeD (i := 11) (v := undef) (some 60) rfl rfl (by kernel_rfl) (by kernel_rfl) (by kernel_rfl) (fun _ _ _ h => h) (Or.inr ⟨by rfl, rfl⟩) (by assumption) ?_
              simp only [Act.put, List.setIfInBounds_toArray, List.set_cons_zero, List.set_cons_succ]
              refine takeD (i := 12) (v := undef) (some 61) rfl rfl (by kernel_rfl) (by kernel_rfl) (by kernel_rfl) (fun _ _ _ h => h) (Or.inr ⟨by rfl, rfl⟩) (by assumption) ?_
              simp only [Act.put, List.setIfInBounds_toArray, List.set_cons_zero, List.set_cons_succ]
              refine takeD (i := 13) (v := undef) (some 62) rfl rfl (by kernel_rfl) (by kernel_rfl) (by kernel_rfl) (fun _ _ _ h => h) (Or.inr ⟨by rfl, rfl⟩) (by assumption) ?_
              simp only [Act.put, List.setIfInBounds_toArray, List.set_cons_zero, List.set_cons_succ]
              refine takeD (i := 14) (v := undef) (some 63) rfl rfl (by kernel_rfl) (by kernel_rfl) (by kernel_rfl) (fun _ _ _ h => h) (Or.inr ⟨by rfl, rfl⟩) (by assumption) ?_
              simp only [Act.put, List.setIfInBounds_toArray, List.set_cons_zero, List.set_cons_succ]
              refine takeD (i := 15) (v := undef) (some 64) rfl rfl (by kernel_rfl) (by kernel_rfl) (by kernel_rfl) (fun _ _ _ h => h) (Or.inr ⟨by rfl, rfl⟩) (by assumption) ?_
              simp only [Act.put, List.setIfInBounds_toArray, List.set_cons_zero, List.set_cons_succ]
              refine takeD (i := 16) (v := undef) (some 65) rfl rfl (by kernel_rfl) (by kernel_rfl) (by kernel_rfl) (fun _ _ _ h => h) (Or.inr ⟨by rfl, rfl⟩) (by assumption) ?_
              simp only [Act.put, List.setIfInBounds_toArray, List.set_cons_zero, List.set_cons_succ]
              refine takeD (i := 17) (v := undef) (some 66) rfl rfl (by kernel_rfl) (by kernel_rfl) (by kernel_rfl) (fun _ _ _ h => h) (Or.inr ⟨by rfl, rfl⟩) (by assumption) ?_
              simp only [Act.put, List.setIfInBounds_toArray, List.set_cons_zero, List.set_cons_succ]
              refine takeD (i := 18) (v := undef) (some 67) rfl rfl (by kernel_rfl) (by kernel_rfl) (by kernel_rfl) (fun _ _ _ h => h) (Or.inr ⟨by rfl, rfl⟩) (by assumption) ?_
              simp only [Act.put, List.setIfInBounds_toArray, List.set_cons_zero, List.set_cons_succ]
              refine takeD (i := 19) (v := undef) (some 68) rfl rfl (by kernel_rfl) (by kernel_rfl) (by kernel_rfl) (fun _ _ _ h => h) (Or.inr ⟨by rfl, rfl⟩) (by assumption) ?_
              simp only [Act.put, List.setIfInBounds_toArray, List.set_cons_zero, List.set_cons_succ]
              refine takeD (i := 20) (v := undef) (some 69) rfl rfl (by kernel_rfl) (by kernel_rfl) (by kernel_rfl) (fun _ _ _ h => h) (Or.inr ⟨by rfl, rfl⟩) (by assumption) ?_
              simp only [Act.put, List.setIfInBounds_toArray, List.set_cons_zero, List.set_cons_succ]
              refine takeD (i := 21) (v := ?_) (some 70) rfl rfl (by kernel_rfl) (by kernel_rfl) (by kernel_rfl) (fun _ _ _ h => h) (Or.inl ⟨by rfl, ?_⟩) (by assumption) ?_
              rotate_left
              · (intro W hSw; go_split_ands; go_simp; try with_reducible rfl)
              simp only [Act.put, List.setIfInBounds_toArray, List.set_cons_zero, List.set_cons_succ]
              refine wpAnyH_done (by kernel_rfl) ?_ _
              go_split_ands
              go_wp2_with fail
              go_roundw
              case rel =>
                refine ⟨a + 1, by omega, by omega, by go_num, fun a' h1 h2 h3 => ?_, HH.out.on (by assumption)⟩
                by_cases e : a' = a
                · subst e; rw [HO.out] at h3; cases h3
                · exact HLS.out a' h1 (by omega) h3
              case measure => simp [intOf]; omega
            · have HO := Lib.hid ho
              clear ho
              by_cases hyq : y = q
              · subst hyq
                have hna : Near fst hd X d u a := ⟨ha1, hal, HO.out, by rw [HV.out, HY.out, HQ.out], HLS.out⟩
                have HNA := Lib.hid hna
                clear hna
                go_upto_region 8 with fail
                go_region_held3 (fun W' => Below W2.heap.size W2 W' ∧ W'.cell? ⟨w.heap.size, 0, none⟩ = some (.int .i64 (m : Int)) ∧ W'.cell? ⟨w.heap.size, 1, none⟩ = some (.int .i64 S) ∧ W'.cell? ⟨w.heap.size, 2, none⟩ = some (.int .i64 T) ∧ W'.cell? ⟨w.heap.size, 3, none⟩ = some (.slice (some ⟨bF, oF, none⟩) (m + 1) cF) ∧ W'.cell? ⟨w.heap.size, 4, none⟩ = some (.slice (some ⟨bH, oH, none⟩) n cH) ∧ W'.cell? ⟨w.heap.size, 5, none⟩ = some (.slice AR n cR) ∧ W'.cell? ⟨w.heap.size, 6, none⟩ = some (.slice AC n cC) ∧ W'.cell? ⟨w.heap.size, 7, none⟩ = some (.slice AA n cA) ∧ W'.cell? ⟨w.heap.size, 8, none⟩ = some (.slice AB n cB) ∧ W'.cell? ⟨bH, oH + a, none⟩ = some (.int .i64 (v : Int)) ∧ W'.cell? ⟨bD, oD + v, none⟩ = some (.int .i64 (y : Int)) ∧ W'.cell? ⟨bD, oD + u, none⟩ = some (.int .i64 ((y + 1 : Nat) : Int)))
                  (first
                    | exact HKEEP.out _ (Below.refl _ _).drew
                    | (go_split_ands
                       exact HKEEP.out _ (by refine below_step ?_ (by assumption); assumption)))
                  (first
                    | (go_at_call 29; go_split_ands; ((with_reducible refine (HC.out _ (by assumption) _ HO.out).mono ?_); rintro e W8 ⟨rfl, B8⟩))
                    | fail)
                go_split_ands
                go_wp2_with (at_builtin; refine wp_appH (HH.out.on (by assumption)) rfl (.tmp 73) (.tmp 75) _ _ _ rfl one_int.wide 0 W.length cQ AQ _ (.int .i64 (a : Int)) rfl rfl rfl rfl (by omega) (by simp) ?_)
                intro A4 c4 w4 HX4 HB4
                have X4 : Hx w1 w4 w1.heap.size [⟨3, A4, (W ++ [a]).length, c4, nvs (W ++ [a])⟩] := by
                  have h := HX4.out
                  rw [List.length_append]
                  unfold nvs at h ⊢
                  rw [List.map_append]
                  exact h
                have K4 := HK1.out.below X4.bel HK1.out.lt
                have k4 := K4.cell 4
                simp only [List.getElem?_toArray, List.getElem?_cons_zero, List.getElem?_cons_succ] at k4
                have ch := (tab_cell (HI.out.below (below_step HB1.out X4.bel)).iH haM).2
                rw [HV.out] at ch
                have hzk4 := K4.lt
                have hX4 := Lib.hid X4
                clear X4 HX4 HB4 K4
                have hWay2 : Hid (WayOf fst hd X d sn (W ++ [a]) v) := Lib.hid (by rw [← HV.out]; exact HW.out.snoc HNA.out)
                go_wp2_with fail
                go_roundw
                case rel => exact ⟨W ++ [a], v, A4, c4, hah, by rw [List.length_append]; rfl, rfl, hWay2.out, hX4.out⟩
                case measure => simp [lenV]; omega
              · have hdn : ((y : Int) == (q : Int)) = false := beq_false_of_ne (by omega)
                have hdn2 : ¬ (y : Int) = (q : Int) := by omega
                go_upto_region 8 with fail
                go_region_held3 (fun W' => Below W2.heap.size W2 W' ∧ W'.cell? ⟨w.heap.size, 0, none⟩ = some (.int .i64 (m : Int)) ∧ W'.cell? ⟨w.heap.size, 1, none⟩ = some (.int .i64 S) ∧ W'.cell? ⟨w.heap.size, 2, none⟩ = some (.int .i64 T) ∧ W'.cell? ⟨w.heap.size, 3, none⟩ = some (.slice (some ⟨bF, oF, none⟩) (m + 1) cF) ∧ W'.cell? ⟨w.heap.size, 4, none⟩ = some (.slice (some ⟨bH, oH, none⟩) n cH) ∧ W'.cell? ⟨w.heap.size, 5, none⟩ = some (.slice AR n cR) ∧ W'.cell? ⟨w.heap.size, 6, none⟩ = some (.slice AC n cC) ∧ W'.cell? ⟨w.heap.size, 7, none⟩ = some (.slice AA n cA) ∧ W'.cell? ⟨w.heap.size, 8, none⟩ = some (.slice AB n cB) ∧ W'.cell? ⟨bH, oH + a, none⟩ = some (.int .i64 (v : Int)) ∧ W'.cell? ⟨bD, oD + v, none⟩ = some (.int .i64 (y : Int)) ∧ W'.cell? ⟨bD, oD + u, none⟩ = some (.int .i64 ((q + 1 : Nat) : Int)))
                  (first
                    | exact HKEEP.out _ (Below.refl _ _).drew
                    | (go_split_ands
                       exact HKEEP.out _ (by refine below_step ?_ (by assumption); assumption)))
                  (first
                    | (go_at_call 29; go_split_ands; ((with_reducible refine (HC.out _ (by assumption) _ HO.out).mono ?_); rintro e W8 ⟨rfl, B8⟩))
                    | fail)
                go_split_ands
                go_wp2_with fail
                go_roundw
                case rel =>
                  refine ⟨a + 1, by omega, by omega, by go_num, fun a' h1 h2 h3 => ?_, HH.out.on (by assumption)⟩
                  by_cases e : a' = a
                  · subst e; rw [HV.out, HY.out, HQ.out]; omega
                  · exact HLS.out a' h1 (by omega) h3
                case measure => simp [intOf]; omega

end Go.Proofs.Ytdbfngamplkjeaa
