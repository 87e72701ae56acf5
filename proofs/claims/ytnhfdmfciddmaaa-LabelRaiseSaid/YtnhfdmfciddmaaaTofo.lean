/- Layer 5: dist.To, whose answer is the call's own. -/
import Derived.Test.YtnhfdmfciddmaaaTofrom
namespace Go.Proofs.Ytnhfdmfciddmaaa
open Go.RowKit
set_option maxRecDepth 100000

/-- Distances are answered, in a row of the call's own. -/
def RetDistO (R : Nat → Nat → Prop) (N t : Nat) (w : World) (e : Ending) (w' : World) : Prop :=
  ∃ (g : Nat) (d : Nat → Nat), e = .returned (.slice (some ⟨g, 0, none⟩) N N) ∧ w'.ownsRow w.heap.size 3 1 (.slice (some ⟨g, 0, none⟩) N N) N (fvs N d) ∧ IsDist R N t d ∧ Below w.heap.size w w'

set_option maxHeartbeats 8000000 in
theorem search_own (N M : Nat) (S T : Int) (K : CsrS) (fst hd rv : Nat → Nat) (fn : Nat) (caps : Array Value) (p : Nat → Bool) (s : Nat) (w : World) (hG : Grid N M fst hd rv) (hI : GridIn w w.heap.size N M K fst hd rv) (hM : M ≤ 100000000) (hN1 : 1 ≤ N) (hN : N ≤ 4096) (hs : s < N)
    (hcl : ∀ (k : Nat) (W : World), k < M → Below w.heap.size w W → Calls Try.prog fn (#[.int .i64 (k : Int)] ++ caps) W fun e w' => e = .returned (.bool (p k)) ∧ Below W.heap.size W w')
    (hcf : ∀ (xs : Array Value) (W : World), (callFunc fn xs).run Try.prog W = .ok (.enter fn xs) W) :
    Calls Try.prog 42 #[.agg #[.int .i64 N, .int .i64 S, .int .i64 T, .slice K.AF (N + 1) K.cF, .slice K.AH M K.cH, .slice K.AR M K.cR, .slice K.AC M K.cC, .slice K.AA M K.cA, .slice K.AB M K.cB, .func (.func fn) #[] caps], .int .i64 (s : Int)] w (RetDistO (Lk M hd rv p) N s w) := by
  obtain ⟨AF, cF, AH, cH, AR, cR, AC, cC, AA, cA, AB, cB⟩ := K
  dsimp only
  obtain ⟨bF, oF, hF⟩ := hI.iF.adr (by omega)
  dsimp only at hF
  subst hF
  have HG := Lib.hid hG; have HI := Lib.hid hI; have HCL := Lib.hid hcl
  clear hG hI hcl
  go_enter Try.func42, Try.ntmps42
  go_wp2_with fail
  have N1 : Blk ((w.alloc (.cells #[.int .i64 N, .int .i64 S, .int .i64 T, .slice (some ⟨bF, oF, none⟩) (N + 1) cF, .slice AH M cH, .slice AR M cR, .slice AC M cC, .slice AA M cA, .slice AB M cB, .func (.func fn) #[] caps] 67)).alloc (.cells #[.int .i64 N] 3)) (w.heap.size + 1) 3 (ivs [(N : Int)]) := Blk.new (by simp)
  refine (repeat_one (N : Int) _ 1 N _ (N1.ints rfl) hN1 (by omega)).mono ?_
  rintro e w1 ⟨gD, rfl, hgD, D1, B1⟩
  have C1 : Blk w1 w.heap.size 67 #[.int .i64 N, .int .i64 S, .int .i64 T, .slice (some ⟨bF, oF, none⟩) (N + 1) cF, .slice AH M cH, .slice AR M cR, .slice AC M cC, .slice AA M cA, .slice AB M cB, .func (.func fn) #[] caps] := ((Blk.new rfl).alloc _).below B1 (by simp <;> omega)
  have Bw1 := below_step ((below_alloc _).alloc (by simp) _) B1
  simp only [World.size_alloc] at hgD
  have hz1 := D1.lt
  have hzc := C1.lt
  have hd1 : w1.frozen? ⟨gD, s, none⟩ = false := D1.frozen s
  have hd2 : w1.cell? ⟨gD, s, none⟩ = some (.int .i64 (N : Int)) := D1.iat (by rw [List.getElem?_replicate, if_pos hs])
  have hX : Cx w ((w1.setCell ⟨gD, s, none⟩ (.int .i64 0)).alloc (.cells #[.int .i64 (s : Int)] 3)) w.heap.size w.heap.size 67 #[.int .i64 N, .int .i64 S, .int .i64 T, .slice (some ⟨bF, oF, none⟩) (N + 1) cF, .slice AH M cH, .slice AR M cR, .slice AC M cC, .slice AA M cA, .slice AB M cB, .func (.func fn) #[] caps]
      [⟨3, some ⟨w1.heap.size, 0, none⟩, [s].length, 1, nvs [s]⟩, ⟨3, some ⟨gD, 0, none⟩, N, N, fvs N (nupd (fun _ => N) s 0)⟩] [] := by
    have D2 : Blk ((w1.setCell ⟨gD, s, none⟩ (.int .i64 0)).alloc (.cells #[.int .i64 (s : Int)] 3)) gD 3 (fvs N (nupd (fun _ => N) s 0)).toArray := by
      have h := (D1.iset s 0).alloc (.cells #[.int .i64 (s : Int)] 3)
      have e : ivs ((List.replicate N (N : Int)).set s 0) = (fvs N (nupd (fun _ => N) s 0)).toArray := by
        rw [← fvs_set]
        unfold ivs fvs nvs
        rw [List.map_set]
        congr 1
        congr 1
        apply List.ext_getElem?
        intro j
        by_cases hj : j < N
        · rw [List.getElem?_map, List.getElem?_replicate, if_pos hj, List.getElem?_map, tab_at hj]; rfl
        · rw [List.getElem?_eq_none (by simp; omega), List.getElem?_eq_none (by simp [tab_len]; omega)]
      rw [e] at h
      exact h
    refine ⟨(C1.far (by simp only; omega) _).alloc _, Held.two (own_of_block (Blk.new (by simp)) (by omega) (by simp [maxLen]) (by simp)) (own_of_block D2 (by omega) (by unfold maxLen; simp only; omega) (by simp [tab_len])) ?_, by simp, by simp, ⟨Nat.le_refl _, by simp; omega⟩, (Bw1.setCell (by simp only; omega) _).alloc (by simp; omega) _⟩
    intro g hg e
    simp only [Value.ownBlock, Option.some.injEq] at hg e
    omega
  have hX0 := Lib.hid hX
  have hI0 := Lib.hid (Bfs.start (R := Lk M hd rv p) hs)
  clear hX D1 C1 Bw1 B1 N1
  go_wp2_with fail
  clear hd1 hd2 hz1 hzc
  go_loopw [7, 8] (fun q i wr => ∃ (k : Nat) (xs : List Nat) (far : Nat → Nat) (AQ : Option Addr) (cQ : Nat), k ≤ xs.length ∧ i = .int .i64 k ∧ q = .slice AQ xs.length cQ ∧ Bfs (Lk M hd rv p) N s k far xs ∧
    Cx w wr w.heap.size w.heap.size 67 #[.int .i64 N, .int .i64 S, .int .i64 T, .slice (some ⟨bF, oF, none⟩) (N + 1) cF, .slice AH M cH, .slice AR M cR, .slice AC M cC, .slice AA M cA, .slice AB M cB, .func (.func fn) #[] caps]
      [⟨3, AQ, xs.length, cQ, nvs xs⟩, ⟨3, some ⟨gD, 0, none⟩, N, N, fvs N far⟩] []) (fun _ i _ => N - (intOf i).toNat)
  case atStart => exact ⟨0, [s], _, _, 1, Nat.zero_le _, rfl, rfl, hI0.out, hX0.out⟩
  case round =>
    clear hX0 hI0
    obtain ⟨k, xs, far, AQ, cQ, hk, rfl, rfl, hb, X⟩ := hrel
    have hxl := hb.len
    have HB := Lib.hid hb
    clear hb
    by_cases hlt : k < xs.length
    · obtain ⟨gQ, hgQ, hgb, hgl⟩ := own_form (X.held.own 0 _ rfl) (by simp only; omega)
      simp only at hgQ
      subst hgQ
      obtain ⟨v, hv⟩ : ∃ v, xs[k]? = some v := ⟨_, List.getElem?_eq_getElem hlt⟩
      have hvN := HB.out.lt v (List.mem_of_getElem? hv)
      obtain ⟨cq, -, -, -⟩ := X.rcell (i := 0) rfl hlt (u := .int .i64 (v : Int)) (by simp [hv])
      have I := HI.out.below X.bel
      obtain ⟨hbF, cf⟩ := tab_cell I.iF (k := v) (by omega)
      have hzw := X.bel.size
      have d3 := X.kc.cell 3
      simp only [List.getElem?_toArray, List.getElem?_cons_zero, List.getElem?_cons_succ] at d3
      have hzk := X.kc.lt
      have hf1 := HG.out.mono v hvN
      have hf2 := HG.out.fle (v := v + 1) (by omega)
      have HV := Lib.hid hv
      have hX0 := Lib.hid X
      clear hv I X
      obtain ⟨fa, hfa⟩ : ∃ fa, fst v = fa := ⟨_, rfl⟩
      obtain ⟨z, hz⟩ : ∃ z, fst (v + 1) = z := ⟨_, rfl⟩
      rw [hfa] at cf hf1
      rw [hz] at hf1 hf2
      have HFA := Lib.hid hfa; have HZ := Lib.hid hz
      clear hfa hz
      have hklen : (k : Int) < (xs.length : Int) := by omega
      go_wp2_with fail
      clear cq cf d3 hzk hzw hgl hklen
      go_loopw [7, 10] (fun q j wr => ∃ (a : Nat) (xs : List Nat) (far : Nat → Nat) (AQ : Option Addr) (cQ : Nat), fa ≤ a ∧ a ≤ z ∧ j = .int .i64 a ∧ q = .slice AQ xs.length cQ ∧ Bfs (Lk M hd rv p) N s k far xs ∧ xs[k]? = some v ∧
        (∀ a', fa ≤ a' → a' < a → p a' = true → far (hd a') ≤ far v + 1) ∧
        Cx w wr w.heap.size w.heap.size 67 #[.int .i64 N, .int .i64 S, .int .i64 T, .slice (some ⟨bF, oF, none⟩) (N + 1) cF, .slice AH M cH, .slice AR M cR, .slice AC M cC, .slice AA M cA, .slice AB M cB, .func (.func fn) #[] caps]
          [⟨3, AQ, xs.length, cQ, nvs xs⟩, ⟨3, some ⟨gD, 0, none⟩, N, N, fvs N far⟩] []) (fun _ j _ => z - (intOf j).toNat)
      case atStart => exact ⟨fa, xs, far, _, cQ, Nat.le_refl _, hf1, rfl, rfl, HB.out, HV.out, fun a' h1 h2 => absurd h2 (by omega), hX0.out⟩
      case round =>
        clear hX0 HB HV hlt hk hxl
        obtain ⟨a, xs, far, AQ, cQ, ha0, ha1, rfl, rfl, hb, hv, hpart, X⟩ := hrel
        have hxl := hb.len
        have I := HI.out.below X.bel
        obtain ⟨hbF', cz⟩ := tab_cell I.iF (k := v + 1) (by omega)
        rw [HZ.out] at cz
        have hzw := X.bel.size
        have hzk := X.kc.lt
        have d3 := X.kc.cell 3; have d4 := X.kc.cell 4; have d9 := X.kc.cell 9
        simp only [List.getElem?_toArray, List.getElem?_cons_zero, List.getElem?_cons_succ] at d3 d4 d9
        by_cases hlt : a < z
        · have haM : a < M := by omega
          obtain ⟨bH, oH, hH⟩ := I.iH.adr (by omega)
          dsimp only at hH
          subst hH
          obtain ⟨hbH, ch⟩ := tab_cell I.iH haM
          have huN := HG.out.hdl a haM
          have hlk : p a = true → Lk M hd rv p v (hd a) := fun hp => row_lk HG.out hvN (by rw [HFA.out]; exact ha0) (by rw [HZ.out]; exact hlt) hp
          obtain ⟨u, hu⟩ : ∃ u, hd a = u := ⟨_, rfl⟩
          rw [hu] at ch huN hlk
          obtain ⟨cu, fu, hgl, hgb2⟩ := X.rcell (i := 1) rfl huN (fvs_at huN)
          obtain ⟨cv, -, -, -⟩ := X.rcell (i := 1) rfl hvN (fvs_at hvN)
          have HU := Lib.hid hu; have HB := Lib.hid hb; have HV := Lib.hid hv; have HPT := Lib.hid hpart; have HLK := Lib.hid hlk
          clear hu hb hv hpart hlk I
          by_cases hfu : far u = N
          · rw [hfu] at cu
            have hX0 := Lib.hid X
            have Bw := X.bel
            clear X
            cases hpa : p a
            · have HPA := Lib.hid hpa
              go_wp2_with fail
              refine (HCL.out a _ haM Bw).mono ?_
              rintro e w2 ⟨rfl, B2⟩
              rw [hpa]
              clear hpa
              go_wp2_with fail
              go_roundw
              case rel =>
                refine ⟨a + 1, xs, far, AQ, cQ, by omega, by omega, by go_num, rfl, HB.out, HV.out, fun a' h1 h2 h3 => ?_, hX0.out.on B2⟩
                by_cases e : a' = a
                · subst e; rw [HPA.out] at h3; cases h3
                · exact HPT.out a' h1 (by omega) h3
              case measure => simp [intOf]; omega
            · have HPA := Lib.hid hpa
              go_wp2_with fail
              refine (HCL.out a _ haM Bw).mono ?_
              rintro e w2 ⟨rfl, B2⟩
              rw [hpa]
              clear hpa
              have hX2 := hX0.out.on B2
              have hb2 := HB.out.add HV.out huN hfu (HLK.out HPA.out)
              have hb3 := hb2.len
              simp at hb3
              have hvi := HB.out.idx k v HV.out
              obtain ⟨cu2, fu2, hgl2, -⟩ := hX2.rcell (i := 1) rfl huN (fvs_at huN)
              obtain ⟨cv2, -, -, -⟩ := hX2.rcell (i := 1) rfl hvN (fvs_at hvN)
              have hkx := (List.getElem?_eq_some_iff.1 HV.out).1
              have X3 : Cx w (w2.setCell ⟨gD, u, none⟩ (.int .i64 ((far v : Int) + 1))) w.heap.size w.heap.size 67 #[.int .i64 N, .int .i64 S, .int .i64 T, .slice (some ⟨bF, oF, none⟩) (N + 1) cF, .slice (some ⟨bH, oH, none⟩) M cH, .slice AR M cR, .slice AC M cC, .slice AA M cA, .slice AB M cB, .func (.func fn) #[] caps]
                  [⟨3, AQ, xs.length, cQ, nvs xs⟩, ⟨3, some ⟨gD, 0, none⟩, N, N, fvs N (nupd far u (far v + 1))⟩] [] := by
                have h := hX2.put (i := 1) rfl u (.int .i64 ((far v : Int) + 1))
                simp only [List.set_cons_zero, List.set_cons_succ] at h
                rw [show ((far v : Int) + 1) = ((far v + 1 : Nat) : Int) by omega, fvs_set] at h
                rw [show ((far v : Int) + 1) = ((far v + 1 : Nat) : Int) by omega]
                exact h
              have hX3 := Lib.hid X3
              have HB2 := Lib.hid hb2
              have hfv : far v ≤ 4096 := by omega
              clear hX2 X3 hb2 Bw hX0 cu fu hgl cv
              go_wp2_with (at_builtin; refine wp_app hX3.out rfl (.tmp 79) (.tmp 81) _ _ _ rfl one_int 0 xs.length cQ AQ _ (.int .i64 (u : Int)) rfl rfl rfl rfl (by omega) (by simp) ?_)
              intro A4 c4 w4 HX4
              have X4 : Hid (Cx w w4 w.heap.size w.heap.size 67 #[.int .i64 N, .int .i64 S, .int .i64 T, .slice (some ⟨bF, oF, none⟩) (N + 1) cF, .slice (some ⟨bH, oH, none⟩) M cH, .slice AR M cR, .slice AC M cC, .slice AA M cA, .slice AB M cB, .func (.func fn) #[] caps]
                  [⟨3, A4, (xs ++ [u]).length, c4, nvs (xs ++ [u])⟩, ⟨3, some ⟨gD, 0, none⟩, N, N, fvs N (nupd far u (far v + 1))⟩] []) := by
                have h := HX4.out
                rw [List.length_append]
                unfold nvs at h ⊢
                rw [List.map_append]
                exact Lib.hid h
              clear HX4 hX3 cu2 fu2 cv2 hgl2
              go_wp2_with fail
              go_roundw
              case rel =>
                refine ⟨a + 1, xs ++ [u], nupd far u (far v + 1), A4, c4, by omega, by omega, by go_num, by rw [List.length_append]; rfl, HB2.out, by rw [List.getElem?_append_left hkx]; exact HV.out, fun a' h1 h2 h3 => ?_, X4.out⟩
                have hvu : v ≠ u := fun e => by
                  subst e
                  exact (HB.out.mem v hvN).2 (List.mem_of_getElem? HV.out) hfu
                rw [nupd_ne hvu]
                by_cases e : a' = a
                · subst e; rw [HU.out, nupd_at]; exact Nat.le_refl _
                · by_cases e2 : hd a' = u
                  · rw [e2, nupd_at]; exact Nat.le_refl _
                  · rw [nupd_ne e2]; exact HPT.out a' h1 (by omega) h3
              case measure => simp [intOf]; omega
          · have hn1 : ¬ (far u : Int) = (N : Int) := by omega
            have hn2 : ((far u : Int) == (N : Int)) = false := beq_false_of_ne hn1
            have hX0 := Lib.hid X
            clear X
            go_wp2_with fail
            go_roundw
            case rel =>
              refine ⟨a + 1, xs, far, AQ, cQ, by omega, by omega, by go_num, rfl, HB.out, HV.out, fun a' h1 h2 h3 => ?_, hX0.out⟩
              by_cases e : a' = a
              · subst e
                rw [HU.out]
                exact HB.out.cap v u HV.out ((HB.out.mem u huN).1 hfu)
              · exact HPT.out a' h1 (by omega) h3
            case measure => simp [intOf]; omega
        · obtain rfl : a = z := by omega
          have hkx := (List.getElem?_eq_some_iff.1 hv).1
          have HB := Lib.hid hb; have HV := Lib.hid hv; have HPT := Lib.hid hpart
          have hX0 := Lib.hid X
          clear hb hv hpart X I
          go_wp2_with fail
          go_roundw
          case rel =>
            refine ⟨k + 1, xs, far, AQ, cQ, by omega, by go_num, rfl, HB.out.next HV.out fun u hu hR => ?_, hX0.out⟩
            obtain ⟨_, _, a', h1, h2, h3, h4⟩ := lk_row HG.out hR
            rw [← h3]
            exact HPT.out a' (by rw [← HFA.out]; exact h1) (by rw [← HZ.out]; exact h2) h4
          case measure => simp [intOf]; omega
    · have hX0 := Lib.hid X
      clear X
      have hnk : ¬ (k : Int) < (xs.length : Int) := by omega
      go_wp2_with fail
      go_ret
      exact ⟨gD, far, rfl, hX0.out.held.own 1 _ rfl, HB.out.all (by omega), hX0.out.bel⟩

set_option maxHeartbeats 4000000 in
theorem to_dist_own (N M : Nat) (S T : Int) (K : CsrS) (fst hd rv : Nat → Nat) (AX : Option Addr) (cX : Nat) (X : List Int) (s : Nat) (w : World) (hG : Grid N M fst hd rv) (hI : GridIn w w.heap.size N M K fst hd rv) (hX : Ints w w.heap.size AX M X) (hM : M ≤ 100000000) (hN : N ≤ 4096) (hs : s < N) :
    Calls Try.prog 25 #[csrW N M S T K, .slice AX M cX, .int .i64 (s : Int)] w (RetDistO (Lk M hd rv (fun a => opn X (rv a))) N s w) := by
  have HG := Lib.hid hG; have HI := Lib.hid hI; have HX := Lib.hid hX
  clear hG hI hX
  obtain ⟨AF, cF, AH, cH, AR, cR, AC, cC, AA, cA, AB, cB⟩ := K
  dsimp only [csrW]
  go_enter Try.func25, Try.ntmps25
  go_wp2_with fail
  refine (fit_yes N M S T ⟨AF, cF, AH, cH, AR, cR, AC, cC, AA, cA, AB, cB⟩ fst hd rv AX cX _ HG.out ((HI.out.onAlloc _).onAlloc _) hN hM).mono ?_
  rintro e w1 ⟨rfl, B1⟩
  have K1 : Blk w1 w.heap.size 29 #[.int .i64 N, .int .i64 S, .int .i64 T, .slice AF (N + 1) cF, .slice AH M cH, .slice AR M cR, .slice AC M cC, .slice AA M cA, .slice AB M cB] := ((Blk.new rfl).alloc _).below B1 (by simp <;> omega)
  have R1 : Blk w1 (w.heap.size + 1) 25 #[.slice AX M cX] := (Blk.new (by simp)).below B1 (by simp <;> omega)
  have I1 := ((HI.out.onAlloc (.cells #[.int .i64 N, .int .i64 S, .int .i64 T, .slice AF (N + 1) cF, .slice AH M cH, .slice AR M cR, .slice AC M cC, .slice AA M cA, .slice AB M cB] 29)).onAlloc (.cells #[.slice AX M cX] 25)).on B1
  have X1 := ((HX.out.onAlloc (.cells #[.int .i64 N, .int .i64 S, .int .i64 T, .slice AF (N + 1) cF, .slice AH M cH, .slice AR M cR, .slice AC M cC, .slice AA M cA, .slice AB M cB] 29)).onAlloc (.cells #[.slice AX M cX] 25)).on B1
  have Bw1 := below_step ((below_alloc (w := w) (.cells #[.int .i64 N, .int .i64 S, .int .i64 T, .slice AF (N + 1) cF, .slice AH M cH, .slice AR M cR, .slice AC M cC, .slice AA M cA, .slice AB M cB] 29)).alloc (by simp) (.cells #[.slice AX M cX] 25)) B1
  clear B1
  obtain ⟨a0, a1, a2, a3, a4, a5, a6, a7, a8⟩ := K1.at9
  have hz1 := K1.lt; have hz2 := R1.lt
  have HR1 := Lib.hid R1; have HI1 := Lib.hid I1; have HX1 := Lib.hid X1; have HB1 := Lib.hid Bw1; have HK1 := Lib.hid K1
  clear R1 I1 X1 Bw1 K1
  go_wp2_with (go_at_call 40; refine (dindex_yes (by omega) _).mono ?_; rintro e w' ⟨rfl, hw⟩; obtain rfl : _ = w' := hw.symm)
  have hcf : ∀ (xs : Array Value) (W : World), (callFunc 41 xs).run Try.prog W = .ok (.enter 41 xs) W := fun xs W => by kernel_rfl
  refine (search_own N M S T ⟨AF, cF, AH, cH, AR, cR, AC, cC, AA, cA, AB, cB⟩ fst hd rv 41 #[.pointer (some ⟨w.heap.size + 1, 0, none⟩), .pointer (some ⟨w.heap.size, 0, none⟩)] (fun a => opn X (rv a)) s _ HG.out (HI1.out.onAlloc _) hM (by omega) hN hs (fun k W hk hB => ?_) hcf).mono ?_
  · exact dto1 k (rv k) (w.heap.size + 1) w.heap.size M cX cR AX AR X rv _ _ _ _ _ _ _ _ W hk rfl (HG.out.rvl k hk) ((HR1.out.alloc _).below hB (by simp; omega)) ((HX1.out.onAlloc _).on hB) ((HK1.out.alloc _).below hB (by simp; omega)) ((HI1.out.onAlloc _).on hB).iR
  · rintro e w2 ⟨g, d, rfl, D2, hD, B2⟩
    have Bw2 := below_step (HB1.out.alloc HB1.out.size _) B2
    have hz3 := HB1.out.size
    go_wp2_with fail
    go_ret
    exact ⟨g, d, rfl, own_less D2 (by simp; omega), hD, Bw2⟩

end Go.Proofs.Ytnhfdmfciddmaaa
