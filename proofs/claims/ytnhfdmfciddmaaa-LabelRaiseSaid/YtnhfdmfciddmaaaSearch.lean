/- Layer 5: the search; To, From. -/
import Derived.Test.YtnhfdmfciddmaaaFit
namespace Go.Proofs.Ytnhfdmfciddmaaa
open Go.RowKit
set_option maxRecDepth 100000

section
variable {w w0 : World} {base gc g i n c : Nat} {t tc : TypeId} {rs : List Rw} {xs : List Value} {vc : Array Value} {oth : List (Nat × TypeId × Array Value)}
/-- A store into one of the rows. -/
theorem Held.put (h : Held w base rs) (hr : rs[i]? = some ⟨t, some ⟨g, 0, none⟩, n, c, xs⟩) (j : Nat) (u : Value) : Held (w.setCell ⟨g, j, none⟩ u) base (rs.set i ⟨t, some ⟨g, 0, none⟩, n, c, xs.set j u⟩) := by
  have hi := (List.getElem?_eq_some_iff.1 hr).1
  have hown : w.ownsRow base t 1 (.slice (some ⟨g, 0, none⟩) n c) n xs := h.own i _ hr
  obtain ⟨ho, hg⟩ := hown.stored j u
  refine ⟨fun k s hs => ?_, fun k l s t' hkl hs ht b hb e => ?_⟩
  · by_cases hk : k = i
    · subst hk
      rw [List.getElem?_set_self hi] at hs
      injection hs with hs
      subst hs
      exact ho
    · rw [List.getElem?_set_ne (fun e => hk e.symm)] at hs
      refine (h.own k s hs).kept hg ?_
      cases hb : s.v.ownBlock with
      | none => exact .inl rfl
      | some b =>
        refine .inr fun e => ?_
        injection e with e
        subst e
        exact h.ne i k _ s (fun e => hk e.symm) hr hs b rfl hb
  · have back : ∀ (k : Nat) (s : Rw), (rs.set i ⟨t, some ⟨g, 0, none⟩, n, c, xs.set j u⟩)[k]? = some s → ∃ s', rs[k]? = some s' ∧ s'.v.ownBlock = s.v.ownBlock := by
      intro k s hs
      by_cases hk : k = i
      · subst hk
        rw [List.getElem?_set_self hi] at hs
        injection hs with hs
        subst hs
        exact ⟨_, hr, rfl⟩
      · rw [List.getElem?_set_ne (fun e => hk e.symm)] at hs
        exact ⟨s, hs, rfl⟩
    obtain ⟨s1, h1, e1⟩ := back k s hs
    obtain ⟨s2, h2, e2⟩ := back l t' ht
    exact h.ne k l s1 s2 hkl h1 h2 b (e1.trans hb) (e2.trans e)
theorem Cx.put (h : Cx w0 w base gc tc vc rs oth) (hr : rs[i]? = some ⟨t, some ⟨g, 0, none⟩, n, c, xs⟩) (j : Nat) (u : Value) : Cx w0 (w.setCell ⟨g, j, none⟩ u) base gc tc vc (rs.set i ⟨t, some ⟨g, 0, none⟩, n, c, xs.set j u⟩) oth := by
  have hown : w.ownsRow base t 1 (.slice (some ⟨g, 0, none⟩) n c) n xs := h.held.own i _ hr
  have hmem := List.mem_of_getElem? hr
  have hne : ∀ {b : Nat} {t' : TypeId} {cs : Array Value}, Blk w b t' cs → t ≠ t' → b ≠ g := fun hb ht e => own_ne hown hb ht g rfl e.symm
  have hts : ∀ r ∈ rs.set i ⟨t, some ⟨g, 0, none⟩, n, c, xs.set j u⟩, ∀ t', (∀ s ∈ rs, s.t ≠ t') → r.t ≠ t' := by
    intro r hr' t' ht
    rcases List.mem_or_eq_of_mem_set hr' with hr' | rfl
    · exact ht r hr'
    · have h1 := ht _ hmem
      exact h1
  have hbg := (hown.lt g rfl).1
  exact ⟨h.kc.far (hne h.kc (h.tne _ hmem)) u, h.held.put hr j u, fun o ho => ⟨(h.oth o ho).1.far (hne (h.oth o ho).1 ((h.oth o ho).2.2 _ hmem)) u, (h.oth o ho).2.1, fun r hr' => hts r hr' _ (h.oth o ho).2.2⟩,
    fun r hr' => hts r hr' _ h.tne, ⟨h.bas.1, by simpa using h.bas.2⟩, h.bel.setCell hbg u⟩
/-- Memory that others make leaves all as it is. -/
theorem Cx.on (h : Cx w0 w base gc tc vc rs oth) {w' : World} (hb : Below w.heap.size w w') : Cx w0 w' base gc tc vc rs oth :=
  ⟨h.kc.below hb h.kc.lt, h.held.grown (row := none) ⟨hb.os, hb.tape, hb.output, hb.size, fun k hk _ => hb.block k hk⟩ (fun g e => by cases e), fun o ho => ⟨(h.oth o ho).1.below hb (h.oth o ho).1.lt, (h.oth o ho).2⟩,
    h.tne, ⟨h.bas.1, Nat.le_trans h.bas.2 hb.size⟩, h.bel.trans (hb.mono h.bas.2)⟩
theorem Cx.rcell {j : Nat} {u : Value} (h : Cx w0 w base gc tc vc rs oth) (hr : rs[i]? = some ⟨t, some ⟨g, 0, none⟩, n, c, xs⟩) (hj : j < n) (hu : xs[j]? = some u) : w.cell? ⟨g, j, none⟩ = some u ∧ w.frozen? ⟨g, j, none⟩ = false ∧ g < w.heap.size ∧ base ≤ g := by
  have hown : w.ownsRow base t 1 (.slice (some ⟨g, 0, none⟩) n c) n xs := h.held.own i _ hr
  exact ⟨(hown.cellAt j (by omega)).trans hu, hown.frozenAt j, (hown.lt g rfl).2, (hown.lt g rfl).1⟩
end

theorem Held.two {w : World} {base : Nat} {r s : Rw} (h1 : w.ownsRow base r.t 1 r.v r.n r.xs) (h2 : w.ownsRow base s.t 1 s.v s.n s.xs) (hne : ∀ g, r.v.ownBlock = some g → s.v.ownBlock ≠ some g) : Held w base [r, s] := by
  refine ⟨fun i x hx => ?_, fun i j x y hij hx hy g hg e => ?_⟩
  · match i, hx with
    | 0, hx => simp at hx; subst hx; exact h1
    | 1, hx => simp at hx; subst hx; exact h2
    | i + 2, hx => simp at hx
  · match i, j, hx, hy with
    | 0, 0, _, _ => exact hij rfl
    | 0, 1, hx, hy => simp at hx hy; subst hx; subst hy; exact hne g hg e
    | 1, 0, hx, hy => simp at hx hy; subst hx; subst hy; exact hne g e hg
    | 1, 1, _, _ => exact hij rfl
    | i + 2, _, hx, _ => simp at hx
    | 0, j + 2, _, hy => simp at hy
    | 1, j + 2, _, hy => simp at hy

/-- Numbers of vertices in memory. -/
abbrev nvs (xs : List Nat) : List Value := xs.map fun v : Nat => Value.int .i64 (v : Int)
abbrev fvs (N : Nat) (f : Nat → Nat) : List Value := nvs (tab N f)
theorem fvs_at {N v : Nat} {f : Nat → Nat} (h : v < N) : (fvs N f)[v]? = some (.int .i64 (f v : Int)) := by
  unfold fvs nvs
  rw [List.getElem?_map, tab_at h]
  rfl
theorem fvs_set {N : Nat} {f : Nat → Nat} (v x : Nat) : (fvs N f).set v (.int .i64 (x : Int)) = fvs N (nupd f v x) := by
  unfold fvs nvs
  rw [← List.map_set, tab_set]
  rfl
theorem nvs_ints {n : Nat} {f : Nat → Nat} : (nvs (tab n f)) = (tab n fun v => (f v : Int)).map (Value.int .i64) := by
  simp [nvs, tab]

/-- Distances in new memory are answered. -/
def RetDist (R : Nat → Nat → Prop) (N t : Nat) (w : World) (e : Ending) (w' : World) : Prop :=
  ∃ (g : Nat) (d : Nat → Nat), e = .returned (.slice (some ⟨g, 0, none⟩) N N) ∧ Ints w' w'.heap.size (some ⟨g, 0, none⟩) N (tab N fun v => (d v : Int)) ∧ IsDist R N t d ∧ w.heap.size ≤ g ∧ Below w.heap.size w w'

set_option maxHeartbeats 8000000 in
theorem search_is (N M : Nat) (S T : Int) (K : CsrS) (fst hd rv : Nat → Nat) (fn : Nat) (caps : Array Value) (p : Nat → Bool) (s : Nat) (w : World) (hG : Grid N M fst hd rv) (hI : GridIn w w.heap.size N M K fst hd rv) (hM : M ≤ 100000000) (hN1 : 1 ≤ N) (hN : N ≤ 4096) (hs : s < N)
    (hcl : ∀ (k : Nat) (W : World), k < M → Below w.heap.size w W → Calls Try.prog fn (#[.int .i64 (k : Int)] ++ caps) W fun e w' => e = .returned (.bool (p k)) ∧ Below W.heap.size W w')
    (hcf : ∀ (xs : Array Value) (W : World), (callFunc fn xs).run Try.prog W = .ok (.enter fn xs) W) :
    Calls Try.prog 42 #[.agg #[.int .i64 N, .int .i64 S, .int .i64 T, .slice K.AF (N + 1) K.cF, .slice K.AH M K.cH, .slice K.AR M K.cR, .slice K.AC M K.cC, .slice K.AA M K.cA, .slice K.AB M K.cB, .func (.func fn) #[] caps], .int .i64 (s : Int)] w (RetDist (Lk M hd rv p) N s w) := by
  obtain ⟨AF, cF, AH, cH, AR, cR, AC, cC, AA, cA, AB, cB⟩ := K
  dsimp only
  obtain ⟨bF, oF, hF⟩ := hI.iF.adr (by omega)
  dsimp only at hF
  subst hF
  have HG := Lib.hid hG; have HI := Lib.hid hI; have HCL := Lib.hid hcl
  clear hG hI hcl
  go_enter Try.func42, Try.ntmps42
  go_wp2_with fail
  have N1 : Blk ((w.alloc (.cells #[.int .i64 N, .int .i64 S, .int .i64 T, .slice (some ⟨bF, oF, none⟩) (N + 1) cF, .slice AH M cH, .slice AR M cR, .slice AC M cC, .slice AA M cA, .slice AB M cB, .func (.func fn) #[] caps] 67)).alloc (.cells #[.int .i64 N] 3)) (w.heap.size + 1) 3 (ivs [(N : Int)]) := Blk.new (by simp)
  refine (repeat_one (N : Int) _ 1 N _ (N1.ints rfl) hN1 (by omega)).mono ?_
  rintro e w1 ⟨gD, rfl, hgD, D1, B1⟩
  have C1 : Blk w1 w.heap.size 67 #[.int .i64 N, .int .i64 S, .int .i64 T, .slice (some ⟨bF, oF, none⟩) (N + 1) cF, .slice AH M cH, .slice AR M cR, .slice AC M cC, .slice AA M cA, .slice AB M cB, .func (.func fn) #[] caps] := ((Blk.new rfl).alloc _).below B1 (by simp <;> omega)
  have Bw1 := below_step ((below_alloc _).alloc (by simp) _) B1
  simp only [World.size_alloc] at hgD
  have hz1 := D1.lt
  have hzc := C1.lt
  have hd1 : w1.frozen? ⟨gD, s, none⟩ = false := D1.frozen s
  have hd2 : w1.cell? ⟨gD, s, none⟩ = some (.int .i64 (N : Int)) := D1.iat (by rw [List.getElem?_replicate, if_pos hs])
  have hX : Cx w ((w1.setCell ⟨gD, s, none⟩ (.int .i64 0)).alloc (.cells #[.int .i64 (s : Int)] 3)) w.heap.size w.heap.size 67 #[.int .i64 N, .int .i64 S, .int .i64 T, .slice (some ⟨bF, oF, none⟩) (N + 1) cF, .slice AH M cH, .slice AR M cR, .slice AC M cC, .slice AA M cA, .slice AB M cB, .func (.func fn) #[] caps]
      [⟨3, some ⟨w1.heap.size, 0, none⟩, [s].length, 1, nvs [s]⟩, ⟨3, some ⟨gD, 0, none⟩, N, N, fvs N (nupd (fun _ => N) s 0)⟩] [] := by
    have D2 : Blk ((w1.setCell ⟨gD, s, none⟩ (.int .i64 0)).alloc (.cells #[.int .i64 (s : Int)] 3)) gD 3 (fvs N (nupd (fun _ => N) s 0)).toArray := by
      have h := (D1.iset s 0).alloc (.cells #[.int .i64 (s : Int)] 3)
      have e : ivs ((List.replicate N (N : Int)).set s 0) = (fvs N (nupd (fun _ => N) s 0)).toArray := by
        rw [← fvs_set]
        unfold ivs fvs nvs
        rw [List.map_set]
        congr 1
        congr 1
        apply List.ext_getElem?
        intro j
        by_cases hj : j < N
        · rw [List.getElem?_map, List.getElem?_replicate, if_pos hj, List.getElem?_map, tab_at hj]; rfl
        · rw [List.getElem?_eq_none (by simp; omega), List.getElem?_eq_none (by simp [tab_len]; omega)]
      rw [e] at h
      exact h
    refine ⟨(C1.far (by simp only; omega) _).alloc _, Held.two (own_of_block (Blk.new (by simp)) (by omega) (by simp [maxLen]) (by simp)) (own_of_block D2 (by omega) (by unfold maxLen; simp only; omega) (by simp [tab_len])) ?_, by simp, by simp, ⟨Nat.le_refl _, by simp; omega⟩, (Bw1.setCell (by simp only; omega) _).alloc (by simp; omega) _⟩
    intro g hg e
    simp only [Value.ownBlock, Option.some.injEq] at hg e
    omega
  have hX0 := Lib.hid hX
  have hI0 := Lib.hid (Bfs.start (R := Lk M hd rv p) hs)
  clear hX D1 C1 Bw1 B1 N1
  go_wp2_with fail
  clear hd1 hd2 hz1 hzc
  go_loopw [7, 8] (fun q i wr => ∃ (k : Nat) (xs : List Nat) (far : Nat → Nat) (AQ : Option Addr) (cQ : Nat), k ≤ xs.length ∧ i = .int .i64 k ∧ q = .slice AQ xs.length cQ ∧ Bfs (Lk M hd rv p) N s k far xs ∧
    Cx w wr w.heap.size w.heap.size 67 #[.int .i64 N, .int .i64 S, .int .i64 T, .slice (some ⟨bF, oF, none⟩) (N + 1) cF, .slice AH M cH, .slice AR M cR, .slice AC M cC, .slice AA M cA, .slice AB M cB, .func (.func fn) #[] caps]
      [⟨3, AQ, xs.length, cQ, nvs xs⟩, ⟨3, some ⟨gD, 0, none⟩, N, N, fvs N far⟩] []) (fun _ i _ => N - (intOf i).toNat)
  case atStart => exact ⟨0, [s], _, _, 1, Nat.zero_le _, rfl, rfl, hI0.out, hX0.out⟩
  case round =>
    clear hX0 hI0
    obtain ⟨k, xs, far, AQ, cQ, hk, rfl, rfl, hb, X⟩ := hrel
    have hxl := hb.len
    have HB := Lib.hid hb
    clear hb
    by_cases hlt : k < xs.length
    · obtain ⟨gQ, hgQ, hgb, hgl⟩ := own_form (X.held.own 0 _ rfl) (by simp only; omega)
      simp only at hgQ
      subst hgQ
      obtain ⟨v, hv⟩ : ∃ v, xs[k]? = some v := ⟨_, List.getElem?_eq_getElem hlt⟩
      have hvN := HB.out.lt v (List.mem_of_getElem? hv)
      obtain ⟨cq, -, -, -⟩ := X.rcell (i := 0) rfl hlt (u := .int .i64 (v : Int)) (by simp [hv])
      have I := HI.out.below X.bel
      obtain ⟨hbF, cf⟩ := tab_cell I.iF (k := v) (by omega)
      have hzw := X.bel.size
      have d3 := X.kc.cell 3
      simp only [List.getElem?_toArray, List.getElem?_cons_zero, List.getElem?_cons_succ] at d3
      have hzk := X.kc.lt
      have hf1 := HG.out.mono v hvN
      have hf2 := HG.out.fle (v := v + 1) (by omega)
      have HV := Lib.hid hv
      have hX0 := Lib.hid X
      clear hv I X
      obtain ⟨fa, hfa⟩ : ∃ fa, fst v = fa := ⟨_, rfl⟩
      obtain ⟨z, hz⟩ : ∃ z, fst (v + 1) = z := ⟨_, rfl⟩
      rw [hfa] at cf hf1
      rw [hz] at hf1 hf2
      have HFA := Lib.hid hfa; have HZ := Lib.hid hz
      clear hfa hz
      have hklen : (k : Int) < (xs.length : Int) := by omega
      go_wp2_with fail
      clear cq cf d3 hzk hzw hgl hklen
      go_loopw [7, 10] (fun q j wr => ∃ (a : Nat) (xs : List Nat) (far : Nat → Nat) (AQ : Option Addr) (cQ : Nat), fa ≤ a ∧ a ≤ z ∧ j = .int .i64 a ∧ q = .slice AQ xs.length cQ ∧ Bfs (Lk M hd rv p) N s k far xs ∧ xs[k]? = some v ∧
        (∀ a', fa ≤ a' → a' < a → p a' = true → far (hd a') ≤ far v + 1) ∧
        Cx w wr w.heap.size w.heap.size 67 #[.int .i64 N, .int .i64 S, .int .i64 T, .slice (some ⟨bF, oF, none⟩) (N + 1) cF, .slice AH M cH, .slice AR M cR, .slice AC M cC, .slice AA M cA, .slice AB M cB, .func (.func fn) #[] caps]
          [⟨3, AQ, xs.length, cQ, nvs xs⟩, ⟨3, some ⟨gD, 0, none⟩, N, N, fvs N far⟩] []) (fun _ j _ => z - (intOf j).toNat)
      case atStart => exact ⟨fa, xs, far, _, cQ, Nat.le_refl _, hf1, rfl, rfl, HB.out, HV.out, fun a' h1 h2 => absurd h2 (by omega), hX0.out⟩
      case round =>
        clear hX0 HB HV hlt hk hxl
        obtain ⟨a, xs, far, AQ, cQ, ha0, ha1, rfl, rfl, hb, hv, hpart, X⟩ := hrel
        have hxl := hb.len
        have I := HI.out.below X.bel
        obtain ⟨hbF', cz⟩ := tab_cell I.iF (k := v + 1) (by omega)
        rw [HZ.out] at cz
        have hzw := X.bel.size
        have hzk := X.kc.lt
        have d3 := X.kc.cell 3; have d4 := X.kc.cell 4; have d9 := X.kc.cell 9
        simp only [List.getElem?_toArray, List.getElem?_cons_zero, List.getElem?_cons_succ] at d3 d4 d9
        by_cases hlt : a < z
        · have haM : a < M := by omega
          obtain ⟨bH, oH, hH⟩ := I.iH.adr (by omega)
          dsimp only at hH
          subst hH
          obtain ⟨hbH, ch⟩ := tab_cell I.iH haM
          have huN := HG.out.hdl a haM
          have hlk : p a = true → Lk M hd rv p v (hd a) := fun hp => row_lk HG.out hvN (by rw [HFA.out]; exact ha0) (by rw [HZ.out]; exact hlt) hp
          obtain ⟨u, hu⟩ : ∃ u, hd a = u := ⟨_, rfl⟩
          rw [hu] at ch huN hlk
          obtain ⟨cu, fu, hgl, hgb2⟩ := X.rcell (i := 1) rfl huN (fvs_at huN)
          obtain ⟨cv, -, -, -⟩ := X.rcell (i := 1) rfl hvN (fvs_at hvN)
          have HU := Lib.hid hu; have HB := Lib.hid hb; have HV := Lib.hid hv; have HPT := Lib.hid hpart; have HLK := Lib.hid hlk
          clear hu hb hv hpart hlk I
          by_cases hfu : far u = N
          · rw [hfu] at cu
            have hX0 := Lib.hid X
            have Bw := X.bel
            clear X
            cases hpa : p a
            · have HPA := Lib.hid hpa
              go_wp2_with fail
              refine (HCL.out a _ haM Bw).mono ?_
              rintro e w2 ⟨rfl, B2⟩
              rw [hpa]
              clear hpa
              go_wp2_with fail
              go_roundw
              case rel =>
                refine ⟨a + 1, xs, far, AQ, cQ, by omega, by omega, by go_num, rfl, HB.out, HV.out, fun a' h1 h2 h3 => ?_, hX0.out.on B2⟩
                by_cases e : a' = a
                · subst e; rw [HPA.out] at h3; cases h3
                · exact HPT.out a' h1 (by omega) h3
              case measure => simp [intOf]; omega
            · have HPA := Lib.hid hpa
              go_wp2_with fail
              refine (HCL.out a _ haM Bw).mono ?_
              rintro e w2 ⟨rfl, B2⟩
              rw [hpa]
              clear hpa
              have hX2 := hX0.out.on B2
              have hb2 := HB.out.add HV.out huN hfu (HLK.out HPA.out)
              have hb3 := hb2.len
              simp at hb3
              have hvi := HB.out.idx k v HV.out
              obtain ⟨cu2, fu2, hgl2, -⟩ := hX2.rcell (i := 1) rfl huN (fvs_at huN)
              obtain ⟨cv2, -, -, -⟩ := hX2.rcell (i := 1) rfl hvN (fvs_at hvN)
              have hkx := (List.getElem?_eq_some_iff.1 HV.out).1
              have X3 : Cx w (w2.setCell ⟨gD, u, none⟩ (.int .i64 ((far v : Int) + 1))) w.heap.size w.heap.size 67 #[.int .i64 N, .int .i64 S, .int .i64 T, .slice (some ⟨bF, oF, none⟩) (N + 1) cF, .slice (some ⟨bH, oH, none⟩) M cH, .slice AR M cR, .slice AC M cC, .slice AA M cA, .slice AB M cB, .func (.func fn) #[] caps]
                  [⟨3, AQ, xs.length, cQ, nvs xs⟩, ⟨3, some ⟨gD, 0, none⟩, N, N, fvs N (nupd far u (far v + 1))⟩] [] := by
                have h := hX2.put (i := 1) rfl u (.int .i64 ((far v : Int) + 1))
                simp only [List.set_cons_zero, List.set_cons_succ] at h
                rw [show ((far v : Int) + 1) = ((far v + 1 : Nat) : Int) by omega, fvs_set] at h
                rw [show ((far v : Int) + 1) = ((far v + 1 : Nat) : Int) by omega]
                exact h
              have hX3 := Lib.hid X3
              have HB2 := Lib.hid hb2
              have hfv : far v ≤ 4096 := by omega
              clear hX2 X3 hb2 Bw hX0 cu fu hgl cv
              go_wp2_with (at_builtin; refine wp_app hX3.out rfl (.tmp 79) (.tmp 81) _ _ _ rfl one_int 0 xs.length cQ AQ _ (.int .i64 (u : Int)) rfl rfl rfl rfl (by omega) (by simp) ?_)
              intro A4 c4 w4 HX4
              have X4 : Hid (Cx w w4 w.heap.size w.heap.size 67 #[.int .i64 N, .int .i64 S, .int .i64 T, .slice (some ⟨bF, oF, none⟩) (N + 1) cF, .slice (some ⟨bH, oH, none⟩) M cH, .slice AR M cR, .slice AC M cC, .slice AA M cA, .slice AB M cB, .func (.func fn) #[] caps]
                  [⟨3, A4, (xs ++ [u]).length, c4, nvs (xs ++ [u])⟩, ⟨3, some ⟨gD, 0, none⟩, N, N, fvs N (nupd far u (far v + 1))⟩] []) := by
                have h := HX4.out
                rw [List.length_append]
                unfold nvs at h ⊢
                rw [List.map_append]
                exact Lib.hid h
              clear HX4 hX3 cu2 fu2 cv2 hgl2
              go_wp2_with fail
              go_roundw
              case rel =>
                refine ⟨a + 1, xs ++ [u], nupd far u (far v + 1), A4, c4, by omega, by omega, by go_num, by rw [List.length_append]; rfl, HB2.out, by rw [List.getElem?_append_left hkx]; exact HV.out, fun a' h1 h2 h3 => ?_, X4.out⟩
                have hvu : v ≠ u := fun e => by
                  subst e
                  exact (HB.out.mem v hvN).2 (List.mem_of_getElem? HV.out) hfu
                rw [nupd_ne hvu]
                by_cases e : a' = a
                · subst e; rw [HU.out, nupd_at]; exact Nat.le_refl _
                · by_cases e2 : hd a' = u
                  · rw [e2, nupd_at]; exact Nat.le_refl _
                  · rw [nupd_ne e2]; exact HPT.out a' h1 (by omega) h3
              case measure => simp [intOf]; omega
          · have hn1 : ¬ (far u : Int) = (N : Int) := by omega
            have hn2 : ((far u : Int) == (N : Int)) = false := beq_false_of_ne hn1
            have hX0 := Lib.hid X
            clear X
            go_wp2_with fail
            go_roundw
            case rel =>
              refine ⟨a + 1, xs, far, AQ, cQ, by omega, by omega, by go_num, rfl, HB.out, HV.out, fun a' h1 h2 h3 => ?_, hX0.out⟩
              by_cases e : a' = a
              · subst e
                rw [HU.out]
                exact HB.out.cap v u HV.out ((HB.out.mem u huN).1 hfu)
              · exact HPT.out a' h1 (by omega) h3
            case measure => simp [intOf]; omega
        · obtain rfl : a = z := by omega
          have hkx := (List.getElem?_eq_some_iff.1 hv).1
          have HB := Lib.hid hb; have HV := Lib.hid hv; have HPT := Lib.hid hpart
          have hX0 := Lib.hid X
          clear hb hv hpart X I
          go_wp2_with fail
          go_roundw
          case rel =>
            refine ⟨k + 1, xs, far, AQ, cQ, by omega, by go_num, rfl, HB.out.next HV.out fun u hu hR => ?_, hX0.out⟩
            obtain ⟨_, _, a', h1, h2, h3, h4⟩ := lk_row HG.out hR
            rw [← h3]
            exact HPT.out a' (by rw [← HFA.out]; exact h1) (by rw [← HZ.out]; exact h2) h4
          case measure => simp [intOf]; omega
    · have hX0 := Lib.hid X
      clear X
      have hnk : ¬ (k : Int) < (xs.length : Int) := by omega
      go_wp2_with fail
      go_ret
      refine ⟨gD, far, rfl, ?_, HB.out.all (by omega), ((hX0.out.held.own 1 _ rfl).lt gD rfl).1, hX0.out.bel⟩
      exact hX0.out.held.ints (i := 1) (by rw [← nvs_ints]; rfl) (tab_len _ _)

end Go.Proofs.Ytnhfdmfciddmaaa
