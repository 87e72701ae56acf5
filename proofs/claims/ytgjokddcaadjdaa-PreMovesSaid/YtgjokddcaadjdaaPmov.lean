/- PreMoves: its closure. -/
import Derived.Test.YtgjokddcaadjdaaPmop
import Derived.Test.YtgjokddcaadjdaaTaio
import Derived.Test.YtgjokddcaadjdaaActo
import Derived.Test.YtgjokddcaadjdaaLongc
import Derived.Test.YtgjokddcaadjdaaPlay
namespace Go.Proofs.Ytgjokddcaadjdaa
open Go.RowKit
set_option maxRecDepth 100000

/-- The row behind these arcs, and behind these vertices too. -/
def mk1 (N : Nat) (hd rv : Nat → Nat) (A V : List Nat) : List Int := (List.range N).map fun v => (mvAt hd rv A V v : Int)
theorem mk1_nil (N : Nat) (hd rv : Nat → Nat) : mk1 N hd rv [] [] = List.replicate N 0 := by
  refine List.ext_getElem (by simp [mk1]) fun i h1 h2 => ?_
  simp [mk1, mvAt, begB]
theorem mk1_at {N v : Nat} {hd rv : Nat → Nat} {A V : List Nat} (hv : v < N) : (mk1 N hd rv A V)[v]? = some (mvAt hd rv A V v : Int) := by simp [mk1, hv]
theorem take_snoc {A : List Nat} {k a : Nat} (h : A[k]? = some a) : A.take (k + 1) = A.take k ++ [a] := by rw [List.take_add_one, h]; rfl
theorem mk1_arc {N a : Nat} {hd rv : Nat → Nat} {A : List Nat} : (mk1 N hd rv A []).set (hd (rv a)) 1 = mk1 N hd rv (A ++ [a]) [] := by
  refine List.ext_getElem (by simp [mk1]) fun i h1 h2 => ?_
  rw [List.getElem_set]
  by_cases h : hd (rv a) = i
  · simp [mk1, mvAt, begB_snoc, h]
  · simp [mk1, mvAt, begB_snoc, h]
theorem mk1_vert {N u : Nat} {hd rv : Nat → Nat} {A V : List Nat} (h : begB hd rv A u = false) : (mk1 N hd rv A V).set u 2 = mk1 N hd rv A (V ++ [u]) := by
  refine List.ext_getElem (by simp [mk1]) fun i h1 h2 => ?_
  rw [List.getElem_set]
  by_cases e : u = i
  · subst e; simp [mk1, mvAt, h]
  · simp [mk1, mvAt, e, Ne.symm e]
/-- What is left of the row behind some of the vertices. -/
def mk2 (N : Nat) (hd rv : Nat → Nat) (A V D : List Nat) : List Int := (List.range N).map fun v => if v ∈ D then 0 else (mvAt hd rv A V v : Int)
theorem mk2_nil {N : Nat} {hd rv : Nat → Nat} {A V : List Nat} : mk2 N hd rv A V [] = mk1 N hd rv A V := by simp [mk2, mk1]
theorem mk2_at {N v : Nat} {hd rv : Nat → Nat} {A V D : List Nat} (hv : v < N) : (mk2 N hd rv A V D)[v]? = some (if v ∈ D then 0 else (mvAt hd rv A V v : Int)) := by simp [mk2, hv]
theorem mk2_set {N u : Nat} {hd rv : Nat → Nat} {A V D : List Nat} : (mk2 N hd rv A V D).set u 0 = mk2 N hd rv A V (D ++ [u]) := by
  refine List.ext_getElem (by simp [mk2]) fun i h1 h2 => ?_
  rw [List.getElem_set]
  by_cases e : u = i
  · subst e; simp [mk2]
  · simp [mk2, e, Ne.symm e]
theorem mk2_all {N : Nat} {hd rv : Nat → Nat} {A V D : List Nat} (h : ∀ v, v < N → v ∉ D → mvAt hd rv A V v = 0) : mk2 N hd rv A V D = List.replicate N 0 := by
  refine List.ext_getElem (by simp [mk2]) fun i h1 h2 => ?_
  simp only [mk2, List.length_map, List.length_range] at h1
  simp only [mk2, List.getElem_map, List.getElem_range, List.getElem_replicate]
  split
  · rfl
  · next hn => rw [h i h1 hn]; rfl
theorem nodup_not {V : List Nat} {k u : Nat} (hV : V.Nodup) (h : V[k]? = some u) : u ∉ V.take k := by
  intro hm
  obtain ⟨i, hi, e⟩ := List.getElem_of_mem hm
  obtain ⟨hk, e'⟩ := List.getElem?_eq_some_iff.1 h
  simp only [List.length_take] at hi
  rw [List.getElem_take] at e
  have := (List.getElem_inj hV).1 (e.trans e'.symm)
  omega

set_option maxHeartbeats 16000000 in
theorem pm1_is (N M s t : Nat) (K : CsrS) (Q0 Q : PreS) (fst hd rv ai : Nat → Nat) (cp : Nat → Int) (bk : Nat → Bool) (X E H : List Int) (w : World) (hG : PNet N M s t fst hd rv ai cp bk) (hI : PIn w w.heap.size N M K fst hd rv ai cp bk)
    (hQ : StIn w w.heap.size M N N Q X E H) (hS : StIs N M s t hd rv cp X E H) :
    Calls Try.prog 30 (#[csrW N M s t K, preW M N N Q0, preW M N N Q] ++ #[]) w fun e w' => e = .returned (.bool true) ∧ Below w.heap.size w w' := by
  have hM := hG.nM; have hN := hG.nN; have hn2 := hG.n2
  have hmay := fun W (hb : Below w.heap.size w W) => may_is N M s t K Q fst hd rv ai cp bk X E H W hG (hI.on hb) (hQ.on hb) hS
  have HG := Lib.hid hG; have HI := Lib.hid hI; have HQ := Lib.hid hQ; have HS := Lib.hid hS; have HM := Lib.hid hmay
  clear hmay
  obtain ⟨AX, cX, AE, cE, AHH, cHH⟩ := Q
  obtain ⟨AX0, cX0, AE0, cE0, AH0, cH0⟩ := Q0
  obtain ⟨AF, cF, AH, cH, AR, cR, AC, cC, AA, cA, AB, cB⟩ := K
  dsimp only [csrW, preW] at HM ⊢
  simp only [Array.append_empty]
  obtain ⟨w1, hw1⟩ : ∃ w1, (((w.alloc (.cells #[.int .i64 (N : Int), .int .i64 (s : Int), .int .i64 (t : Int), .slice AF (N + 1) cF, .slice AH M cH, .slice AR M cR, .slice AC M cC, .slice AA M cA, .slice AB M cB] 32)).alloc (.cells #[.slice AX0 M cX0, .slice AE0 N cE0, .slice AH0 N cH0] 29)).alloc (.cells #[.slice AX M cX, .slice AE N cE, .slice AHH N cHH] 29)) = w1 := ⟨_, rfl⟩
  have B1 : Below w.heap.size w w1 := by rw [← hw1]; exact (((Below.refl _ w).alloc (Nat.le_refl _) _).alloc (by simp) _).alloc (by simp; omega) _
  have HC := Lib.hid (show Blk w1 w.heap.size 32 #[.int .i64 (N : Int), .int .i64 (s : Int), .int .i64 (t : Int), .slice AF (N + 1) cF, .slice AH M cH, .slice AR M cR, .slice AC M cC, .slice AA M cA, .slice AB M cB] by rw [← hw1]; exact ((Blk.new rfl).alloc _).alloc _)
  have HP := Lib.hid (show Blk w1 (w.heap.size + 1 + 1) 29 #[.slice AX M cX, .slice AE N cE, .slice AHH N cHH] by rw [← hw1]; exact Blk.new (by simp))
  obtain ⟨a0, a1, a2, a3, a4, a5, a6, a7, a8⟩ := HC.out.at9
  have hz1 := HC.out.lt
  obtain ⟨⟨p0, p1, p2⟩, -, hz2⟩ := HP.out.full3
  obtain ⟨i2, hi, hz0, hz1, hz2⟩ := info_parts int_info
  have hmi := fun W => run_make_lit (P := Try.prog) 27 3 i2 _ Try.underlying27 hi hz0 N (by rw [hz2]; omega) (by omega) W
  rw [hz1, ivs_made] at hmi
  clear hi hz0 hz1 hz2
  obtain ⟨A, hA⟩ : ∃ A, mayA fst hd rv X H (selTo (actB s t E) N) = A := ⟨_, rfl⟩
  obtain ⟨V, hV⟩ : ∃ V, mayV fst hd rv X H (selTo (actB s t E) N) = V := ⟨_, rfl⟩
  rw [hA, hV] at HM
  have hAl : A.length ≤ M := by rw [← hA, mayA_sel hG.g N (Nat.le_refl _), hG.g.fN]; exact sel_len _ _
  have hVl : V.length ≤ N := by rw [← hV]; exact Nat.le_trans mayV_len (sel_len _ _)
  have HA := Lib.hid hA; have HV := Lib.hid hV
  clear hG hI hQ hS hA hV
  go_enter Try.func30, Try.ntmps30
  go_wp2_with fail
  clear hw1
  refine (HM.out _ B1).mono ?_
  rintro e w2 ⟨A1, d1, A2, d2, rfl, X2⟩
  have B2 := X2.bel
  have C2 := HC.out.below B2 HC.out.lt; have P2 := HP.out.below B2 HP.out.lt
  clear a0 a1 a2 a3 a4 a5 a6 a7 a8 hz1 p0 p1 p2 hz2
  obtain ⟨a0, a1, a2, a3, a4, a5, a6, a7, a8⟩ := C2.at9
  have hz1 := C2.lt
  obtain ⟨⟨p0, p1, p2⟩, -, hz2⟩ := P2.full3
  have h0N : (0 : Int) ≤ (N : Int) := by omega
  have HX2 := Lib.hid X2; have HC2 := Lib.hid C2; have HP2 := Lib.hid P2; have HB1 := Lib.hid B1
  clear X2 C2 P2 B2 B1
  obtain ⟨g, hg⟩ : ∃ g, w2.heap.size = g := ⟨_, rfl⟩
  obtain ⟨w3, hw3⟩ : ∃ w3, w2.alloc (.cells (ivs (List.replicate N 0)) 3) = w3 := ⟨_, rfl⟩
  have G3 : Blk w3 g 3 (ivs (mk1 N hd rv [] [])) := by rw [← hw3, ← hg, mk1_nil]; exact Blk.new rfl
  have B3 : Below g w2 w3 := by rw [← hw3, ← hg]; exact (Below.refl _ w2).alloc (Nat.le_refl _) _
  have HG3 := Lib.hid G3; have HB3 := Lib.hid B3
  clear G3 B3
  go_wp2_with fail
  clear hw3 a0 a1 a2 a3 a4 a5 a6 a7 a8 hz1 p0 p1 p2 hz2 hmi
  go_loopw [11, 12, 13, 14, 15, 16, 36] (fun _ _ _ _ _ _ i wr => ∃ k : Nat, k ≤ A.length ∧ i = .int .i64 k ∧ Blk wr g 3 (ivs (mk1 N hd rv (A.take k) [])) ∧ Below g w2 wr) (fun _ _ _ _ _ _ i _ => A.length - (intOf i).toNat)
  case atStart => exact ⟨0, Nat.zero_le _, rfl, HG3.out, HB3.out⟩
  case round =>
    obtain ⟨k, hk, rfl, Gr, Br⟩ := hrel
    have HGr := Lib.hid Gr; have HBr := Lib.hid Br
    have B2r : Below w2.heap.size w2 wr := by rw [hg]; exact Br
    have Cr := HC2.out.below B2r HC2.out.lt; have Pr := HP2.out.below B2r HP2.out.lt
    obtain ⟨a0, a1, a2, a3, a4, a5, a6, a7, a8⟩ := Cr.at9
    have hz1 := Cr.lt
    obtain ⟨⟨p0, p1, p2⟩, -, hz2⟩ := Pr.full3
    by_cases hlt : k < A.length
    · obtain ⟨a, ha⟩ : ∃ a, A[k]? = some a := ⟨_, List.getElem?_eq_getElem hlt⟩
      have hmem : a ∈ A := List.mem_of_getElem? ha
      have hmem' := hmem
      rw [← HA.out] at hmem'
      obtain ⟨haM, hact, hadm⟩ := (mayA_mem HG.out.g).1 hmem'
      have I1 := (own_nums (HX2.out.held.own 0 _ rfl)).below B2r
      obtain ⟨b1, o1, e1⟩ := I1.adr (by omega)
      subst e1
      obtain ⟨hb1, c1⟩ := I1.cel (k := k) (x := (a : Int)) (by simp [ha])
      have k1 : b1 < wr.heap.size := by have := B2r.size; omega
      have htl := fun W (hb : Below w.heap.size w W) => tail2_yes N M s t a ⟨AF, cF, AH, cH, AR, cR, AC, cC, AA, cA, AB, cB⟩ fst hd rv W HG.out.g (HI.out.gi.on hb) haM
      dsimp only [csrW] at htl
      have HTL := Lib.hid htl
      clear htl I1 Cr Pr Gr Br hmem hmem'
      have Bw := below_step (below_step HB1.out HX2.out.bel) B2r
      have HBw := Lib.hid Bw; have HB2r := Lib.hid B2r
      clear Bw B2r
      go_wp2_with fail
      refine (HTL.out _ HBw.out).mono ?_
      rintro e w7 ⟨rfl, B7⟩
      have Bw7 := below_step HBw.out B7
      have B27 := below_step HB2r.out B7
      have C7 := HC2.out.below B27 HC2.out.lt; have P7 := HP2.out.below B27 HP2.out.lt
      clear a0 a1 a2 a3 a4 a5 a6 a7 a8 p0 p1 p2 hz1 hz2 c1
      obtain ⟨a0, a1, a2, a3, a4, a5, a6, a7, a8⟩ := C7.at9
      have hz1 := C7.lt
      obtain ⟨⟨p0, p1, p2⟩, -, hz2⟩ := P7.full3
      obtain ⟨S', d, -, -, hpush⟩ := push_ok (S := (X, E, H)) HG.out (HI.out.on Bw7) (HQ.out.on Bw7) HS.out haM hact hadm
      dsimp only [csrW, preW] at hpush
      have HPU := Lib.hid hpush; have HB7 := Lib.hid B7; have HB27 := Lib.hid B27; have HBw7 := Lib.hid Bw7
      clear hpush C7 P7 B7 B27 Bw7
      go_wp2_with fail
      refine HPU.out.mono ?_
      rintro e w8 ⟨Q', rfl, X8⟩
      have B8 := below_step HB7.out X8.bel
      have G8 := HGr.out.below B8 HGr.out.lt
      have huN := HG.out.mN haM
      have cm := G8.cell (hd (rv a))
      rw [ivs_at (mk1_at huN)] at cm
      have fm := G8.frozen (hd (rv a))
      have hz8 := G8.lt
      have hx01 : mvAt hd rv (A.take k) [] (hd (rv a)) = 0 ∨ mvAt hd rv (A.take k) [] (hd (rv a)) = 1 := by unfold mvAt; split <;> simp
      obtain ⟨x, hx⟩ : ∃ x, mvAt hd rv (A.take k) [] (hd (rv a)) = x := ⟨_, rfl⟩
      rw [hx] at cm hx01
      have HXX := Lib.hid hx; have HG8 := Lib.hid G8; have HB8 := Lib.hid B8; have HX8 := Lib.hid X8
      clear a0 a1 a2 a3 a4 a5 a6 a7 a8 p0 p1 p2 hz1 hz2 hx G8 B8 X8
      rcases hx01 with rfl | rfl
      · go_wp2_with fail
        refine ⟨⟨k + 1, by omega, by go_num, ?_, ?_⟩, ?_⟩
        · have e := (HG8.out.set (hd (rv a)) (.int .i64 1)).alloc (.cells #[Value.slice Q'.AX M Q'.cX, Value.slice Q'.AE N Q'.cE, Value.slice Q'.AH N Q'.cH] 29)
          rw [ivs_set, mk1_arc, ← take_snoc ha] at e
          exact e
        · exact ((HBr.out.trans (HB8.out.mono (by have := HB2r.out.size; omega))).setCell (Nat.le_refl _) _).alloc (by have := HB2r.out.size; have := HB8.out.size; simp; omega) _
        · simp [intOf]; omega
      · go_wp2_with fail
        refine ⟨⟨k + 1, by omega, by go_num, ?_, ?_⟩, ?_⟩
        · have e := (HG8.out.set (hd (rv a)) (.int .i64 1)).alloc (.cells #[Value.slice Q'.AX M Q'.cX, Value.slice Q'.AE N Q'.cE, Value.slice Q'.AH N Q'.cH] 29)
          rw [ivs_set, mk1_arc, ← take_snoc ha] at e
          exact e
        · exact ((HBr.out.trans (HB8.out.mono (by have := HB2r.out.size; omega))).setCell (Nat.le_refl _) _).alloc (by have := HB2r.out.size; have := HB8.out.size; simp; omega) _
        · simp [intOf]; omega
    · have ek : k = A.length := by omega
      subst ek
      obtain ⟨w4, hw4⟩ : ∃ w4, w4 = wr := ⟨_, rfl⟩
      subst hw4
      have G4 := HGr.out
      rw [List.take_length] at G4
      have HG4 := Lib.hid G4
      clear G4 B2r Gr Br Cr Pr
      go_wp2_with fail
      clear a0 a1 a2 a3 a4 a5 a6 a7 a8 p0 p1 p2 hz1 hz2
      go_loopw [18, 19, 20, 69] (fun _ _ _ i wr => ∃ k : Nat, k ≤ V.length ∧ i = .int .i64 k ∧ Blk wr g 3 (ivs (mk1 N hd rv A (V.take k))) ∧ Below g w2 wr) (fun _ _ _ i _ => V.length - (intOf i).toNat)
      case atStart => exact ⟨0, Nat.zero_le _, rfl, by simpa using HG4.out, HBr.out⟩
      case round =>
        obtain ⟨k, hk, rfl, Gr, Br⟩ := hrel
        have HGr := Lib.hid Gr; have HBr := Lib.hid Br
        have B2r : Below w2.heap.size w2 wr := by rw [hg]; exact Br
        have Cr := HC2.out.below B2r HC2.out.lt; have Pr := HP2.out.below B2r HP2.out.lt
        obtain ⟨a0, a1, a2, a3, a4, a5, a6, a7, a8⟩ := Cr.at9
        have hz1 := Cr.lt
        obtain ⟨⟨p0, p1, p2⟩, -, hz2⟩ := Pr.full3
        by_cases hlt : k < V.length
        · obtain ⟨u, ha⟩ : ∃ u, V[k]? = some u := ⟨_, List.getElem?_eq_getElem hlt⟩
          have hmem : u ∈ V := List.mem_of_getElem? ha
          have hmem' := hmem
          rw [← HV.out] at hmem'
          obtain ⟨huN, hact, hdn⟩ := mayV_mem.1 hmem'
          have hap := mv_apart HG.out.g hmem'
          rw [HA.out] at hap
          have hnd : V.Nodup := by rw [← HV.out]; exact mayV_nodup
          have I1 := (own_nums (HX2.out.held.own 1 _ rfl)).below B2r
          obtain ⟨b1, o1, e1⟩ := I1.adr (by omega)
          subst e1
          obtain ⟨hb1, c1⟩ := I1.cel (k := k) (x := (u : Int)) (by simp [ha])
          have k1 : b1 < wr.heap.size := by have := B2r.size; omega
          have Bw := below_step (below_step HB1.out HX2.out.bel) B2r
          obtain ⟨S', -, -, hlift⟩ := lift_ok (S := (X, E, H)) HG.out (HI.out.on Bw) (HQ.out.on Bw) HS.out huN hact hdn
          dsimp only [csrW, preW] at hlift
          have hx0 : mvAt hd rv A (V.take k) u = 0 := by unfold mvAt; rw [if_neg (by rw [hap]; simp), if_neg (nodup_not hnd ha)]
          have HLI := Lib.hid hlift; have HBw := Lib.hid Bw; have HB2r := Lib.hid B2r; have HAP := Lib.hid hap; have HX0 := Lib.hid hx0
          clear hlift Bw B2r Cr Pr Gr Br I1 hmem hmem' hap hnd hx0
          go_wp2_with fail
          refine HLI.out.mono ?_
          rintro e w8 ⟨Q', rfl, X8⟩
          have B8 := X8.bel
          have G8 := HGr.out.below B8 HGr.out.lt
          have cm := G8.cell u
          rw [ivs_at (mk1_at huN), HX0.out] at cm
          have fm := G8.frozen u
          have hz8 := G8.lt
          have HG8 := Lib.hid G8; have HB8 := Lib.hid B8; have HX8 := Lib.hid X8
          clear a0 a1 a2 a3 a4 a5 a6 a7 a8 p0 p1 p2 hz1 hz2 G8 B8 X8 c1
          go_wp2_with fail
          refine ⟨⟨k + 1, by omega, by go_num, ?_, ?_⟩, ?_⟩
          · have e := (HG8.out.set u (.int .i64 2)).alloc (.cells #[Value.slice Q'.AX M Q'.cX, Value.slice Q'.AE N Q'.cE, Value.slice Q'.AH N Q'.cH] 29)
            rw [ivs_set, mk1_vert (HAP.out), ← take_snoc ha] at e
            exact e
          · exact ((HBr.out.trans (HB8.out.mono (by have := HB2r.out.size; omega))).setCell (Nat.le_refl _) _).alloc (by have := HB2r.out.size; have := HB8.out.size; simp; omega) _
          · simp [intOf]; omega
        · have ek : k = V.length := by omega
          subst ek
          obtain ⟨w5, hw5⟩ : ∃ w5, w5 = wr := ⟨_, rfl⟩
          subst hw5
          have G5 := HGr.out
          rw [List.take_length, ← mk2_nil] at G5
          have Bw := below_step (below_step HB1.out HX2.out.bel) B2r
          have e0 : activeTo s t N M M N N E = selTo (actB s t E) N := if_pos ⟨rfl, rfl, rfl⟩
          have hac := active_is N M s t M N N ⟨AF, cF, AH, cH, AR, cR, AC, cC, AA, cA, AB, cB⟩ ⟨AX, cX, AE, cE, AHH, cHH⟩ fst hd rv X E H w5 HG.out.g (HI.out.gi.on Bw) (HQ.out.on Bw) HG.out.hs HG.out.ht (by omega) hN
          dsimp only [csrW, preW] at hac
          rw [e0] at hac
          obtain ⟨L, hL⟩ : ∃ L, selTo (actB s t E) N = L := ⟨_, rfl⟩
          rw [hL] at hac
          have hLl : L.length ≤ N := by rw [← hL]; exact sel_len _ _
          have HAC := Lib.hid hac; have HL := Lib.hid hL; have HG5 := Lib.hid G5
          clear G5 B2r Gr Br Cr Pr hac hL e0 Bw
          go_wp2_with fail
          refine HAC.out.mono ?_
          rintro e w6 ⟨A3, c3, rfl, hrow, B6⟩
          have I6 := own_nums hrow
          have hne3 : ∀ a, A3 = some a → a.block ≠ g := by
            rintro a rfl
            rcases hrow.2 with ⟨h0, -⟩ | ⟨g', cap, cur, hv, hb, -⟩
            · cases h0
            · injection hv with hA
              injection hA with hA
              subst hA
              have := HG5.out.lt
              exact fun h => by simp only at h; omega
          have HG6 := Lib.hid (HG5.out.below B6 HG5.out.lt)
          have HB6 := Lib.hid (HBr.out.trans (B6.mono (Nat.le_of_lt HG5.out.lt)))
          have HI6 := Lib.hid I6; have HNE := Lib.hid hne3
          clear a0 a1 a2 a3 a4 a5 a6 a7 a8 p0 p1 p2 hz1 hz2 B6 hrow I6 hne3
          go_wp2_with fail
          go_loopw [22, 93] (fun _ i wr => ∃ k : Nat, k ≤ L.length ∧ i = .int .i64 k ∧ Blk wr g 3 (ivs (mk2 N hd rv A V (L.take k))) ∧ Below g w2 wr ∧ Ints wr w6.heap.size A3 L.length (L.map fun v : Nat => (v : Int))) (fun _ i _ => L.length - (intOf i).toNat)
          case atStart => exact ⟨0, Nat.zero_le _, rfl, by simpa using HG6.out, HB6.out, HI6.out⟩
          case round =>
            obtain ⟨k, hk, rfl, Gr, Br, I1⟩ := hrel
            have HGr := Lib.hid Gr; have HBr := Lib.hid Br; have HI1 := Lib.hid I1
            by_cases hlt : k < L.length
            · obtain ⟨u, ha⟩ : ∃ u, L[k]? = some u := ⟨_, List.getElem?_eq_getElem hlt⟩
              have hmem : u ∈ L := List.mem_of_getElem? ha
              rw [← HL.out] at hmem
              obtain ⟨huN, hact⟩ := sel_mem.1 hmem
              have hnd : L.Nodup := by rw [← HL.out]; exact sel_nodup
              have hno := nodup_not hnd ha
              have hx12 := mv_yes (X := X) (H := H) (p := actB s t E) HG.out.g huN hact
              rw [HA.out, HV.out] at hx12
              obtain ⟨b1, o1, e1⟩ := I1.adr (by omega)
              subst e1
              obtain ⟨hb1, c1⟩ := I1.cel (k := k) (x := (u : Int)) (by simp [ha])
              have cm := Gr.cell u
              rw [ivs_at (mk2_at huN), if_neg hno] at cm
              have fm := Gr.frozen u
              have hz8 := Gr.lt
              obtain ⟨x, hx⟩ : ∃ x, mvAt hd rv A V u = x := ⟨_, rfl⟩
              rw [hx] at cm hx12
              clear Gr Br I1 hmem hnd hno hx
              rcases hx12 with rfl | rfl
              · go_wp2_with fail
                refine ⟨⟨k + 1, by omega, by go_num, ?_, ?_, ?_⟩, ?_⟩
                · have e := HGr.out.set u (.int .i64 0)
                  rw [ivs_set, mk2_set, ← take_snoc ha] at e
                  exact e
                · exact HBr.out.setCell (Nat.le_refl _) _
                · exact HI1.out.farB HNE.out u _
                · simp [intOf]; omega
              · go_wp2_with fail
                refine ⟨⟨k + 1, by omega, by go_num, ?_, ?_, ?_⟩, ?_⟩
                · have e := HGr.out.set u (.int .i64 0)
                  rw [ivs_set, mk2_set, ← take_snoc ha] at e
                  exact e
                · exact HBr.out.setCell (Nat.le_refl _) _
                · exact HI1.out.farB HNE.out u _
                · simp [intOf]; omega
            · have ek : k = L.length := by omega
              subst ek
              obtain ⟨w7, hw7⟩ : ∃ w7, w7 = wr := ⟨_, rfl⟩
              subst hw7
              have hz : ∀ v, v < N → v ∉ L → mvAt hd rv A V v = 0 := fun v hv hn => by
                rw [← HA.out, ← HV.out]
                refine mv_no HG.out.g hv ?_
                rw [← Bool.not_eq_true]
                intro h
                exact hn (by rw [← HL.out]; exact sel_mem.2 ⟨hv, h⟩)
              have G7 := HGr.out
              rw [List.take_length, mk2_all hz] at G7
              have hz7 := G7.lt
              have HG7 := Lib.hid G7
              have B7 := below_step (below_step HB1.out HX2.out.bel) (hg.symm ▸ HBr.out)
              have HB7 := Lib.hid B7
              clear Gr Br I1 hz G7 B7
              go_wp2_with fail
              go_loopw [24, 115] (fun _ i wr => ∃ k : Nat, k ≤ N ∧ i = .int .i64 k ∧ wr = w7) (fun _ i _ => N - (intOf i).toNat)
              case atStart => exact ⟨0, Nat.zero_le _, rfl, rfl⟩
              case round =>
                obtain ⟨k, hk, rfl, rfl⟩ := hrel
                by_cases hlt : k < N
                · have cm := HG7.out.iat (i := k) (x := 0) (by simp [hlt])
                  go_wp2_with fail
                  refine ⟨⟨k + 1, by omega, by go_num, trivial⟩, ?_⟩
                  simp [intOf]; omega
                · go_wp2_with fail
                  go_ret
                  exact ⟨rfl, HB7.out⟩

end Go.Proofs.Ytgjokddcaadjdaa
