/- Layer 7: rightHeight: may a vertex be as high as it is? -/
import Derived.Test.YtgjokddcaadjdaaAdmo
namespace Go.Proofs.Ytgjokddcaadjdaa
open Go.RowKit Go.Shelf
set_option maxRecDepth 100000
attribute [local go_sem] Oper.semAt_some

def plus1 (y : Int) : Int := IntKind.i64.wrap (y + 1)
/-- v is no lower than 0, lower than 2N, and no more than one above each end of its open residual arcs. -/
def RhOk (N : Nat) (fst hd : Nat → Nat) (X H : List Int) (v : Nat) : Prop := 0 ≤ hOf H v ∧ hOf H v < 2 * N ∧ ∀ a, fst v ≤ a → a < fst (v + 1) → opn X a = true → hOf H v ≤ plus1 (hOf H (hd a))
def RhTo (hd : Nat → Nat) (H : List Int) {fst : Nat → Nat} {v : Nat} (pre : List (RowAt fst v)) : Prop := ∀ x ∈ pre, hOf H v ≤ plus1 (hOf H (hd x.1))

set_option maxHeartbeats 8000000 in
theorem rh_is (N M s t v nE : Nat) (K : CsrS) (Q : PreS) (fst hd rv : Nat → Nat) (X E H : List Int) (w : World) (hG : Grid N M fst hd rv) (hI : GridIn w w.heap.size N M K fst hd rv) (hQ : StIn w w.heap.size M nE N Q X E H) (hv : v < N) (hM : M ≤ 100000000) (hN : N ≤ 4096) (hR : ∀ x ∈ H, InR x) (r : Bool) (hr : r = true ↔ RhOk N fst hd X H v) :
    Calls Try.prog 53 #[csrW N M s t K, preW M nE N Q, .int .i64 (v : Int)] w fun e w' => e = .returned (.bool r) ∧ Below w.heap.size w w' := by
  have HG := Lib.hid hG; have HI := Lib.hid hI; have HQ := Lib.hid hQ; have HHH := Lib.hid hR; have HRR := Lib.hid hr
  have hready := fun w1 w2 hw => open_ready w.heap.size N M s t v nE N K Q fst hd rv X E H (fun k => k = w.heap.size + 1 + 1 + 1) w1 w2 hw hG
  have HR := Lib.hid hready
  have hopen := open_is N M s t K M nE N Q v
  have HO := Lib.hid hopen
  obtain ⟨AF, cF, AH, cH, AR, cR, AC, cC, AA, cA, AB, cB⟩ := K
  obtain ⟨AX, cX, AE, cE, AHH, cHH⟩ := Q
  dsimp only [csrW, preW] at HR HO ⊢
  clear hG hready hopen hR hr
  obtain ⟨bA, oA, hAa⟩ := hQ.iH.adr (by omega)
  dsimp only at hAa
  subst hAa
  obtain ⟨hbA, cv⟩ := hQ.iH.cel (hOf_get hQ.iH.len hv)
  clear hI hQ
  have hw2 : IntKind.i64.wrap (2 * (N : Int)) = 2 * (N : Int) := wrap_in (by omega) (by omega)
  refine (callsIn_wide (n := 3)).1 ?_
  refine callsIn_of_wp_marks Try.func53 rfl trivial ?_ rfl
  simp only [Try.ntmps53, List.size_toArray, List.length_cons, List.length_nil, Nat.reduceAdd, Nat.reduceSub, Array.replicate_succ, Array.replicate_zero, List.push_toArray, List.append_toArray, List.nil_append, List.cons_append]
  obtain ⟨z, hz⟩ : ∃ z, hOf H v = z := ⟨_, rfl⟩
  have HZ := Lib.hid hz
  rw [hz] at cv
  clear hz
  gi_wp2
  obtain ⟨w1, hw1⟩ : ∃ w1, ((((w.alloc (.cells #[.int .i64 (N : Int), .int .i64 (s : Int), .int .i64 (t : Int), .slice AF (N + 1) cF, .slice AH M cH, .slice AR M cR, .slice AC M cC, .slice AA M cA, .slice AB M cB] 32)).alloc (.cells #[.slice AX M cX, .slice AE nE cE, .slice (some ⟨bA, oA, none⟩) N cHH] 29)).alloc (.cells #[.int .i64 (v : Int)] 3)).alloc (.cells #[.bool false] 4)) = w1 := ⟨_, rfl⟩
  have B1 : Below w.heap.size w w1 := by rw [← hw1]; exact ((((Below.refl _ w).alloc (Nat.le_refl _) _).alloc (by simp) _).alloc (by simp; omega) _).alloc (by simp; omega) _
  have S1 : w1.heap.size = w.heap.size + 4 := by rw [← hw1]; simp
  have C1 : Blk w1 w.heap.size 32 #[.int .i64 (N : Int), .int .i64 (s : Int), .int .i64 (t : Int), .slice AF (N + 1) cF, .slice AH M cH, .slice AR M cR, .slice AC M cC, .slice AA M cA, .slice AB M cB] := by rw [← hw1]; exact (((Blk.new rfl).alloc _).alloc _).alloc _
  have P1 : Blk w1 (w.heap.size + 1) 29 #[.slice AX M cX, .slice AE nE cE, .slice (some ⟨bA, oA, none⟩) N cHH] := by rw [← hw1]; exact ((Blk.new (by simp)).alloc _).alloc _
  have L1 : Blk w1 (w.heap.size + 1 + 1) 3 #[.int .i64 (v : Int)] := by rw [← hw1]; exact (Blk.new (by simp)).alloc _
  have D1 : Blk w1 (w.heap.size + 1 + 1 + 1) 4 #[.bool false] := by rw [← hw1]; exact Blk.new (by simp)
  rw [hw1]
  clear hw1
  have cv1 : w1.cell? ⟨bA, oA + v, none⟩ = some (.int .i64 z) := (B1.cell (by simpa using hbA)).trans cv
  obtain ⟨a0, a1, a2, a3, a4, a5, a6, a7, a8⟩ := C1.at9
  have p0 := P1.cell 0; have p1 := P1.cell 1; have p2 := P1.cell 2; have l0 := L1.cell 0; have d0 := D1.cell 0
  simp only [List.getElem?_toArray, List.getElem?_cons_zero, List.getElem?_cons_succ] at p0 p1 p2 l0 d0
  have df := D1.frozen 0
  have hz1 := C1.lt; have hz2 := P1.lt; have hz3 := L1.lt; have hz4 := D1.lt
  have HS1 := Lib.hid S1; have HC1 := Lib.hid C1; have HP1 := Lib.hid P1; have HL1 := Lib.hid L1; have HD1 := Lib.hid D1; have HB1 := Lib.hid B1
  clear cv S1 C1 P1 L1 D1 B1
  by_cases h0 : z < 0
  · have hrf : r = false := by
      cases r with
      | false => rfl
      | true => have := (HRR.out.1 rfl).1; have := HZ.out; omega
    subst hrf
    refine wpIn_region_split 17 rfl rfl (by kernel_rfl) (by kernel_rfl) (by kernel_rfl) ?_
    simp only [List.take_succ_cons, List.take_zero, List.drop_succ_cons, List.drop_zero]
    repeat (gi_big_quiet_step (fail))
    refine wpQuietIn_nil ?_
    rintro _ ⟨nq, rfl⟩
    gi_wp2
    have r1 := ((HD1.out.drewN nq).set 0 (.bool false)).cell 0
    have r2 : ((w1.drewN nq).setCell ⟨w.heap.size + 1 + 1 + 1, 0, none⟩ (.bool false)).cell? ⟨w.heap.size + 1 + 1 + 1, 0, none⟩ = some (.bool false) := r1
    refine ⟨.bool false, ?_, rfl, (below_drewN' HB1.out nq).setCell (p := ⟨w.heap.size + 1 + 1 + 1, 0, none⟩) (by simp; omega) _⟩
    simp [results, Try.results53, go_sem, r2]
  by_cases h2 : z < 2 * N
  · have h2' : decide (2 * (N : Int) ≤ z) = false := decide_eq_false (by omega)
    have h0' : decide (z < 0) = false := decide_eq_false h0
    refine wpIn_region_split 17 rfl rfl (by kernel_rfl) (by kernel_rfl) (by kernel_rfl) ?_
    simp only [List.take_succ_cons, List.take_zero, List.drop_succ_cons, List.drop_zero]
    repeat (gi_big_quiet_step (fail))
    refine wpQuietIn_nil ?_
    rintro _ ⟨nq, rfl⟩
    gi_wp2
    refine ⟨trivial, (callsIn_wide.2 (HO.out _)).mono ?_⟩
    rintro e w2 ⟨rfl, hw2'⟩
    obtain ⟨w3, hw3⟩ : ∃ w3, w1.drewN nq = w3 := ⟨_, rfl⟩
    have B3 : Below w.heap.size w w3 := by rw [← hw3]; exact below_drewN' HB1.out nq
    have S3 : w3.heap.size = w.heap.size + 4 := by rw [← hw3]; exact HS1.out
    have C3 : Blk w3 w.heap.size 32 #[.int .i64 (N : Int), .int .i64 (s : Int), .int .i64 (t : Int), .slice AF (N + 1) cF, .slice AH M cH, .slice AR M cR, .slice AC M cC, .slice AA M cA, .slice AB M cB] := by rw [← hw3]; exact HC1.out
    have P3 : Blk w3 (w.heap.size + 1) 29 #[.slice AX M cX, .slice AE nE cE, .slice (some ⟨bA, oA, none⟩) N cHH] := by rw [← hw3]; exact HP1.out
    have L3 : Blk w3 (w.heap.size + 1 + 1) 3 #[.int .i64 (v : Int)] := by rw [← hw3]; exact HL1.out
    have D3 : Blk w3 (w.heap.size + 1 + 1 + 1) 4 #[.bool false] := by rw [← hw3]; exact HD1.out
    rw [hw3] at hw2' ⊢
    obtain ⟨hf, S2, B2⟩ := HR.out w3 w2 hw2' (HI.out.below B3) (HQ.out.below B3) (by omega) hv hM hN (by rintro k rfl; omega)
    have C2 := C3.below B2 C3.lt; have P2 := P3.below B2 P3.lt; have L2 := L3.below B2 L3.lt; have D2 := D3.below B2 D3.lt
    have Bw := below_step B3 B2
    have HS3 := Lib.hid S3; have HS2 := Lib.hid S2
    clear hw2' C3 P3 L3 D3 B2 S2 S3 hw3 a0 a1 a2 a3 a4 a5 a6 a7 a8 p0 p1 p2 l0 d0 df hz1 hz2 hz3 hz4 HC1 HP1 HL1 HD1 HB1 cv1 B3
    gi_wp2
    refine range_go (n := 3) (gf := 97) (lb := #[.pointer (some ⟨w3.heap.size, 0, none⟩), .pointer (some ⟨w3.heap.size + 1 + 1, 0, none⟩), .pointer (some ⟨w3.heap.size + 1, 0, none⟩)]) rfl (enters_of Try.func97 (by kernel_rfl) rfl)
      hf Kps.trans (fun W _ o' _ => popen_put W o') (fun _ => rfl)
      (fun pre W => ((Blk W (w.heap.size + 1 + 1 + 1) 4 #[.bool false] ∧ RhTo hd H pre) ∧
        (Blk W w.heap.size 32 #[.int .i64 (N : Int), .int .i64 (s : Int), .int .i64 (t : Int), .slice AF (N + 1) cF, .slice AH M cH, .slice AR M cR, .slice AC M cC, .slice AA M cA, .slice AB M cB] ∧ Blk W (w.heap.size + 1) 29 #[.slice AX M cX, .slice AE nE cE, .slice (some ⟨bA, oA, none⟩) N cHH] ∧ Blk W (w.heap.size + 1 + 1) 3 #[.int .i64 (v : Int)])) ∧ Below w.heap.size w W)
      (fun pre W => (Blk W (w.heap.size + 1 + 1 + 1) 4 #[.bool false] ∧ ¬ RhTo hd H pre) ∧ Below w.heap.size w W)
      (OwnFrom.and (OwnFrom.and (OwnFrom.and (ownFrom_blk _ _ _ _) (ownFrom_pure _ fun pre => RhTo hd H pre)) (OwnFrom.and (ownFrom_blk _ _ _ _) (OwnFrom.and (ownFrom_blk _ _ _ _) (ownFrom_blk _ _ _ _)))) (ownFrom_below (Nat.le_refl _) Bw.size))
      (OwnFrom.and (OwnFrom.and (ownFrom_blk _ _ _ _) (ownFrom_pure _ fun pre => ¬ RhTo hd H pre)) (ownFrom_below (Nat.le_refl _) Bw.size))
      ⟨⟨⟨D2, fun _ h => (by cases h)⟩, C2, P2, L2⟩, Bw⟩
      ?round ?done ?stop
    case round =>
      clear C2 P2 L2 D2 Bw hf
      rintro l pre ⟨a, ha⟩ W0
      unfold tellR
      gi_wp2
      refine ⟨trivial, ?_⟩
      rintro W ⟨⟨⟨D3, hto⟩, C3, P3, L3⟩, B3⟩ hlen h5
      have hfl := HG.out.fle (v := v + 1) (by omega)
      have haM : a < M := by omega
      have I3 := HI.out.below B3
      have Q3 := HQ.out.below B3
      obtain ⟨bH, oH, hHa⟩ := I3.iH.adr (by omega)
      dsimp only at hHa
      subst hHa
      obtain ⟨hbH, ch⟩ := tab_cell I3.iH haM
      have hdN := HG.out.hdl a haM
      obtain ⟨-, ca⟩ := Q3.iH.cel (hOf_get Q3.iH.len hdN)
      obtain ⟨-, cv⟩ := Q3.iH.cel (hOf_get Q3.iH.len hv)
      obtain ⟨a0, a1, a2, a3, a4, a5, a6, a7, a8⟩ := C3.at9
      have p0 := P3.cell 0; have p1 := P3.cell 1; have p2 := P3.cell 2
      have l0 := L3.cell 0
      have d0 := D3.cell 0
      simp only [List.getElem?_toArray, List.getElem?_cons_zero, List.getElem?_cons_succ] at p0 p1 p2 l0 d0
      have df := D3.frozen 0
      have hz := B3.size; have hz1 := C3.lt; have hz2 := P3.lt; have hz3 := L3.lt; have hz4 := D3.lt
      have yes : hOf H v ≤ plus1 (hOf H (hd a)) → RhTo hd H (pre ++ [(⟨a, ha⟩ : RowAt fst v)]) := fun h x hx => by
        rcases List.mem_append.1 hx with hx | hx
        · exact hto x hx
        · simp at hx; subst hx; exact h
      have no : ¬ hOf H v ≤ plus1 (hOf H (hd a)) → ¬ RhTo hd H (pre ++ [(⟨a, ha⟩ : RowAt fst v)]) := fun h h' => h (h' ⟨a, ha⟩ (by simp))
      have HY := Lib.hid yes; have HNO := Lib.hid no
      rw [HZ.out] at cv HY HNO
      clear yes no hto
      obtain ⟨p, hp⟩ : ∃ p, hd a = p := ⟨_, rfl⟩
      simp only [hp] at ch ca hdN HY HNO
      obtain ⟨y, hy⟩ : ∃ y, hOf H p = y := ⟨_, rfl⟩
      simp only [hy] at ca HY HNO
      obtain ⟨q, hq⟩ : ∃ q, plus1 y = q := ⟨_, rfl⟩
      simp only [hq] at HY HNO
      have hwq : IntKind.i64.wrap (y + 1) = q := hq
      have HC3 := Lib.hid C3; have HP3 := Lib.hid P3; have HL3 := Lib.hid L3; have HB3 := Lib.hid B3; have HD3 := Lib.hid D3
      clear hp hy I3 Q3 D3 C3 P3 B3 L3 hlen h5 hq
      have hs1 := HS3.out; have hs2 := HS2.out
      have HSA := Lib.hid hs1; have HSB := Lib.hid hs2
      clear hs1 hs2
      by_cases hl : z ≤ q
      · have hl' : decide (q < z) = false := decide_eq_false (by omega)
        gi_wp2
        refine wpIn_region_split 16 rfl rfl (by kernel_rfl) (by kernel_rfl) (by kernel_rfl) ?_
        simp only [List.take_succ_cons, List.take_zero, List.drop_succ_cons, List.drop_zero]
        repeat (gi_big_quiet_step (fail))
        refine wpQuietIn_nil ?_
        rintro _ ⟨nq, rfl⟩
        gi_wp2
        exact rec_go ((others_drew W nq).from _) (kps_drew W nq) ⟨⟨⟨HD3.out.drewN nq, HY.out hl⟩, HC3.out.drewN nq, HP3.out.drewN nq, HL3.out.drewN nq⟩, below_drewN' HB3.out nq⟩
      · have hl' : q < z := by omega
        gi_wp2
        refine wpIn_region_split 16 rfl rfl (by kernel_rfl) (by kernel_rfl) (by kernel_rfl) ?_
        simp only [List.take_succ_cons, List.take_zero, List.drop_succ_cons, List.drop_zero]
        repeat (gi_big_quiet_step (fail))
        refine wpQuietIn_nil ?_
        rintro _ ⟨nq, rfl⟩
        gi_wp2
        exact rec_ret (((others_drew W nq).trans (KeepsOthers.setCell _ _ _)).from _) ((kps_drew W nq).trans (popen_set rfl (by have := HSA.out; have := HSB.out; omega))) ⟨⟨(HD3.out.drewN nq).set 0 _, HNO.out hl⟩, (below_drewN' HB3.out nq).setCell (by simp; omega) _⟩
    case done =>
      rintro D xs W hD rfl ⟨⟨⟨D3, hto⟩, -⟩, B3⟩ hDef
      have hrt : r = true := HRR.out.2 ⟨by rw [HZ.out]; omega, by rw [HZ.out]; omega, fun a h1 h3 h4 => hto ⟨a, h1, h3⟩ (rowIf_mem.2 ⟨(show a < fst v + (fst (v + 1) - fst v) by omega), h4⟩)⟩
      subst hrt
      have df := D3.frozen 0
      have d0 := D3.cell 0
      simp only [List.getElem?_toArray, List.getElem?_cons_zero] at d0
      have hz4 := D3.lt
      clear C2 P2 L2 D2 Bw hf hto
      gi_wp2
      have hDef' := (KeepsOthers.setCell W ⟨w.heap.size + 1 + 1 + 1, 0, none⟩ (.bool true)).same D _ hDef rfl
      refine ⟨by simp, .inl ⟨_, _, rfl, run_takeDeferred hDef', ?_⟩⟩
      have r1 := (D3.set 0 (.bool true)).cell 0
      have hc5 := cell_kept r1 (grownBy_putObj' _ D (.deferred none)) (fun r e => by cases e; exact ⟨_, hDef', rfl⟩)
      refine ⟨.bool true, ?_, rfl, rch_drop (B3.setCell (p := ⟨w.heap.size + 1 + 1 + 1, 0, none⟩) (by simp; omega) _) (by have := HS3.out; have := HS2.out; omega) hDef' rfl rfl⟩
      simp [results, Try.results53, go_sem, hc5]
    case stop =>
      rintro D pre W hD ⟨k, hk, rfl⟩ ⟨⟨D3, hto⟩, B3⟩ hDef
      have hrf : r = false := by
        cases r with
        | false => rfl
        | true => exact absurd (show RhTo hd H (rowIf fst v (opn X) k) from fun x hx => (HRR.out.1 rfl).2.2 x.1 x.2.1 x.2.2 (rowIf_mem.1 hx).2) hto
      subst hrf
      have d0 := D3.cell 0
      simp only [List.getElem?_toArray, List.getElem?_cons_zero] at d0
      clear C2 P2 L2 D2 Bw hf hto
      gi_wp2
      refine ⟨by simp, .inl ⟨_, _, rfl, run_takeDeferred hDef, ?_⟩⟩
      have hc5 := cell_kept d0 (grownBy_putObj' _ D (.deferred none)) (fun r e => by cases e; exact ⟨_, hDef, rfl⟩)
      refine ⟨.bool false, ?_, rfl, rch_drop B3 (by have := HS3.out; have := HS2.out; omega) hDef rfl rfl⟩
      simp [results, Try.results53, go_sem, hc5]
  · have hrf : r = false := by
      cases r with
      | false => rfl
      | true => have := (HRR.out.1 rfl).2.1; have := HZ.out; omega
    subst hrf
    have h0' : decide (z < 0) = false := decide_eq_false h0
    have h2' : 2 * (N : Int) ≤ z := by omega
    refine wpIn_region_split 17 rfl rfl (by kernel_rfl) (by kernel_rfl) (by kernel_rfl) ?_
    simp only [List.take_succ_cons, List.take_zero, List.drop_succ_cons, List.drop_zero]
    repeat (gi_big_quiet_step (fail))
    refine wpQuietIn_nil ?_
    rintro _ ⟨nq, rfl⟩
    gi_wp2
    have r1 := ((HD1.out.drewN nq).set 0 (.bool false)).cell 0
    have r2 : ((w1.drewN nq).setCell ⟨w.heap.size + 1 + 1 + 1, 0, none⟩ (.bool false)).cell? ⟨w.heap.size + 1 + 1 + 1, 0, none⟩ = some (.bool false) := r1
    refine ⟨.bool false, ?_, rfl, (below_drewN' HB1.out nq).setCell (p := ⟨w.heap.size + 1 + 1 + 1, 0, none⟩) (by simp; omega) _⟩
    simp [results, Try.results53, go_sem, r2]

end Go.Proofs.Ytgjokddcaadjdaa
