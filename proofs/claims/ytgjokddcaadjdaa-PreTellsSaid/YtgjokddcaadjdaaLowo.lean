/- Layer 7: lowest: the least height of the ends of the open residual arcs of a vertex. -/
import Derived.Test.YtgjokddcaadjdaaOpeno
namespace Go.Proofs.Ytgjokddcaadjdaa
open Go.RowKit Go.Shelf
set_option maxRecDepth 100000
attribute [local go_sem] Oper.semAt_some

/-- The least so far. -/
structure LeastTo (fst hd : Nat → Nat) (H : List Int) (v : Nat) (pre : List (RowAt fst v)) (x : Int) (ok : Bool) : Prop where
  no : ok = false → pre = [] ∧ x = 0
  le : ∀ a ∈ pre, x ≤ hOf H (hd a.1)
  is : ok = true → ∃ a ∈ pre, x = hOf H (hd a.1)
section
variable {fst hd : Nat → Nat} {H : List Int} {v : Nat} {pre : List (RowAt fst v)} {x : Int} {ok : Bool} {a : RowAt fst v}
theorem LeastTo.start : LeastTo fst hd H v [] 0 false := ⟨fun _ => ⟨rfl, rfl⟩, fun _ h => (by cases h), fun h => (by cases h)⟩
theorem LeastTo.first (h : LeastTo fst hd H v pre x false) : LeastTo fst hd H v (pre ++ [a]) (hOf H (hd a.1)) true := by
  obtain ⟨rfl, -⟩ := h.no rfl
  exact ⟨fun h => (by cases h), fun b hb => (by simp at hb; subst hb; exact Int.le_refl _), fun _ => ⟨a, by simp, rfl⟩⟩
theorem LeastTo.less (h : LeastTo fst hd H v pre x ok) (hl : hOf H (hd a.1) < x) : LeastTo fst hd H v (pre ++ [a]) (hOf H (hd a.1)) true :=
  ⟨fun h => (by cases h), fun b hb => (by
    rcases List.mem_append.1 hb with hb | hb
    · have := h.le b hb; omega
    · simp at hb; subst hb; exact Int.le_refl _), fun _ => ⟨a, by simp, rfl⟩⟩
theorem LeastTo.keep (h : LeastTo fst hd H v pre x true) (hl : ¬ hOf H (hd a.1) < x) : LeastTo fst hd H v (pre ++ [a]) x true :=
  ⟨fun h => (by cases h), fun b hb => (by
    rcases List.mem_append.1 hb with hb | hb
    · exact h.le b hb
    · simp at hb; subst hb; omega), fun _ => (by
      obtain ⟨b, hb, e⟩ := h.is rfl
      exact ⟨b, List.mem_append.2 (.inl hb), e⟩)⟩
end
theorem rowIf_congr {fst : Nat → Nat} {v : Nat} {p q : Nat → Bool} (h : ∀ a, fst v ≤ a → a < fst (v + 1) → p a = q a) : ∀ {k}, rowIf fst v p k = rowIf fst v q k
  | 0 => rfl
  | k + 1 => by
    simp only [rowIf, rowIf_congr h (k := k)]
    congr 1
    by_cases h1 : fst v + k < fst (v + 1)
    · have e := h (fst v + k) (by omega) h1
      by_cases h2 : q (fst v + k) = true
      · rw [dif_pos ⟨h1, by rw [e]; exact h2⟩, dif_pos ⟨h1, h2⟩]
      · rw [dif_neg (fun h' => h2 (by rw [← e]; exact h'.2)), dif_neg (fun h' => h2 h'.2)]
    · rw [dif_neg (fun h' => h1 h'.1), dif_neg (fun h' => h1 h'.1)]
theorem rowIf_mem {fst : Nat → Nat} {v : Nat} {p : Nat → Bool} {a : RowAt fst v} : ∀ {k}, a ∈ rowIf fst v p k ↔ a.1 < fst v + k ∧ p a.1 = true
  | 0 => by simp [rowIf]; intro h; have := a.2; omega
  | k + 1 => by
    simp only [rowIf, List.mem_append, rowIf_mem (k := k)]
    by_cases h : fst v + k < fst (v + 1) ∧ p (fst v + k) = true
    · rw [dif_pos h, List.mem_singleton]
      constructor
      · rintro (⟨h1, h2⟩ | rfl)
        · exact ⟨by omega, h2⟩
        · exact ⟨by simp, h.2⟩
      · rintro ⟨h1, h2⟩
        by_cases e : a.1 = fst v + k
        · exact .inr (Subtype.ext e)
        · exact .inl ⟨by omega, h2⟩
    · rw [dif_neg h]
      simp only [List.not_mem_nil, or_false]
      constructor
      · rintro ⟨h1, h2⟩; exact ⟨by omega, h2⟩
      · rintro ⟨h1, h2⟩
        refine ⟨?_, h2⟩
        by_cases e : a.1 = fst v + k
        · exact absurd ⟨by have := a.2; omega, by rw [← e]; exact h2⟩ h
        · omega

def LowSt (fst hd : Nat → Nat) (H : List Int) (v g1 g2 : Nat) (pre : List (RowAt fst v)) (W : World) : Prop := ∃ x, ∃ ok, (Blk W g1 3 #[.int .i64 x] ∧ Blk W g2 4 #[.bool ok]) ∧ LeastTo fst hd H v pre x ok
theorem lowSt_own (B : Nat) (fst hd : Nat → Nat) (H : List Int) (v g1 g2 : Nat) : OwnFrom B (LowSt fst hd H v g1 g2) :=
  ownFrom_ex fun x => ownFrom_ex fun ok => OwnFrom.and (OwnFrom.and (ownFrom_blk _ _ _ _) (ownFrom_blk _ _ _ _)) (ownFrom_pure _ fun pre => LeastTo fst hd H v pre x ok)
def RetLst (Pr : Int → Bool → Prop) (w : World) (e : Ending) (w' : World) : Prop := ∃ (x : Int) (ok : Bool), e = .returned (.tuple #[.int .i64 x, .bool ok]) ∧ Pr x ok ∧ Below w.heap.size w w'

set_option maxHeartbeats 8000000 in
theorem lowest_is (N M s t v nE : Nat) (K : CsrS) (Q : PreS) (fst hd rv : Nat → Nat) (X E H : List Int) (w : World) (hG : Grid N M fst hd rv) (hI : GridIn w w.heap.size N M K fst hd rv) (hQ : StIn w w.heap.size M nE N Q X E H) (hv : v < N) (hM : M ≤ 100000000) (hN : N ≤ 4096) :
    Calls Try.prog 62 #[csrW N M s t K, preW M nE N Q, .int .i64 (v : Int)] w (RetLst (LeastTo fst hd H v (rowIf fst v (opn X) (fst (v + 1) - fst v))) w) := by
  have HG := Lib.hid hG; have HI := Lib.hid hI; have HQ := Lib.hid hQ
  have hready := fun w1 w2 hw => open_ready w.heap.size N M s t v nE N K Q fst hd rv X E H (fun k => k = w.heap.size + 1 + 1 ∨ k = w.heap.size + 1 + 1 + 1) w1 w2 hw hG
  have HR := Lib.hid hready
  have hopen := open_is N M s t K M nE N Q v
  have HO := Lib.hid hopen
  obtain ⟨AF, cF, AH, cH, AR, cR, AC, cC, AA, cA, AB, cB⟩ := K
  obtain ⟨AX, cX, AE, cE, AHH, cHH⟩ := Q
  dsimp only [csrW, preW] at HR HO ⊢
  clear hI hQ hG hready hopen
  refine (callsIn_wide (n := 3)).1 ?_
  refine callsIn_of_wp_marks Try.func62 rfl trivial ?_ rfl
  simp only [Try.ntmps62, List.size_toArray, List.length_cons, List.length_nil, Nat.reduceAdd, Nat.reduceSub, Array.replicate_succ, Array.replicate_zero, List.push_toArray, List.append_toArray, List.nil_append, List.cons_append]
  gi_wp2
  refine ⟨trivial, (callsIn_wide.2 (HO.out _)).mono ?_⟩
  rintro e w2 ⟨rfl, hw2⟩
  obtain ⟨w1, hw1⟩ : ∃ w1, ((((w.alloc (.cells #[.int .i64 (N : Int), .int .i64 (s : Int), .int .i64 (t : Int), .slice AF (N + 1) cF, .slice AH M cH, .slice AR M cR, .slice AC M cC, .slice AA M cA, .slice AB M cB] 32)).alloc (.cells #[.slice AX M cX, .slice AE nE cE, .slice AHH N cHH] 29)).alloc (.cells #[.int .i64 0] 3)).alloc (.cells #[.bool false] 4)) = w1 := ⟨_, rfl⟩
  have B1 : Below w.heap.size w w1 := by rw [← hw1]; exact ((((Below.refl _ w).alloc (Nat.le_refl _) _).alloc (by simp) _).alloc (by simp; omega) _).alloc (by simp; omega) _
  have S1 : w1.heap.size = w.heap.size + 4 := by rw [← hw1]; simp
  have C1 : Blk w1 w.heap.size 32 #[.int .i64 (N : Int), .int .i64 (s : Int), .int .i64 (t : Int), .slice AF (N + 1) cF, .slice AH M cH, .slice AR M cR, .slice AC M cC, .slice AA M cA, .slice AB M cB] := by rw [← hw1]; exact (((Blk.new rfl).alloc _).alloc _).alloc _
  have P1 : Blk w1 (w.heap.size + 1) 29 #[.slice AX M cX, .slice AE nE cE, .slice AHH N cHH] := by rw [← hw1]; exact ((Blk.new (by simp)).alloc _).alloc _
  have L1 : Blk w1 (w.heap.size + 1 + 1) 3 #[.int .i64 0] := by rw [← hw1]; exact (Blk.new (by simp)).alloc _
  have D1 : Blk w1 (w.heap.size + 1 + 1 + 1) 4 #[.bool false] := by rw [← hw1]; exact Blk.new (by simp)
  rw [hw1] at hw2 ⊢
  clear hw1
  obtain ⟨hf, S2, B2⟩ := HR.out w1 w2 hw2 (HI.out.below B1) (HQ.out.below B1) (by omega) hv hM hN (by rintro k (rfl | rfl) <;> omega)
  have C2 := C1.below B2 C1.lt; have P2 := P1.below B2 P1.lt; have L2 := L1.below B2 L1.lt; have D2 := D1.below B2 D1.lt
  have Bw := below_step B1 B2
  have HS1 := Lib.hid S1; have HS2 := Lib.hid S2
  clear hw2 C1 P1 L1 D1 B1 B2 S1 S2
  gi_wp2
  refine range_rec (n := 3) (gf := 97) (lb := #[.pointer (some ⟨w1.heap.size, 0, none⟩), .pointer (some ⟨w1.heap.size + 1 + 1, 0, none⟩), .pointer (some ⟨w1.heap.size + 1, 0, none⟩)]) rfl (enters_of Try.func97 (by kernel_rfl) rfl)
    hf Kps.trans (fun W _ o' _ => popen_put W o') (fun _ => rfl)
    (fun pre W => (LowSt fst hd H v (w.heap.size + 1 + 1) (w.heap.size + 1 + 1 + 1) pre W ∧
      (Blk W w.heap.size 32 #[.int .i64 (N : Int), .int .i64 (s : Int), .int .i64 (t : Int), .slice AF (N + 1) cF, .slice AH M cH, .slice AR M cR, .slice AC M cC, .slice AA M cA, .slice AB M cB] ∧ Blk W (w.heap.size + 1) 29 #[.slice AX M cX, .slice AE nE cE, .slice AHH N cHH])) ∧ Below w.heap.size w W)
    (fun _ _ => False)
    (OwnFrom.and (OwnFrom.and (lowSt_own _ _ _ _ _ _ _) (OwnFrom.and (ownFrom_blk _ _ _ _) (ownFrom_blk _ _ _ _))) (ownFrom_below (Nat.le_refl _) Bw.size))
    (fun _ _ _ _ hs _ _ => hs)
    ⟨⟨⟨0, false, ⟨L2, D2⟩, LeastTo.start⟩, C2, P2⟩, Bw⟩
    (fun x => { tmps := #[.agg #[.int .i64 (N : Int), .int .i64 (s : Int), .int .i64 (t : Int), .slice AF (N + 1) cF, .slice AH M cH, .slice AR M cR, .slice AC M cC, .slice AA M cA, .slice AB M cB], .agg #[.slice AX M cX, .slice AE nE cE, .slice AHH N cHH], .int .i64 (v : Int),
      .pointer (some ⟨w.heap.size, 0, none⟩), .pointer (some ⟨w.heap.size + 1, 0, none⟩), undef, .int .i64 0, .bool false, .pointer (some ⟨w.heap.size + 1 + 1, 0, none⟩), .pointer (some ⟨w.heap.size + 1 + 1 + 1, 0, none⟩), .int .i64 (x.1 : Int), undef,
      .agg #[.int .i64 (N : Int), .int .i64 (s : Int), .int .i64 (t : Int), .slice AF (N + 1) cF, .slice AH M cH, .slice AR M cR, .slice AC M cC, .slice AA M cA, .slice AB M cB], .agg #[.slice AX M cX, .slice AE nE cE, .slice AHH N cHH], .int .i64 (v : Int),
      .func (.func 97) #[] #[.pointer (some ⟨w1.heap.size, 0, none⟩), .pointer (some ⟨w1.heap.size + 1 + 1, 0, none⟩), .pointer (some ⟨w1.heap.size + 1, 0, none⟩)], .int .i64 (x.1 : Int),
      undef, undef, undef, undef, undef, undef, undef, undef, undef, undef, undef, undef, undef, undef, undef, undef, undef, undef, undef], defers := [] }) ?assign ?body ?done ?stop
  case assign =>
    intro l x W' Kq hKq
    unfold tellR
    gi_wp2
    exact hKq
  case body =>
    clear C2 P2 L2 D2 Bw hf
    rintro l pre ⟨a, ha⟩ W ⟨⟨⟨x, ok, ⟨L3, D3⟩, hle⟩, C3, P3⟩, B3⟩ hlen h5
    have haM : a < M := by have := HG.out.fle (v := v + 1) (by omega); omega
    have I3 := HI.out.below B3
    have Q3 := HQ.out.below B3
    obtain ⟨bH, oH, hHa⟩ := I3.iH.adr (by omega)
    dsimp only at hHa
    subst hHa
    obtain ⟨hbH, ch⟩ := tab_cell I3.iH haM
    have hdN := HG.out.hdl a haM
    obtain ⟨bA, oA, hAa⟩ := Q3.iH.adr (by omega)
    dsimp only at hAa
    subst hAa
    obtain ⟨hbA, ca⟩ := Q3.iH.cel (hOf_get Q3.iH.len hdN)
    obtain ⟨a0, a1, a2, a3, a4, a5, a6, a7, a8⟩ := C3.at9
    have p0 := P3.cell 0; have p1 := P3.cell 1; have p2 := P3.cell 2
    have l0 := L3.cell 0; have d0 := D3.cell 0
    simp only [List.getElem?_toArray, List.getElem?_cons_zero, List.getElem?_cons_succ] at p0 p1 p2 l0 d0
    have lf := L3.frozen 0; have df := D3.frozen 0
    have hz := B3.size; have hz1 := C3.lt; have hz2 := P3.lt; have hz3 := L3.lt; have hz4 := D3.lt
    have HLE := Lib.hid hle
    have first : ok = false → LeastTo fst hd H v (pre ++ [⟨a, ha⟩]) (hOf H (hd a)) true := fun h => by subst h; exact HLE.out.first (a := ⟨a, ha⟩)
    have less : hOf H (hd a) < x → LeastTo fst hd H v (pre ++ [⟨a, ha⟩]) (hOf H (hd a)) true := fun h => HLE.out.less (a := ⟨a, ha⟩) h
    have keep : ok = true → ¬ hOf H (hd a) < x → LeastTo fst hd H v (pre ++ [⟨a, ha⟩]) x true := fun h h' => by subst h; exact HLE.out.keep (a := ⟨a, ha⟩) h'
    have HF := Lib.hid first; have HLS := Lib.hid less; have HKP := Lib.hid keep
    clear first less keep hle
    obtain ⟨p, hp⟩ : ∃ p, hd a = p := ⟨_, rfl⟩
    simp only [hp] at ch ca hdN HF HLS HKP
    obtain ⟨y, hy⟩ : ∃ y, hOf H p = y := ⟨_, rfl⟩
    simp only [hy] at ca HF HLS HKP
    have H3 := Lib.hid L3; have HD3 := Lib.hid D3; have HC3 := Lib.hid C3; have HP3 := Lib.hid P3; have HB3 := Lib.hid B3
    clear hp hy I3 Q3 L3 D3 C3 P3 B3
    have put : ∀ (nq : Nat), LeastTo fst hd H v (pre ++ [⟨a, ha⟩]) y true → ∀ W', W' = (((W.drewN nq).setCell ⟨w.heap.size + 1 + 1, 0, none⟩ (.int .i64 y)).setCell ⟨w.heap.size + 1 + 1 + 1, 0, none⟩ (.bool true)) →
        KeepsFrom w2.heap.size W W' ∧ Kps (POpen w2.heap.size fun k => k = w.heap.size + 1 + 1 ∨ k = w.heap.size + 1 + 1 + 1) W W' ∧ (LowSt fst hd H v (w.heap.size + 1 + 1) (w.heap.size + 1 + 1 + 1) (pre ++ [⟨a, ha⟩]) W' ∧
      (Blk W' w.heap.size 32 #[.int .i64 (N : Int), .int .i64 (s : Int), .int .i64 (t : Int), .slice AF (N + 1) cF, .slice (some ⟨bH, oH, none⟩) M cH, .slice AR M cR, .slice AC M cC, .slice AA M cA, .slice AB M cB] ∧ Blk W' (w.heap.size + 1) 29 #[.slice AX M cX, .slice AE nE cE, .slice (some ⟨bA, oA, none⟩) N cHH])) ∧ Below w.heap.size w W' := by
      rintro nq hL _ rfl
      exact ⟨(((others_drew W nq).trans (KeepsOthers.setCell _ _ _)).trans (KeepsOthers.setCell _ _ _)).from _, ((kps_drew W nq).trans (popen_set (.inl rfl) (by have := HS1.out; have := HS2.out; omega))).trans (popen_set (.inr rfl) (by have := HS1.out; have := HS2.out; omega)),
        ⟨⟨y, true, ⟨((H3.out.drewN nq).set 0 _).far (by simp) _, ((HD3.out.drewN nq).far (by simp) _).set 0 _⟩, hL⟩, ((HC3.out.drewN nq).far (show w.heap.size + 0 ≠ w.heap.size + 1 + 1 by omega) _).far (show w.heap.size + 0 ≠ w.heap.size + 1 + 1 + 1 by omega) _, ((HP3.out.drewN nq).far (by simp) _).far (by simp) _⟩,
        ((below_drewN' HB3.out nq).setCell (by simp; omega) _).setCell (by simp; omega) _⟩
    have HPUT := Lib.hid put
    clear put
    gi_wp2
    refine wpIn_region_split 10 rfl rfl (by kernel_rfl) (by kernel_rfl) (by kernel_rfl) ?_
    simp only [List.take_succ_cons, List.take_zero, List.drop_succ_cons, List.drop_zero]
    repeat (gi_big_quiet_step (fail))
    refine wpQuietIn_nil ?_
    rintro _ ⟨nq, rfl⟩
    cases ok with
    | false =>
      gi_wp2
      obtain ⟨g1, g2, g3⟩ := HPUT.out nq (HF.out trivial) _ rfl
      exact rec_go g1 g2 g3
    | true =>
      by_cases hl : y < x
      · gi_wp2
        obtain ⟨g1, g2, g3⟩ := HPUT.out nq (HLS.out hl) _ rfl
        exact rec_go g1 g2 g3
      · have hl' : decide (y < x) = false := decide_eq_false hl
        gi_wp2
        exact rec_go ((others_drew W nq).from _) (kps_drew W nq) ⟨⟨⟨x, true, ⟨H3.out.drewN nq, HD3.out.drewN nq⟩, HKP.out trivial hl⟩, HC3.out.drewN nq, HP3.out.drewN nq⟩, below_drewN' HB3.out nq⟩
  case done =>
    rintro D xs W hD rfl ⟨⟨⟨x, ok, ⟨L3, D3⟩, hle⟩, -⟩, B3⟩ hDef
    have l0 := L3.cell 0; have d0 := D3.cell 0
    simp only [List.getElem?_toArray, List.getElem?_cons_zero] at l0 d0
    have HLE := Lib.hid hle
    clear hle C2 P2 L2 D2 Bw hf
    gi_wp2
    refine wpIn_region_split 4 rfl rfl (by kernel_rfl) (by kernel_rfl) (by kernel_rfl) ?_
    simp only [List.take_succ_cons, List.take_zero, List.drop_succ_cons, List.drop_zero]
    repeat (gi_big_quiet_step (fail))
    refine wpQuietIn_nil ?_
    rintro _ ⟨nq, rfl⟩
    gi_wp2
    refine ⟨by simp, .inl ⟨_, _, rfl, run_takeDeferred (w := W.drewN nq) hDef, ?_⟩⟩
    exact ⟨_, results_tmp2 rfl _ _ _, x, ok, rfl, HLE.out, rch_drop (below_drewN' B3 nq) (by have := HS1.out; have := HS2.out; omega) (show (W.drewN nq).heap[D]? = _ from hDef) rfl rfl⟩
  case stop =>
    rintro D pre W _ _ h
    exact h.elim

end Go.Proofs.Ytgjokddcaadjdaa
