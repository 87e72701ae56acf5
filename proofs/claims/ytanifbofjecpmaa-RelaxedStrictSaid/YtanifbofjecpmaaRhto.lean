/- Layer 7: lowest: the least height of the ends of the open residual arcs of a vertex. Layer 7: admissible: the residual arcs of a vertex that lead down by one. Layer 7: rightHeight: may a vertex be as high as it is? -/
import Derived.Test.YtanifbofjecpmaaOpeno
import Derived.Maps.AppendAt
/-! Lowo -/
namespace Go.Proofs.Ytanifbofjecpmaa
open Go.RowKit Go.Shelf
set_option maxRecDepth 100000
attribute [local go_sem] Oper.semAt_some

/-- The least so far. -/
structure LeastTo (fst hd : Nat → Nat) (H : List Int) (v : Nat) (pre : List (RowAt fst v)) (x : Int) (ok : Bool) : Prop where
  no : ok = false → pre = [] ∧ x = 0
  le : ∀ a ∈ pre, x ≤ hOf H (hd a.1)
  is : ok = true → ∃ a ∈ pre, x = hOf H (hd a.1)
section
variable {fst hd : Nat → Nat} {H : List Int} {v : Nat} {pre : List (RowAt fst v)} {x : Int} {ok : Bool} {a : RowAt fst v}
theorem LeastTo.start : LeastTo fst hd H v [] 0 false := ⟨fun _ => ⟨rfl, rfl⟩, fun _ h => (by cases h), fun h => (by cases h)⟩
theorem LeastTo.first (h : LeastTo fst hd H v pre x false) : LeastTo fst hd H v (pre ++ [a]) (hOf H (hd a.1)) true := by
  obtain ⟨rfl, -⟩ := h.no rfl
  exact ⟨fun h => (by cases h), fun b hb => (by simp at hb; subst hb; exact Int.le_refl _), fun _ => ⟨a, by simp, rfl⟩⟩
theorem LeastTo.less (h : LeastTo fst hd H v pre x ok) (hl : hOf H (hd a.1) < x) : LeastTo fst hd H v (pre ++ [a]) (hOf H (hd a.1)) true :=
  ⟨fun h => (by cases h), fun b hb => (by
    rcases List.mem_append.1 hb with hb | hb
    · have := h.le b hb; omega
    · simp at hb; subst hb; exact Int.le_refl _), fun _ => ⟨a, by simp, rfl⟩⟩
theorem LeastTo.keep (h : LeastTo fst hd H v pre x true) (hl : ¬ hOf H (hd a.1) < x) : LeastTo fst hd H v (pre ++ [a]) x true :=
  ⟨fun h => (by cases h), fun b hb => (by
    rcases List.mem_append.1 hb with hb | hb
    · exact h.le b hb
    · simp at hb; subst hb; omega), fun _ => (by
      obtain ⟨b, hb, e⟩ := h.is rfl
      exact ⟨b, List.mem_append.2 (.inl hb), e⟩)⟩
end
theorem rowIf_congr {fst : Nat → Nat} {v : Nat} {p q : Nat → Bool} (h : ∀ a, fst v ≤ a → a < fst (v + 1) → p a = q a) : ∀ {k}, rowIf fst v p k = rowIf fst v q k
  | 0 => rfl
  | k + 1 => by
    simp only [rowIf, rowIf_congr h (k := k)]
    congr 1
    by_cases h1 : fst v + k < fst (v + 1)
    · have e := h (fst v + k) (by omega) h1
      by_cases h2 : q (fst v + k) = true
      · rw [dif_pos ⟨h1, by rw [e]; exact h2⟩, dif_pos ⟨h1, h2⟩]
      · rw [dif_neg (fun h' => h2 (by rw [← e]; exact h'.2)), dif_neg (fun h' => h2 h'.2)]
    · rw [dif_neg (fun h' => h1 h'.1), dif_neg (fun h' => h1 h'.1)]
theorem rowIf_mem {fst : Nat → Nat} {v : Nat} {p : Nat → Bool} {a : RowAt fst v} : ∀ {k}, a ∈ rowIf fst v p k ↔ a.1 < fst v + k ∧ p a.1 = true
  | 0 => by simp [rowIf]; intro h; have := a.2; omega
  | k + 1 => by
    simp only [rowIf, List.mem_append, rowIf_mem (k := k)]
    by_cases h : fst v + k < fst (v + 1) ∧ p (fst v + k) = true
    · rw [dif_pos h, List.mem_singleton]
      constructor
      · rintro (⟨h1, h2⟩ | rfl)
        · exact ⟨by omega, h2⟩
        · exact ⟨by simp, h.2⟩
      · rintro ⟨h1, h2⟩
        by_cases e : a.1 = fst v + k
        · exact .inr (Subtype.ext e)
        · exact .inl ⟨by omega, h2⟩
    · rw [dif_neg h]
      simp only [List.not_mem_nil, or_false]
      constructor
      · rintro ⟨h1, h2⟩; exact ⟨by omega, h2⟩
      · rintro ⟨h1, h2⟩
        refine ⟨?_, h2⟩
        by_cases e : a.1 = fst v + k
        · exact absurd ⟨by have := a.2; omega, by rw [← e]; exact h2⟩ h
        · omega

def LowSt (fst hd : Nat → Nat) (H : List Int) (v g1 g2 : Nat) (pre : List (RowAt fst v)) (W : World) : Prop := ∃ x, ∃ ok, (Blk W g1 3 #[.int .i64 x] ∧ Blk W g2 4 #[.bool ok]) ∧ LeastTo fst hd H v pre x ok
theorem lowSt_own (B : Nat) (fst hd : Nat → Nat) (H : List Int) (v g1 g2 : Nat) : OwnFrom B (LowSt fst hd H v g1 g2) :=
  ownFrom_ex fun x => ownFrom_ex fun ok => OwnFrom.and (OwnFrom.and (ownFrom_blk _ _ _ _) (ownFrom_blk _ _ _ _)) (ownFrom_pure _ fun pre => LeastTo fst hd H v pre x ok)
def RetLst (Pr : Int → Bool → Prop) (w : World) (e : Ending) (w' : World) : Prop := ∃ (x : Int) (ok : Bool), e = .returned (.tuple #[.int .i64 x, .bool ok]) ∧ Pr x ok ∧ Below w.heap.size w w'

set_option maxHeartbeats 8000000 in
theorem lowest_is (N M s t v nE : Nat) (K : CsrS) (Q : PreS) (fst hd rv : Nat → Nat) (X E H : List Int) (w : World) (hG : Grid N M fst hd rv) (hI : GridIn w w.heap.size N M K fst hd rv) (hQ : StIn w w.heap.size M nE N Q X E H) (hv : v < N) (hM : M ≤ 100000000) (hN : N ≤ 4096) :
    Calls Try.prog 62 #[csrW N M s t K, preW M nE N Q, .int .i64 (v : Int)] w (RetLst (LeastTo fst hd H v (rowIf fst v (opn X) (fst (v + 1) - fst v))) w) := by
  have HG := Lib.hid hG; have HI := Lib.hid hI; have HQ := Lib.hid hQ
  have hready := fun w1 w2 hw => open_ready w.heap.size N M s t v nE N K Q fst hd rv X E H (fun k => k = w.heap.size + 1 + 1 ∨ k = w.heap.size + 1 + 1 + 1) w1 w2 hw hG
  have HR := Lib.hid hready
  have hopen := open_is N M s t K M nE N Q v
  have HO := Lib.hid hopen
  obtain ⟨AF, cF, AH, cH, AR, cR, AC, cC, AA, cA, AB, cB⟩ := K
  obtain ⟨AX, cX, AE, cE, AHH, cHH⟩ := Q
  dsimp only [csrW, preW] at HR HO ⊢
  clear hI hQ hG hready hopen
  refine (callsIn_wide (n := 3)).1 ?_
  refine callsIn_of_wp_marks Try.func62 rfl trivial ?_ rfl
  simp only [Try.ntmps62, List.size_toArray, List.length_cons, List.length_nil, Nat.reduceAdd, Nat.reduceSub, Array.replicate_succ, Array.replicate_zero, List.push_toArray, List.append_toArray, List.nil_append, List.cons_append]
  gi_wp2
  refine ⟨trivial, (callsIn_wide.2 (HO.out _)).mono ?_⟩
  rintro e w2 ⟨rfl, hw2⟩
  obtain ⟨w1, hw1⟩ : ∃ w1, ((((w.alloc (.cells #[.int .i64 (N : Int), .int .i64 (s : Int), .int .i64 (t : Int), .slice AF (N + 1) cF, .slice AH M cH, .slice AR M cR, .slice AC M cC, .slice AA M cA, .slice AB M cB] 32)).alloc (.cells #[.slice AX M cX, .slice AE nE cE, .slice AHH N cHH] 29)).alloc (.cells #[.int .i64 0] 3)).alloc (.cells #[.bool false] 4)) = w1 := ⟨_, rfl⟩
  have B1 : Below w.heap.size w w1 := by rw [← hw1]; exact ((((Below.refl _ w).alloc (Nat.le_refl _) _).alloc (by simp) _).alloc (by simp; omega) _).alloc (by simp; omega) _
  have S1 : w1.heap.size = w.heap.size + 4 := by rw [← hw1]; simp
  have C1 : Blk w1 w.heap.size 32 #[.int .i64 (N : Int), .int .i64 (s : Int), .int .i64 (t : Int), .slice AF (N + 1) cF, .slice AH M cH, .slice AR M cR, .slice AC M cC, .slice AA M cA, .slice AB M cB] := by rw [← hw1]; exact (((Blk.new rfl).alloc _).alloc _).alloc _
  have P1 : Blk w1 (w.heap.size + 1) 29 #[.slice AX M cX, .slice AE nE cE, .slice AHH N cHH] := by rw [← hw1]; exact ((Blk.new (by simp)).alloc _).alloc _
  have L1 : Blk w1 (w.heap.size + 1 + 1) 3 #[.int .i64 0] := by rw [← hw1]; exact (Blk.new (by simp)).alloc _
  have D1 : Blk w1 (w.heap.size + 1 + 1 + 1) 4 #[.bool false] := by rw [← hw1]; exact Blk.new (by simp)
  rw [hw1] at hw2 ⊢
  clear hw1
  obtain ⟨hf, S2, B2⟩ := HR.out w1 w2 hw2 (HI.out.below B1) (HQ.out.below B1) (by omega) hv hM hN (by rintro k (rfl | rfl) <;> omega)
  have C2 := C1.below B2 C1.lt; have P2 := P1.below B2 P1.lt; have L2 := L1.below B2 L1.lt; have D2 := D1.below B2 D1.lt
  have Bw := below_step B1 B2
  have HS1 := Lib.hid S1; have HS2 := Lib.hid S2
  clear hw2 C1 P1 L1 D1 B1 B2 S1 S2
  gi_wp2
  refine range_rec (n := 3) (gf := 99) (lb := #[.pointer (some ⟨w1.heap.size, 0, none⟩), .pointer (some ⟨w1.heap.size + 1 + 1, 0, none⟩), .pointer (some ⟨w1.heap.size + 1, 0, none⟩)]) rfl (enters_of Try.func99 (by kernel_rfl) rfl)
    hf Kps.trans (fun W _ o' _ => popen_put W o') (fun _ => rfl)
    (fun pre W => (LowSt fst hd H v (w.heap.size + 1 + 1) (w.heap.size + 1 + 1 + 1) pre W ∧
      (Blk W w.heap.size 32 #[.int .i64 (N : Int), .int .i64 (s : Int), .int .i64 (t : Int), .slice AF (N + 1) cF, .slice AH M cH, .slice AR M cR, .slice AC M cC, .slice AA M cA, .slice AB M cB] ∧ Blk W (w.heap.size + 1) 29 #[.slice AX M cX, .slice AE nE cE, .slice AHH N cHH])) ∧ Below w.heap.size w W)
    (fun _ _ => False)
    (OwnFrom.and (OwnFrom.and (lowSt_own _ _ _ _ _ _ _) (OwnFrom.and (ownFrom_blk _ _ _ _) (ownFrom_blk _ _ _ _))) (ownFrom_below (Nat.le_refl _) Bw.size))
    (fun _ _ _ _ hs _ _ => hs)
    ⟨⟨⟨0, false, ⟨L2, D2⟩, LeastTo.start⟩, C2, P2⟩, Bw⟩
    (fun x => { tmps := #[.agg #[.int .i64 (N : Int), .int .i64 (s : Int), .int .i64 (t : Int), .slice AF (N + 1) cF, .slice AH M cH, .slice AR M cR, .slice AC M cC, .slice AA M cA, .slice AB M cB], .agg #[.slice AX M cX, .slice AE nE cE, .slice AHH N cHH], .int .i64 (v : Int),
      .pointer (some ⟨w.heap.size, 0, none⟩), .pointer (some ⟨w.heap.size + 1, 0, none⟩), undef, .int .i64 0, .bool false, .pointer (some ⟨w.heap.size + 1 + 1, 0, none⟩), .pointer (some ⟨w.heap.size + 1 + 1 + 1, 0, none⟩), .int .i64 (x.1 : Int), undef,
      .agg #[.int .i64 (N : Int), .int .i64 (s : Int), .int .i64 (t : Int), .slice AF (N + 1) cF, .slice AH M cH, .slice AR M cR, .slice AC M cC, .slice AA M cA, .slice AB M cB], .agg #[.slice AX M cX, .slice AE nE cE, .slice AHH N cHH], .int .i64 (v : Int),
      .func (.func 99) #[] #[.pointer (some ⟨w1.heap.size, 0, none⟩), .pointer (some ⟨w1.heap.size + 1 + 1, 0, none⟩), .pointer (some ⟨w1.heap.size + 1, 0, none⟩)], .int .i64 (x.1 : Int),
      undef, undef, undef, undef, undef, undef, undef, undef, undef, undef, undef, undef, undef, undef, undef, undef, undef, undef, undef], defers := [] }) ?assign ?body ?done ?stop
  case assign =>
    intro l x W' Kq hKq
    unfold tellR
    gi_wp2
    exact hKq
  case body =>
    clear C2 P2 L2 D2 Bw hf
    rintro l pre ⟨a, ha⟩ W ⟨⟨⟨x, ok, ⟨L3, D3⟩, hle⟩, C3, P3⟩, B3⟩ hlen h5
    have haM : a < M := by have := HG.out.fle (v := v + 1) (by omega); omega
    have I3 := HI.out.below B3
    have Q3 := HQ.out.below B3
    obtain ⟨bH, oH, hHa⟩ := I3.iH.adr (by omega)
    dsimp only at hHa
    subst hHa
    obtain ⟨hbH, ch⟩ := tab_cell I3.iH haM
    have hdN := HG.out.hdl a haM
    obtain ⟨bA, oA, hAa⟩ := Q3.iH.adr (by omega)
    dsimp only at hAa
    subst hAa
    obtain ⟨hbA, ca⟩ := Q3.iH.cel (hOf_get Q3.iH.len hdN)
    obtain ⟨a0, a1, a2, a3, a4, a5, a6, a7, a8⟩ := C3.at9
    have p0 := P3.cell 0; have p1 := P3.cell 1; have p2 := P3.cell 2
    have l0 := L3.cell 0; have d0 := D3.cell 0
    simp only [List.getElem?_toArray, List.getElem?_cons_zero, List.getElem?_cons_succ] at p0 p1 p2 l0 d0
    have lf := L3.frozen 0; have df := D3.frozen 0
    have hz := B3.size; have hz1 := C3.lt; have hz2 := P3.lt; have hz3 := L3.lt; have hz4 := D3.lt
    have HLE := Lib.hid hle
    have first : ok = false → LeastTo fst hd H v (pre ++ [⟨a, ha⟩]) (hOf H (hd a)) true := fun h => by subst h; exact HLE.out.first (a := ⟨a, ha⟩)
    have less : hOf H (hd a) < x → LeastTo fst hd H v (pre ++ [⟨a, ha⟩]) (hOf H (hd a)) true := fun h => HLE.out.less (a := ⟨a, ha⟩) h
    have keep : ok = true → ¬ hOf H (hd a) < x → LeastTo fst hd H v (pre ++ [⟨a, ha⟩]) x true := fun h h' => by subst h; exact HLE.out.keep (a := ⟨a, ha⟩) h'
    have HF := Lib.hid first; have HLS := Lib.hid less; have HKP := Lib.hid keep
    clear first less keep hle
    obtain ⟨p, hp⟩ : ∃ p, hd a = p := ⟨_, rfl⟩
    simp only [hp] at ch ca hdN HF HLS HKP
    obtain ⟨y, hy⟩ : ∃ y, hOf H p = y := ⟨_, rfl⟩
    simp only [hy] at ca HF HLS HKP
    have H3 := Lib.hid L3; have HD3 := Lib.hid D3; have HC3 := Lib.hid C3; have HP3 := Lib.hid P3; have HB3 := Lib.hid B3
    clear hp hy I3 Q3 L3 D3 C3 P3 B3
    have put : ∀ (nq : Nat), LeastTo fst hd H v (pre ++ [⟨a, ha⟩]) y true → ∀ W', W' = (((W.drewN nq).setCell ⟨w.heap.size + 1 + 1, 0, none⟩ (.int .i64 y)).setCell ⟨w.heap.size + 1 + 1 + 1, 0, none⟩ (.bool true)) →
        KeepsFrom w2.heap.size W W' ∧ Kps (POpen w2.heap.size fun k => k = w.heap.size + 1 + 1 ∨ k = w.heap.size + 1 + 1 + 1) W W' ∧ (LowSt fst hd H v (w.heap.size + 1 + 1) (w.heap.size + 1 + 1 + 1) (pre ++ [⟨a, ha⟩]) W' ∧
      (Blk W' w.heap.size 32 #[.int .i64 (N : Int), .int .i64 (s : Int), .int .i64 (t : Int), .slice AF (N + 1) cF, .slice (some ⟨bH, oH, none⟩) M cH, .slice AR M cR, .slice AC M cC, .slice AA M cA, .slice AB M cB] ∧ Blk W' (w.heap.size + 1) 29 #[.slice AX M cX, .slice AE nE cE, .slice (some ⟨bA, oA, none⟩) N cHH])) ∧ Below w.heap.size w W' := by
      rintro nq hL _ rfl
      exact ⟨(((others_drew W nq).trans (KeepsOthers.setCell _ _ _)).trans (KeepsOthers.setCell _ _ _)).from _, ((kps_drew W nq).trans (popen_set (.inl rfl) (by have := HS1.out; have := HS2.out; omega))).trans (popen_set (.inr rfl) (by have := HS1.out; have := HS2.out; omega)),
        ⟨⟨y, true, ⟨((H3.out.drewN nq).set 0 _).far (by simp) _, ((HD3.out.drewN nq).far (by simp) _).set 0 _⟩, hL⟩, ((HC3.out.drewN nq).far (show w.heap.size + 0 ≠ w.heap.size + 1 + 1 by omega) _).far (show w.heap.size + 0 ≠ w.heap.size + 1 + 1 + 1 by omega) _, ((HP3.out.drewN nq).far (by simp) _).far (by simp) _⟩,
        ((below_drewN' HB3.out nq).setCell (by simp; omega) _).setCell (by simp; omega) _⟩
    have HPUT := Lib.hid put
    clear put
    gi_wp2
    refine wpIn_region_split 10 rfl rfl (by kernel_rfl) (by kernel_rfl) (by kernel_rfl) ?_
    simp only [List.take_succ_cons, List.take_zero, List.drop_succ_cons, List.drop_zero]
    repeat (gi_big_quiet_step (fail))
    refine wpQuietIn_nil ?_
    rintro _ ⟨nq, rfl⟩
    cases ok with
    | false =>
      gi_wp2
      obtain ⟨g1, g2, g3⟩ := HPUT.out nq (HF.out trivial) _ rfl
      exact rec_go g1 g2 g3
    | true =>
      by_cases hl : y < x
      · gi_wp2
        obtain ⟨g1, g2, g3⟩ := HPUT.out nq (HLS.out hl) _ rfl
        exact rec_go g1 g2 g3
      · have hl' : decide (y < x) = false := decide_eq_false hl
        gi_wp2
        exact rec_go ((others_drew W nq).from _) (kps_drew W nq) ⟨⟨⟨x, true, ⟨H3.out.drewN nq, HD3.out.drewN nq⟩, HKP.out trivial hl⟩, HC3.out.drewN nq, HP3.out.drewN nq⟩, below_drewN' HB3.out nq⟩
  case done =>
    rintro D xs W hD rfl ⟨⟨⟨x, ok, ⟨L3, D3⟩, hle⟩, -⟩, B3⟩ hDef
    have l0 := L3.cell 0; have d0 := D3.cell 0
    simp only [List.getElem?_toArray, List.getElem?_cons_zero] at l0 d0
    have HLE := Lib.hid hle
    clear hle C2 P2 L2 D2 Bw hf
    gi_wp2
    refine wpIn_region_split 4 rfl rfl (by kernel_rfl) (by kernel_rfl) (by kernel_rfl) ?_
    simp only [List.take_succ_cons, List.take_zero, List.drop_succ_cons, List.drop_zero]
    repeat (gi_big_quiet_step (fail))
    refine wpQuietIn_nil ?_
    rintro _ ⟨nq, rfl⟩
    gi_wp2
    refine ⟨by simp, .inl ⟨_, _, rfl, run_takeDeferred (w := W.drewN nq) hDef, ?_⟩⟩
    exact ⟨_, results_tmp2 rfl _ _ _, x, ok, rfl, HLE.out, rch_drop (below_drewN' B3 nq) (by have := HS1.out; have := HS2.out; omega) (show (W.drewN nq).heap[D]? = _ from hDef) rfl rfl⟩
  case stop =>
    rintro D pre W _ _ h
    exact h.elim

end Go.Proofs.Ytanifbofjecpmaa

/-! Admo -/
namespace Go.Proofs.Ytanifbofjecpmaa
open Go.RowKit Go.Shelf
set_option maxRecDepth 100000
attribute [local go_sem] Oper.semAt_some

theorem info_int : (Try.prog.info? 3).map (fun i => (i.zero, i.size, i.bytes)) = some (some (.int .i64 0), 1, 8) := by kernel_rfl
/-- The residual arcs of v that p takes. -/
def rls (fst : Nat → Nat) (v : Nat) (p : Nat → Bool) (k : Nat) : List Nat := (rowIf fst v p k).map (·.1)
/-- Those told so far that q takes. -/
def picks {fst : Nat → Nat} {v : Nat} (q : Nat → Bool) (pre : List (RowAt fst v)) : List Nat := (pre.filter fun x => q x.1).map (·.1)
section
variable {fst : Nat → Nat} {v : Nat} {q p : Nat → Bool} {pre : List (RowAt fst v)} {a : RowAt fst v}
theorem picks_yes (h : q a.1 = true) : picks q (pre ++ [a]) = picks q pre ++ [a.1] := by simp [picks, h]
theorem picks_no (h : q a.1 = false) : picks q (pre ++ [a]) = picks q pre := by simp [picks, h]
theorem picks_len : (picks q pre).length ≤ pre.length := by simp only [picks, List.length_map]; exact List.length_filter_le _ _
theorem picks_row (k : Nat) : picks q (rowIf fst v p k) = rls fst v (fun a => p a && q a) k := by
  unfold picks rls
  congr 1
  induction k with
  | zero => rfl
  | succ k ih =>
    simp only [rowIf, List.filter_append, ih]
    congr 1
    by_cases h1 : fst v + k < fst (v + 1)
    · by_cases h2 : p (fst v + k) = true
      · by_cases h3 : q (fst v + k) = true
        · rw [dif_pos ⟨h1, h2⟩, dif_pos ⟨h1, by simp [h2, h3]⟩]; simp [h3]
        · rw [dif_pos ⟨h1, h2⟩, dif_neg (fun e => h3 (by have := e.2; simp at this; exact this.2))]; simp [h3]
      · rw [dif_neg (fun e => h2 e.2), dif_neg (fun e => h2 (by have := e.2; simp at this; exact this.1))]; rfl
    · rw [dif_neg (fun e => h1 e.1), dif_neg (fun e => h1 e.1)]; rfl
theorem rls_len (k : Nat) : (rls fst v p k).length ≤ k := by simp only [rls, List.length_map]; exact rowIf_len _ _ _ _
theorem rls_mem {a k : Nat} (hk : fst v + k ≤ fst (v + 1)) : a ∈ rls fst v p k ↔ fst v ≤ a ∧ a < fst v + k ∧ p a = true := by
  simp only [rls, List.mem_map]
  constructor
  · rintro ⟨x, hx, rfl⟩
    have := rowIf_mem.1 hx
    exact ⟨x.2.1, this⟩
  · rintro ⟨h1, h2, h3⟩
    exact ⟨⟨a, h1, by omega⟩, rowIf_mem.2 ⟨h2, h3⟩, rfl⟩
/-- All that p takes, row by row. -/
theorem sel_rls (k : Nat) (hk : fst v + k ≤ fst (v + 1)) : selTo p (fst v + k) = selTo p (fst v) ++ rls fst v p k := by
  induction k with
  | zero => simp [rls, rowIf]
  | succ k ih =>
    rw [show fst v + (k + 1) = (fst v + k) + 1 by omega]
    by_cases hp : p (fst v + k) = true
    · rw [sel_yes hp, ih (by omega)]
      unfold rls
      rw [rowIf_yes (a := fst v + k) rfl ⟨by omega, by omega⟩ hp, List.map_append, List.append_assoc]
      rfl
    · have hp : p (fst v + k) = false := by simpa using hp
      rw [sel_no hp, ih (by omega)]
      unfold rls
      rw [rowIf_no rfl hp]
end
theorem own_base {w : World} {b b' : Nat} {e : TypeId} {size n : Nat} {v : Value} {xs : List Value} (h : w.ownsRow b e size v n xs) (hb : b' ≤ b) : w.ownsRow b' e size v n xs := by
  refine ⟨h.1, ?_⟩
  rcases h.2 with h2 | ⟨g, cap, cur, h3, h4, h5⟩
  · exact .inl h2
  · exact .inr ⟨g, cap, cur, h3, by omega, h5⟩
/-- A number is appended to what lies in the box. -/
theorem down_app {b g : Nat} {sp : Nat → Prop} {W w4 : World} {u v' : Value} {k m : Nat} {xs ys : List Value} {tmp : Obj} (hs : sp g) (hg : g < b) (hb : b + 5 ≤ W.heap.size) (hD : Boxed W g 27 u) (hr : W.ownsRow (b + 5) 3 1 u k xs)
    (hown : w4.ownsRow (b + 5) 3 1 v' m ys) (hgrow : (W.alloc tmp).grownBy w4 u.ownBlock) :
    Boxed w4 g 27 u ∧ KeepsFrom b W (w4.setCell ⟨g, 0, none⟩ v') ∧ Kps (POpen b sp) W (w4.setCell ⟨g, 0, none⟩ v') ∧ Boxed (w4.setCell ⟨g, 0, none⟩ v') g 27 v' ∧ (w4.setCell ⟨g, 0, none⟩ v').ownsRow (b + 5) 3 1 v' m ys ∧
      (∀ x w0, x ≤ g → Below x w0 W → Below x w0 (w4.setCell ⟨g, 0, none⟩ v')) ∧ (∀ g2 t2 cs, g2 < b → g2 ≠ g → Blk W g2 t2 cs → Blk (w4.setCell ⟨g, 0, none⟩ v') g2 t2 cs) := by
  have hu : ∀ j, u.ownBlock = some j → b + 5 ≤ j ∧ ∃ cs, W.heap[j]? = some (.cells cs 3 (0, 0)) := fun j e => by
    rcases hr.2 with ⟨rfl, _⟩ | ⟨g', cap, cur, rfl, h3, h4, _⟩
    · simp [Value.ownBlock] at e
    · obtain rfl : g' = j := by simpa [Value.ownBlock] using e
      exact ⟨h3, _, h4⟩
  have hv1 : Boxed w4 g 27 u := (hD.alloc tmp).kept hgrow (hD.not_row (by decide) hr)
  refine ⟨hv1, ?_, ?_, hv1.set v', ownsRow_setCell_below hown (by simp; omega) v', fun x w0 hx h => ?_, fun g2 t2 cs h1 h2 h3 => ?_⟩
  · refine (((KeepsOthers.alloc W tmp).trans (KeepsOthers.of_grownBy hgrow fun j o ej hj => ?_)).trans (KeepsOthers.setCell _ _ _)).from _
    obtain ⟨h1, cs, h2⟩ := hu j ej
    rw [(Below.heap_alloc W tmp j (Array.getElem?_eq_some_iff.1 h2).1), h2] at hj
    cases hj; rfl
  · refine ((Kps.all (below_alloc tmp)).trans (Kps.grown hgrow fun j o ej hj hp => ?_)).trans (popen_set hs hg)
    obtain ⟨h1, cs, h2⟩ := hu j ej
    rw [(Below.heap_alloc W tmp j (Array.getElem?_eq_some_iff.1 h2).1), h2] at hj
    cases hj
    rcases hp with h | h
    · omega
    · rcases h.2 with h | h
      · omega
      · cases h
  · exact ((h.alloc (by omega) tmp).grown hgrow (by simp; omega) fun j ej => by have := (hu j ej).1; omega).setCell (p := ⟨g, 0, none⟩) hx v'
  · exact ((h3.alloc tmp).grown hgrow (fun e => by have := (hu _ e.symm).1; omega)).far (by simpa using h2) v'
def qDown (hd : Nat → Nat) (H : List Int) (v a : Nat) : Bool := decide (hOf H v = hOf H (hd a) + 1)
/-- What is collected lies in the box. -/
def DownSt (b : Nat) (q : Nat → Bool) {fst : Nat → Nat} {v : Nat} (g : Nat) (pre : List (RowAt fst v)) (W : World) : Prop :=
  ∃ u, Boxed W g 27 u ∧ W.ownsRow b 3 1 u (picks q pre).length (nvs (picks q pre)) ∧ True

set_option maxHeartbeats 8000000 in
theorem adm_is (N M s t v nE : Nat) (K : CsrS) (Q : PreS) (fst hd rv : Nat → Nat) (X E H : List Int) (w : World) (hG : Grid N M fst hd rv) (hI : GridIn w w.heap.size N M K fst hd rv) (hQ : StIn w w.heap.size M nE N Q X E H) (hv : v < N) (hM : M ≤ 100000000) (hN : N ≤ 4096) (hH : ∀ v, v < N → 0 ≤ hOf H v ∧ hOf H v < 2 * N) :
    Calls Try.prog 56 #[csrW N M s t K, preW M nE N Q, .int .i64 (v : Int)] w (RetSel (rls fst v (admB hd rv X H) (fst (v + 1) - fst v)) w) := by
  have HG := Lib.hid hG; have HI := Lib.hid hI; have HQ := Lib.hid hQ; have HHH := Lib.hid hH
  have hres : picks (qDown hd H v) (rowIf fst v (opn X) (fst (v + 1) - fst v)) = rls fst v (admB hd rv X H) (fst (v + 1) - fst v) := by
    rw [picks_row]
    unfold rls
    congr 1
    refine rowIf_congr fun a h1 h2 => ?_
    unfold admB qDown
    rw [hG.tail v a hv h1 h2]
  rw [← hres]
  clear hres
  have hready := fun w1 w2 hw => open_ready w.heap.size N M s t v nE N K Q fst hd rv X E H (fun k => k = w.heap.size + 1 + 1 + 1) w1 w2 hw hG
  have HR := Lib.hid hready
  have hopen := open_is N M s t K M nE N Q v
  have HO := Lib.hid hopen
  obtain ⟨AF, cF, AH, cH, AR, cR, AC, cC, AA, cA, AB, cB⟩ := K
  obtain ⟨AX, cX, AE, cE, AHH, cHH⟩ := Q
  dsimp only [csrW, preW] at HR HO ⊢
  clear hI hQ hG hready hopen hH
  obtain ⟨i0, hi, hi0, hi1, hi2⟩ := info_parts info_int
  refine (callsIn_wide (n := 3)).1 ?_
  refine callsIn_of_wp_marks Try.func56 rfl trivial ?_ rfl
  simp only [Try.ntmps56, List.size_toArray, List.length_cons, List.length_nil, Nat.reduceAdd, Nat.reduceSub, Array.replicate_succ, Array.replicate_zero, List.push_toArray, List.append_toArray, List.nil_append, List.cons_append]
  gi_wp2
  refine ⟨trivial, (callsIn_wide.2 (HO.out _)).mono ?_⟩
  rintro e w2 ⟨rfl, hw2⟩
  obtain ⟨w1, hw1⟩ : ∃ w1, ((((w.alloc (.cells #[.int .i64 (N : Int), .int .i64 (s : Int), .int .i64 (t : Int), .slice AF (N + 1) cF, .slice AH M cH, .slice AR M cR, .slice AC M cC, .slice AA M cA, .slice AB M cB] 32)).alloc (.cells #[.slice AX M cX, .slice AE nE cE, .slice AHH N cHH] 29)).alloc (.cells #[.int .i64 (v : Int)] 3)).alloc (.cells #[.slice none 0 0] 27)) = w1 := ⟨_, rfl⟩
  have B1 : Below w.heap.size w w1 := by rw [← hw1]; exact ((((Below.refl _ w).alloc (Nat.le_refl _) _).alloc (by simp) _).alloc (by simp; omega) _).alloc (by simp; omega) _
  have S1 : w1.heap.size = w.heap.size + 4 := by rw [← hw1]; simp
  have C1 : Blk w1 w.heap.size 32 #[.int .i64 (N : Int), .int .i64 (s : Int), .int .i64 (t : Int), .slice AF (N + 1) cF, .slice AH M cH, .slice AR M cR, .slice AC M cC, .slice AA M cA, .slice AB M cB] := by rw [← hw1]; exact (((Blk.new rfl).alloc _).alloc _).alloc _
  have P1 : Blk w1 (w.heap.size + 1) 29 #[.slice AX M cX, .slice AE nE cE, .slice AHH N cHH] := by rw [← hw1]; exact ((Blk.new (by simp)).alloc _).alloc _
  have L1 : Blk w1 (w.heap.size + 1 + 1) 3 #[.int .i64 (v : Int)] := by rw [← hw1]; exact (Blk.new (by simp)).alloc _
  have D1 : Blk w1 (w.heap.size + 1 + 1 + 1) 27 #[.slice none 0 0] := by rw [← hw1]; exact Blk.new (by simp)
  rw [hw1] at hw2 ⊢
  clear hw1
  obtain ⟨hf, S2, B2⟩ := HR.out w1 w2 hw2 (HI.out.below B1) (HQ.out.below B1) (by omega) hv hM hN (by rintro k rfl; omega)
  have C2 := C1.below B2 C1.lt; have P2 := P1.below B2 P1.lt; have L2 := L1.below B2 L1.lt; have D2 := D1.below B2 D1.lt
  have Bw := below_step B1 B2
  have HS1 := Lib.hid S1; have HS2 := Lib.hid S2
  clear hw2 C1 P1 L1 D1 B1 B2 S1 S2
  gi_wp2
  refine range_rec (n := 3) (gf := 99) (lb := #[.pointer (some ⟨w1.heap.size, 0, none⟩), .pointer (some ⟨w1.heap.size + 1 + 1, 0, none⟩), .pointer (some ⟨w1.heap.size + 1, 0, none⟩)]) rfl (enters_of Try.func99 (by kernel_rfl) rfl)
    hf Kps.trans (fun W _ o' _ => popen_put W o') (fun _ => rfl)
    (fun pre W => (DownSt (w2.heap.size + 5) (qDown hd H v) (w.heap.size + 1 + 1 + 1) pre W ∧
      (Blk W w.heap.size 32 #[.int .i64 (N : Int), .int .i64 (s : Int), .int .i64 (t : Int), .slice AF (N + 1) cF, .slice AH M cH, .slice AR M cR, .slice AC M cC, .slice AA M cA, .slice AB M cB] ∧ Blk W (w.heap.size + 1) 29 #[.slice AX M cX, .slice AE nE cE, .slice AHH N cHH] ∧ Blk W (w.heap.size + 1 + 1) 3 #[.int .i64 (v : Int)])) ∧ Below w.heap.size w W)
    (fun _ _ => False)
    (OwnFrom.and (OwnFrom.and (Own.from (holdsRow_own _ _ _ _ _ _ _ _) _) (OwnFrom.and (ownFrom_blk _ _ _ _) (OwnFrom.and (ownFrom_blk _ _ _ _) (ownFrom_blk _ _ _ _)))) (ownFrom_below (Nat.le_refl _) Bw.size))
    (fun _ _ _ _ hs _ _ => hs)
    ⟨⟨⟨_, D2, World.ownsRow_nil _ _ _ _, trivial⟩, C2, P2, L2⟩, Bw⟩
    (fun x => { tmps := #[.agg #[.int .i64 (N : Int), .int .i64 (s : Int), .int .i64 (t : Int), .slice AF (N + 1) cF, .slice AH M cH, .slice AR M cR, .slice AC M cC, .slice AA M cA, .slice AB M cB], .agg #[.slice AX M cX, .slice AE nE cE, .slice AHH N cHH], .int .i64 (v : Int),
      .pointer (some ⟨w.heap.size, 0, none⟩), .pointer (some ⟨w.heap.size + 1, 0, none⟩), .pointer (some ⟨w.heap.size + 1 + 1, 0, none⟩), .slice none 0 0, .pointer (some ⟨w.heap.size + 1 + 1 + 1, 0, none⟩), .int .i64 (x.1 : Int),
      .agg #[.int .i64 (N : Int), .int .i64 (s : Int), .int .i64 (t : Int), .slice AF (N + 1) cF, .slice AH M cH, .slice AR M cR, .slice AC M cC, .slice AA M cA, .slice AB M cB], .agg #[.slice AX M cX, .slice AE nE cE, .slice AHH N cHH], .int .i64 (v : Int),
      .func (.func 99) #[] #[.pointer (some ⟨w1.heap.size, 0, none⟩), .pointer (some ⟨w1.heap.size + 1 + 1, 0, none⟩), .pointer (some ⟨w1.heap.size + 1, 0, none⟩)], .int .i64 (x.1 : Int),
      undef, undef, undef, undef, undef, undef, undef, undef, undef, undef, undef, undef, undef, undef, undef, undef, undef, undef, undef, undef, undef], defers := [] }) ?assign ?body ?done ?stop
  case assign =>
    intro l x W' Kq hKq
    unfold tellR
    gi_wp2
    exact hKq
  case body =>
    clear C2 P2 L2 D2 Bw hf
    rintro l pre ⟨a, ha⟩ W ⟨⟨⟨u, D3, hrow, -⟩, C3, P3, L3⟩, B3⟩ hlen h5
    have hfl := HG.out.fle (v := v + 1) (by omega)
    have haM : a < M := by omega
    have hpl := picks_len (q := qDown hd H v) (pre := pre)
    have I3 := HI.out.below B3
    have Q3 := HQ.out.below B3
    obtain ⟨bH, oH, hHa⟩ := I3.iH.adr (by omega)
    dsimp only at hHa
    subst hHa
    obtain ⟨hbH, ch⟩ := tab_cell I3.iH haM
    have hdN := HG.out.hdl a haM
    obtain ⟨bA, oA, hAa⟩ := Q3.iH.adr (by omega)
    dsimp only at hAa
    subst hAa
    obtain ⟨hbA, ca⟩ := Q3.iH.cel (hOf_get Q3.iH.len hdN)
    obtain ⟨-, cv⟩ := Q3.iH.cel (hOf_get Q3.iH.len hv)
    have hb1 := HHH.out v hv
    have hb2 := HHH.out _ hdN
    obtain ⟨a0, a1, a2, a3, a4, a5, a6, a7, a8⟩ := C3.at9
    have p0 := P3.cell 0; have p1 := P3.cell 1; have p2 := P3.cell 2
    have l0 := L3.cell 0
    have d0 := D3.cell
    simp only [List.getElem?_toArray, List.getElem?_cons_zero, List.getElem?_cons_succ] at p0 p1 p2 l0
    have hz := B3.size; have hz1 := C3.lt; have hz2 := P3.lt; have hz3 := L3.lt; have hz4 := D3.lt
    have yes : hOf H v = hOf H (hd a) + 1 → picks (qDown hd H v) (pre ++ [⟨a, ha⟩]) = picks (qDown hd H v) pre ++ [a] := fun h => picks_yes (by unfold qDown; exact decide_eq_true h)
    have no : hOf H v ≠ hOf H (hd a) + 1 → picks (qDown hd H v) (pre ++ [⟨a, ha⟩]) = picks (qDown hd H v) pre := fun h => picks_no (by unfold qDown; exact decide_eq_false h)
    have HY := Lib.hid yes; have HNO := Lib.hid no
    clear yes no
    obtain ⟨p, hp⟩ : ∃ p, hd a = p := ⟨_, rfl⟩
    simp only [hp] at ch ca hdN HY HNO hb2
    obtain ⟨y, hy⟩ : ∃ y, hOf H p = y := ⟨_, rfl⟩
    simp only [hy] at ca HY HNO hb2
    obtain ⟨z, hz'⟩ : ∃ z, hOf H v = z := ⟨_, rfl⟩
    simp only [hz'] at cv HY HNO hb1
    have HC3 := Lib.hid C3; have HP3 := Lib.hid P3; have HL3 := Lib.hid L3; have HB3 := Lib.hid B3; have HROW := Lib.hid hrow; have HD3 := Lib.hid D3
    have HLEN := Lib.hid hlen; have H5 := Lib.hid h5; have HPL := Lib.hid hpl
    clear hp hy hz' I3 Q3 D3 C3 P3 B3 L3 hrow hlen h5 hpl
    have hw : IntKind.i64.wrap (y + 1) = y + 1 := wrap_in (by omega) (by omega)
    by_cases hl : z = y + 1
    · gi_wp2
      refine wpIn_region_split 16 rfl rfl (by kernel_rfl) (by kernel_rfl) (by kernel_rfl) ?_
      simp only [List.take_succ_cons, List.take_zero, List.drop_succ_cons, List.drop_zero]
      repeat (gi_big_quiet_step (fail))
      refine wpQuietIn_nil ?_
      rintro _ ⟨nq, rfl⟩
      have D4 : Boxed (W.drewN nq) (w.heap.size + 1 + 1 + 1) 27 u := HD3.out
      have R4 : (W.drewN nq).ownsRow (w2.heap.size + 5) 3 1 u (picks (qDown hd H v) pre).length (nvs (picks (qDown hd H v) pre)) := HROW.out
      gi_wp2_with (gi_at_builtin; go_loud (refine wpListIn_append_own _ rfl _ _ 27 rfl (w2.heap.size + 5) 3 i0 (.int .i64 0) 1 8 Try.underlying27 hi hi0 hi1 hi2 rfl (by decide) _ _ _ rfl (R4.alloc _) ⟨(W.drewN nq).heap.size, 0, none⟩ 1 1 [.int .i64 (a : Int)] rfl rfl (cell_one_new _ _ _) (by simp [Value.oneCell']) (by have := HLEN.out; have := HPL.out; simp only [maxLen]; omega) (by have := HLEN.out; have := HPL.out; omega) (by have := H5.out; simp; omega) ?_; intro v' w4 hown' hgrow _; obtain ⟨g', cap', rfl⟩ := ownsRow_succ hown'; obtain ⟨hv1, dk1, dk2, dk3, dk4, dk5, dk6⟩ := down_app (W := W.drewN nq) (sp := fun k => k = w.heap.size + 1 + 1 + 1) rfl (by have := HS1.out; have := HS2.out; omega) (show w2.heap.size + 5 ≤ (W.drewN nq).heap.size from H5.out) D4 R4 hown' hgrow; have hc1 := hv1.cell; have hf1 := hv1.frozen; have DK := Lib.hid (And.intro dk1 (And.intro dk2 (And.intro dk3 (And.intro dk4 (And.intro dk5 dk6))))); clear dk1 dk2 dk3 dk4 dk5 dk6 hv1 hown' hgrow))
      obtain ⟨dk1, dk2, dk3, dk4, dk5, dk6⟩ := DK.out
      have hw2 := HS1.out; have hw3 := HS2.out
      refine rec_go (((others_drew W nq).from _).trans dk1) ((kps_drew W nq).trans dk2) ⟨⟨⟨_, dk3, ?_, trivial⟩, dk6 _ _ _ (by omega) (by omega) (HC3.out.drewN nq), dk6 _ _ _ (by omega) (by omega) (HP3.out.drewN nq), dk6 _ _ _ (by omega) (by omega) (HL3.out.drewN nq)⟩, dk5 _ _ (by omega) (below_drewN' HB3.out nq)⟩
      rw [HY.out hl]
      unfold nvs
      simpa [nvs] using dk4
    · have hld : decide (z = y + 1) = false := decide_eq_false hl
      have hlb : ((z : Int) == y + 1) = false := beq_false_of_ne hl
      gi_wp2
      refine wpIn_region_split 16 rfl rfl (by kernel_rfl) (by kernel_rfl) (by kernel_rfl) ?_
      simp only [List.take_succ_cons, List.take_zero, List.drop_succ_cons, List.drop_zero]
      repeat (gi_big_quiet_step (fail))
      refine wpQuietIn_nil ?_
      rintro _ ⟨nq, rfl⟩
      gi_wp2
      refine rec_go ((others_drew W nq).from _) (kps_drew W nq) ⟨⟨⟨u, HD3.out, ?_, trivial⟩, HC3.out.drewN nq, HP3.out.drewN nq, HL3.out.drewN nq⟩, below_drewN' HB3.out nq⟩
      rw [HNO.out hl]
      exact HROW.out
  case done =>
    rintro D xs W hD rfl ⟨⟨⟨u, D3, hrow, -⟩, -⟩, B3⟩ hDef
    have d0 := D3.cell
    have HROW := Lib.hid hrow; have HB3 := Lib.hid B3
    clear C2 P2 L2 D2 Bw hf hrow B3
    gi_wp2
    refine ⟨by simp, .inl ⟨_, _, rfl, run_takeDeferred hDef, ?_⟩⟩
    obtain ⟨A, c, rfl⟩ := own_slice HROW.out
    exact ⟨_, results_tmp rfl _ _ _, A, c, rfl, own_base (ownsRow_putObj HROW.out _ hDef rfl) (by have := HS1.out; have := HS2.out; omega), rch_drop HB3.out (by have := HS1.out; have := HS2.out; omega) hDef rfl rfl⟩
  case stop =>
    rintro D pre W _ _ h
    exact h.elim

end Go.Proofs.Ytanifbofjecpmaa

/-! Rhto -/
namespace Go.Proofs.Ytanifbofjecpmaa
open Go.RowKit Go.Shelf
set_option maxRecDepth 100000
attribute [local go_sem] Oper.semAt_some

def plus1 (y : Int) : Int := IntKind.i64.wrap (y + 1)
/-- v is no lower than 0, lower than 2N, and no more than one above each end of its open residual arcs. -/
def RhOk (N : Nat) (fst hd : Nat → Nat) (X H : List Int) (v : Nat) : Prop := 0 ≤ hOf H v ∧ hOf H v < 2 * N ∧ ∀ a, fst v ≤ a → a < fst (v + 1) → opn X a = true → hOf H v ≤ plus1 (hOf H (hd a))
def RhTo (hd : Nat → Nat) (H : List Int) {fst : Nat → Nat} {v : Nat} (pre : List (RowAt fst v)) : Prop := ∀ x ∈ pre, hOf H v ≤ plus1 (hOf H (hd x.1))

set_option maxHeartbeats 8000000 in
theorem rh_is (N M s t v nE : Nat) (K : CsrS) (Q : PreS) (fst hd rv : Nat → Nat) (X E H : List Int) (w : World) (hG : Grid N M fst hd rv) (hI : GridIn w w.heap.size N M K fst hd rv) (hQ : StIn w w.heap.size M nE N Q X E H) (hv : v < N) (hM : M ≤ 100000000) (hN : N ≤ 4096) (hR : ∀ x ∈ H, InR x) (r : Bool) (hr : r = true ↔ RhOk N fst hd X H v) :
    Calls Try.prog 54 #[csrW N M s t K, preW M nE N Q, .int .i64 (v : Int)] w fun e w' => e = .returned (.bool r) ∧ Below w.heap.size w w' := by
  have HG := Lib.hid hG; have HI := Lib.hid hI; have HQ := Lib.hid hQ; have HHH := Lib.hid hR; have HRR := Lib.hid hr
  have hready := fun w1 w2 hw => open_ready w.heap.size N M s t v nE N K Q fst hd rv X E H (fun k => k = w.heap.size + 1 + 1 + 1) w1 w2 hw hG
  have HR := Lib.hid hready
  have hopen := open_is N M s t K M nE N Q v
  have HO := Lib.hid hopen
  obtain ⟨AF, cF, AH, cH, AR, cR, AC, cC, AA, cA, AB, cB⟩ := K
  obtain ⟨AX, cX, AE, cE, AHH, cHH⟩ := Q
  dsimp only [csrW, preW] at HR HO ⊢
  clear hG hready hopen hR hr
  obtain ⟨bA, oA, hAa⟩ := hQ.iH.adr (by omega)
  dsimp only at hAa
  subst hAa
  obtain ⟨hbA, cv⟩ := hQ.iH.cel (hOf_get hQ.iH.len hv)
  clear hI hQ
  have hw2 : IntKind.i64.wrap (2 * (N : Int)) = 2 * (N : Int) := wrap_in (by omega) (by omega)
  refine (callsIn_wide (n := 3)).1 ?_
  refine callsIn_of_wp_marks Try.func54 rfl trivial ?_ rfl
  simp only [Try.ntmps54, List.size_toArray, List.length_cons, List.length_nil, Nat.reduceAdd, Nat.reduceSub, Array.replicate_succ, Array.replicate_zero, List.push_toArray, List.append_toArray, List.nil_append, List.cons_append]
  obtain ⟨z, hz⟩ : ∃ z, hOf H v = z := ⟨_, rfl⟩
  have HZ := Lib.hid hz
  rw [hz] at cv
  clear hz
  gi_wp2
  obtain ⟨w1, hw1⟩ : ∃ w1, ((((w.alloc (.cells #[.int .i64 (N : Int), .int .i64 (s : Int), .int .i64 (t : Int), .slice AF (N + 1) cF, .slice AH M cH, .slice AR M cR, .slice AC M cC, .slice AA M cA, .slice AB M cB] 32)).alloc (.cells #[.slice AX M cX, .slice AE nE cE, .slice (some ⟨bA, oA, none⟩) N cHH] 29)).alloc (.cells #[.int .i64 (v : Int)] 3)).alloc (.cells #[.bool false] 4)) = w1 := ⟨_, rfl⟩
  have B1 : Below w.heap.size w w1 := by rw [← hw1]; exact ((((Below.refl _ w).alloc (Nat.le_refl _) _).alloc (by simp) _).alloc (by simp; omega) _).alloc (by simp; omega) _
  have S1 : w1.heap.size = w.heap.size + 4 := by rw [← hw1]; simp
  have C1 : Blk w1 w.heap.size 32 #[.int .i64 (N : Int), .int .i64 (s : Int), .int .i64 (t : Int), .slice AF (N + 1) cF, .slice AH M cH, .slice AR M cR, .slice AC M cC, .slice AA M cA, .slice AB M cB] := by rw [← hw1]; exact (((Blk.new rfl).alloc _).alloc _).alloc _
  have P1 : Blk w1 (w.heap.size + 1) 29 #[.slice AX M cX, .slice AE nE cE, .slice (some ⟨bA, oA, none⟩) N cHH] := by rw [← hw1]; exact ((Blk.new (by simp)).alloc _).alloc _
  have L1 : Blk w1 (w.heap.size + 1 + 1) 3 #[.int .i64 (v : Int)] := by rw [← hw1]; exact (Blk.new (by simp)).alloc _
  have D1 : Blk w1 (w.heap.size + 1 + 1 + 1) 4 #[.bool false] := by rw [← hw1]; exact Blk.new (by simp)
  rw [hw1]
  clear hw1
  have cv1 : w1.cell? ⟨bA, oA + v, none⟩ = some (.int .i64 z) := (B1.cell (by simpa using hbA)).trans cv
  obtain ⟨a0, a1, a2, a3, a4, a5, a6, a7, a8⟩ := C1.at9
  have p0 := P1.cell 0; have p1 := P1.cell 1; have p2 := P1.cell 2; have l0 := L1.cell 0; have d0 := D1.cell 0
  simp only [List.getElem?_toArray, List.getElem?_cons_zero, List.getElem?_cons_succ] at p0 p1 p2 l0 d0
  have df := D1.frozen 0
  have hz1 := C1.lt; have hz2 := P1.lt; have hz3 := L1.lt; have hz4 := D1.lt
  have HS1 := Lib.hid S1; have HC1 := Lib.hid C1; have HP1 := Lib.hid P1; have HL1 := Lib.hid L1; have HD1 := Lib.hid D1; have HB1 := Lib.hid B1
  clear cv S1 C1 P1 L1 D1 B1
  by_cases h0 : z < 0
  · have hrf : r = false := by
      cases r with
      | false => rfl
      | true => have := (HRR.out.1 rfl).1; have := HZ.out; omega
    subst hrf
    refine wpIn_region_split 17 rfl rfl (by kernel_rfl) (by kernel_rfl) (by kernel_rfl) ?_
    simp only [List.take_succ_cons, List.take_zero, List.drop_succ_cons, List.drop_zero]
    repeat (gi_big_quiet_step (fail))
    refine wpQuietIn_nil ?_
    rintro _ ⟨nq, rfl⟩
    gi_wp2
    have r1 := ((HD1.out.drewN nq).set 0 (.bool false)).cell 0
    have r2 : ((w1.drewN nq).setCell ⟨w.heap.size + 1 + 1 + 1, 0, none⟩ (.bool false)).cell? ⟨w.heap.size + 1 + 1 + 1, 0, none⟩ = some (.bool false) := r1
    refine ⟨.bool false, ?_, rfl, (below_drewN' HB1.out nq).setCell (p := ⟨w.heap.size + 1 + 1 + 1, 0, none⟩) (by simp; omega) _⟩
    simp [results, Try.results54, go_sem, r2]
  by_cases h2 : z < 2 * N
  · have h2' : decide (2 * (N : Int) ≤ z) = false := decide_eq_false (by omega)
    have h0' : decide (z < 0) = false := decide_eq_false h0
    refine wpIn_region_split 17 rfl rfl (by kernel_rfl) (by kernel_rfl) (by kernel_rfl) ?_
    simp only [List.take_succ_cons, List.take_zero, List.drop_succ_cons, List.drop_zero]
    repeat (gi_big_quiet_step (fail))
    refine wpQuietIn_nil ?_
    rintro _ ⟨nq, rfl⟩
    gi_wp2
    refine ⟨trivial, (callsIn_wide.2 (HO.out _)).mono ?_⟩
    rintro e w2 ⟨rfl, hw2'⟩
    obtain ⟨w3, hw3⟩ : ∃ w3, w1.drewN nq = w3 := ⟨_, rfl⟩
    have B3 : Below w.heap.size w w3 := by rw [← hw3]; exact below_drewN' HB1.out nq
    have S3 : w3.heap.size = w.heap.size + 4 := by rw [← hw3]; exact HS1.out
    have C3 : Blk w3 w.heap.size 32 #[.int .i64 (N : Int), .int .i64 (s : Int), .int .i64 (t : Int), .slice AF (N + 1) cF, .slice AH M cH, .slice AR M cR, .slice AC M cC, .slice AA M cA, .slice AB M cB] := by rw [← hw3]; exact HC1.out
    have P3 : Blk w3 (w.heap.size + 1) 29 #[.slice AX M cX, .slice AE nE cE, .slice (some ⟨bA, oA, none⟩) N cHH] := by rw [← hw3]; exact HP1.out
    have L3 : Blk w3 (w.heap.size + 1 + 1) 3 #[.int .i64 (v : Int)] := by rw [← hw3]; exact HL1.out
    have D3 : Blk w3 (w.heap.size + 1 + 1 + 1) 4 #[.bool false] := by rw [← hw3]; exact HD1.out
    rw [hw3] at hw2' ⊢
    obtain ⟨hf, S2, B2⟩ := HR.out w3 w2 hw2' (HI.out.below B3) (HQ.out.below B3) (by omega) hv hM hN (by rintro k rfl; omega)
    have C2 := C3.below B2 C3.lt; have P2 := P3.below B2 P3.lt; have L2 := L3.below B2 L3.lt; have D2 := D3.below B2 D3.lt
    have Bw := below_step B3 B2
    have HS3 := Lib.hid S3; have HS2 := Lib.hid S2
    clear hw2' C3 P3 L3 D3 B2 S2 S3 hw3 a0 a1 a2 a3 a4 a5 a6 a7 a8 p0 p1 p2 l0 d0 df hz1 hz2 hz3 hz4 HC1 HP1 HL1 HD1 HB1 cv1 B3
    gi_wp2
    refine range_go (n := 3) (gf := 99) (lb := #[.pointer (some ⟨w3.heap.size, 0, none⟩), .pointer (some ⟨w3.heap.size + 1 + 1, 0, none⟩), .pointer (some ⟨w3.heap.size + 1, 0, none⟩)]) rfl (enters_of Try.func99 (by kernel_rfl) rfl)
      hf Kps.trans (fun W _ o' _ => popen_put W o') (fun _ => rfl)
      (fun pre W => ((Blk W (w.heap.size + 1 + 1 + 1) 4 #[.bool false] ∧ RhTo hd H pre) ∧
        (Blk W w.heap.size 32 #[.int .i64 (N : Int), .int .i64 (s : Int), .int .i64 (t : Int), .slice AF (N + 1) cF, .slice AH M cH, .slice AR M cR, .slice AC M cC, .slice AA M cA, .slice AB M cB] ∧ Blk W (w.heap.size + 1) 29 #[.slice AX M cX, .slice AE nE cE, .slice (some ⟨bA, oA, none⟩) N cHH] ∧ Blk W (w.heap.size + 1 + 1) 3 #[.int .i64 (v : Int)])) ∧ Below w.heap.size w W)
      (fun pre W => (Blk W (w.heap.size + 1 + 1 + 1) 4 #[.bool false] ∧ ¬ RhTo hd H pre) ∧ Below w.heap.size w W)
      (OwnFrom.and (OwnFrom.and (OwnFrom.and (ownFrom_blk _ _ _ _) (ownFrom_pure _ fun pre => RhTo hd H pre)) (OwnFrom.and (ownFrom_blk _ _ _ _) (OwnFrom.and (ownFrom_blk _ _ _ _) (ownFrom_blk _ _ _ _)))) (ownFrom_below (Nat.le_refl _) Bw.size))
      (OwnFrom.and (OwnFrom.and (ownFrom_blk _ _ _ _) (ownFrom_pure _ fun pre => ¬ RhTo hd H pre)) (ownFrom_below (Nat.le_refl _) Bw.size))
      ⟨⟨⟨D2, fun _ h => (by cases h)⟩, C2, P2, L2⟩, Bw⟩
      ?round ?done ?stop
    case round =>
      clear C2 P2 L2 D2 Bw hf
      rintro l pre ⟨a, ha⟩ W0
      unfold tellR
      gi_wp2
      refine ⟨trivial, ?_⟩
      rintro W ⟨⟨⟨D3, hto⟩, C3, P3, L3⟩, B3⟩ hlen h5
      have hfl := HG.out.fle (v := v + 1) (by omega)
      have haM : a < M := by omega
      have I3 := HI.out.below B3
      have Q3 := HQ.out.below B3
      obtain ⟨bH, oH, hHa⟩ := I3.iH.adr (by omega)
      dsimp only at hHa
      subst hHa
      obtain ⟨hbH, ch⟩ := tab_cell I3.iH haM
      have hdN := HG.out.hdl a haM
      obtain ⟨-, ca⟩ := Q3.iH.cel (hOf_get Q3.iH.len hdN)
      obtain ⟨-, cv⟩ := Q3.iH.cel (hOf_get Q3.iH.len hv)
      obtain ⟨a0, a1, a2, a3, a4, a5, a6, a7, a8⟩ := C3.at9
      have p0 := P3.cell 0; have p1 := P3.cell 1; have p2 := P3.cell 2
      have l0 := L3.cell 0
      have d0 := D3.cell 0
      simp only [List.getElem?_toArray, List.getElem?_cons_zero, List.getElem?_cons_succ] at p0 p1 p2 l0 d0
      have df := D3.frozen 0
      have hz := B3.size; have hz1 := C3.lt; have hz2 := P3.lt; have hz3 := L3.lt; have hz4 := D3.lt
      have yes : hOf H v ≤ plus1 (hOf H (hd a)) → RhTo hd H (pre ++ [(⟨a, ha⟩ : RowAt fst v)]) := fun h x hx => by
        rcases List.mem_append.1 hx with hx | hx
        · exact hto x hx
        · simp at hx; subst hx; exact h
      have no : ¬ hOf H v ≤ plus1 (hOf H (hd a)) → ¬ RhTo hd H (pre ++ [(⟨a, ha⟩ : RowAt fst v)]) := fun h h' => h (h' ⟨a, ha⟩ (by simp))
      have HY := Lib.hid yes; have HNO := Lib.hid no
      rw [HZ.out] at cv HY HNO
      clear yes no hto
      obtain ⟨p, hp⟩ : ∃ p, hd a = p := ⟨_, rfl⟩
      simp only [hp] at ch ca hdN HY HNO
      obtain ⟨y, hy⟩ : ∃ y, hOf H p = y := ⟨_, rfl⟩
      simp only [hy] at ca HY HNO
      obtain ⟨q, hq⟩ : ∃ q, plus1 y = q := ⟨_, rfl⟩
      simp only [hq] at HY HNO
      have hwq : IntKind.i64.wrap (y + 1) = q := hq
      have HC3 := Lib.hid C3; have HP3 := Lib.hid P3; have HL3 := Lib.hid L3; have HB3 := Lib.hid B3; have HD3 := Lib.hid D3
      clear hp hy I3 Q3 D3 C3 P3 B3 L3 hlen h5 hq
      have hs1 := HS3.out; have hs2 := HS2.out
      have HSA := Lib.hid hs1; have HSB := Lib.hid hs2
      clear hs1 hs2
      by_cases hl : z ≤ q
      · have hl' : decide (q < z) = false := decide_eq_false (by omega)
        gi_wp2
        refine wpIn_region_split 16 rfl rfl (by kernel_rfl) (by kernel_rfl) (by kernel_rfl) ?_
        simp only [List.take_succ_cons, List.take_zero, List.drop_succ_cons, List.drop_zero]
        repeat (gi_big_quiet_step (fail))
        refine wpQuietIn_nil ?_
        rintro _ ⟨nq, rfl⟩
        gi_wp2
        exact rec_go ((others_drew W nq).from _) (kps_drew W nq) ⟨⟨⟨HD3.out.drewN nq, HY.out hl⟩, HC3.out.drewN nq, HP3.out.drewN nq, HL3.out.drewN nq⟩, below_drewN' HB3.out nq⟩
      · have hl' : q < z := by omega
        gi_wp2
        refine wpIn_region_split 16 rfl rfl (by kernel_rfl) (by kernel_rfl) (by kernel_rfl) ?_
        simp only [List.take_succ_cons, List.take_zero, List.drop_succ_cons, List.drop_zero]
        repeat (gi_big_quiet_step (fail))
        refine wpQuietIn_nil ?_
        rintro _ ⟨nq, rfl⟩
        gi_wp2
        exact rec_ret (((others_drew W nq).trans (KeepsOthers.setCell _ _ _)).from _) ((kps_drew W nq).trans (popen_set rfl (by have := HSA.out; have := HSB.out; omega))) ⟨⟨(HD3.out.drewN nq).set 0 _, HNO.out hl⟩, (below_drewN' HB3.out nq).setCell (by simp; omega) _⟩
    case done =>
      rintro D xs W hD rfl ⟨⟨⟨D3, hto⟩, -⟩, B3⟩ hDef
      have hrt : r = true := HRR.out.2 ⟨by rw [HZ.out]; omega, by rw [HZ.out]; omega, fun a h1 h3 h4 => hto ⟨a, h1, h3⟩ (rowIf_mem.2 ⟨(show a < fst v + (fst (v + 1) - fst v) by omega), h4⟩)⟩
      subst hrt
      have df := D3.frozen 0
      have d0 := D3.cell 0
      simp only [List.getElem?_toArray, List.getElem?_cons_zero] at d0
      have hz4 := D3.lt
      clear C2 P2 L2 D2 Bw hf hto
      gi_wp2
      have hDef' := (KeepsOthers.setCell W ⟨w.heap.size + 1 + 1 + 1, 0, none⟩ (.bool true)).same D _ hDef rfl
      refine ⟨by simp, .inl ⟨_, _, rfl, run_takeDeferred hDef', ?_⟩⟩
      have r1 := (D3.set 0 (.bool true)).cell 0
      have hc5 := cell_kept r1 (grownBy_putObj' _ D (.deferred none)) (fun r e => by cases e; exact ⟨_, hDef', rfl⟩)
      refine ⟨.bool true, ?_, rfl, rch_drop (B3.setCell (p := ⟨w.heap.size + 1 + 1 + 1, 0, none⟩) (by simp; omega) _) (by have := HS3.out; have := HS2.out; omega) hDef' rfl rfl⟩
      simp [results, Try.results54, go_sem, hc5]
    case stop =>
      rintro D pre W hD ⟨k, hk, rfl⟩ ⟨⟨D3, hto⟩, B3⟩ hDef
      have hrf : r = false := by
        cases r with
        | false => rfl
        | true => exact absurd (show RhTo hd H (rowIf fst v (opn X) k) from fun x hx => (HRR.out.1 rfl).2.2 x.1 x.2.1 x.2.2 (rowIf_mem.1 hx).2) hto
      subst hrf
      have d0 := D3.cell 0
      simp only [List.getElem?_toArray, List.getElem?_cons_zero] at d0
      clear C2 P2 L2 D2 Bw hf hto
      gi_wp2
      refine ⟨by simp, .inl ⟨_, _, rfl, run_takeDeferred hDef, ?_⟩⟩
      have hc5 := cell_kept d0 (grownBy_putObj' _ D (.deferred none)) (fun r e => by cases e; exact ⟨_, hDef, rfl⟩)
      refine ⟨.bool false, ?_, rfl, rch_drop B3 (by have := HS3.out; have := HS2.out; omega) hDef rfl rfl⟩
      simp [results, Try.results54, go_sem, hc5]
  · have hrf : r = false := by
      cases r with
      | false => rfl
      | true => have := (HRR.out.1 rfl).2.1; have := HZ.out; omega
    subst hrf
    have h0' : decide (z < 0) = false := decide_eq_false h0
    have h2' : 2 * (N : Int) ≤ z := by omega
    refine wpIn_region_split 17 rfl rfl (by kernel_rfl) (by kernel_rfl) (by kernel_rfl) ?_
    simp only [List.take_succ_cons, List.take_zero, List.drop_succ_cons, List.drop_zero]
    repeat (gi_big_quiet_step (fail))
    refine wpQuietIn_nil ?_
    rintro _ ⟨nq, rfl⟩
    gi_wp2
    have r1 := ((HD1.out.drewN nq).set 0 (.bool false)).cell 0
    have r2 : ((w1.drewN nq).setCell ⟨w.heap.size + 1 + 1 + 1, 0, none⟩ (.bool false)).cell? ⟨w.heap.size + 1 + 1 + 1, 0, none⟩ = some (.bool false) := r1
    refine ⟨.bool false, ?_, rfl, (below_drewN' HB1.out nq).setCell (p := ⟨w.heap.size + 1 + 1 + 1, 0, none⟩) (by simp; omega) _⟩
    simp [results, Try.results54, go_sem, r2]

end Go.Proofs.Ytanifbofjecpmaa
