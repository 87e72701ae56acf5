/- Layer 7: open: the open residual arcs of a vertex, told one by one. -/
import Derived.Test.YtanifbofjecpmaaRowo
namespace Go.Proofs.Ytanifbofjecpmaa
open Go.RowKit Go.Shelf
set_option maxRecDepth 100000
attribute [local go_sem] Oper.semAt_some

/-- Where the rows of a state lie. -/
structure PreS where
  AX : Option Addr
  cX : Nat
  AE : Option Addr
  cE : Nat
  AH : Option Addr
  cH : Nat
abbrev preW (nX nE nH : Nat) (P : PreS) : Value := .agg #[.slice P.AX nX P.cX, .slice P.AE nE P.cE, .slice P.AH nH P.cH]
structure StIn (w : World) (x nX nE nH : Nat) (P : PreS) (X E H : List Int) : Prop where
  iX : Ints w x P.AX nX X
  iE : Ints w x P.AE nE E
  iH : Ints w x P.AH nH H
section
variable {w w' : World} {x y nX nE nH : Nat} {P : PreS} {X E H : List Int}
theorem StIn.below (h : StIn w x nX nE nH P X E H) (hb : Below x w w') : StIn w' x nX nE nH P X E H := ⟨h.iX.below hb, h.iE.below hb, h.iH.below hb⟩
theorem StIn.more (h : StIn w x nX nE nH P X E H) (hb : x ≤ y) : StIn w y nX nE nH P X E H := ⟨h.iX.more hb, h.iE.more hb, h.iH.more hb⟩
theorem StIn.on (h : StIn w w.heap.size nX nE nH P X E H) (hb : Below w.heap.size w w') : StIn w' w'.heap.size nX nE nH P X E H := (h.below hb).more hb.size
theorem StIn.onAlloc (h : StIn w w.heap.size nX nE nH P X E H) (o : Obj) : StIn (w.alloc o) (w.alloc o).heap.size nX nE nH P X E H := h.on (below_alloc o)
end
theorem rowIf_filter (fst : Nat → Nat) (v : Nat) (p : Nat → Bool) : ∀ k, (rowIf fst v (fun _ => true) k).filter (fun x => p x.1) = rowIf fst v p k
  | 0 => rfl
  | k + 1 => by
    simp only [rowIf, List.filter_append, rowIf_filter fst v p k]
    congr 1
    by_cases h1 : fst v + k < fst (v + 1)
    · by_cases h2 : p (fst v + k) = true
      · rw [dif_pos ⟨h1, trivial⟩, dif_pos ⟨h1, h2⟩]; simp [h2]
      · rw [dif_pos ⟨h1, trivial⟩, dif_neg (fun e => h2 e.2)]; simp [h2]
    · rw [dif_neg (fun e => h1 e.1), dif_neg (fun e => h1 e.1)]; rfl
theorem ownFrom_map {β γ : Type} {B : Nat} {I : γ → World → Prop} (h : OwnFrom B I) (f : β → γ) : OwnFrom B (fun s W => I (f s) W) := fun s W W' row hs hg hr => h (f s) W W' row hs hg hr
theorem ownFrom_lt {β : Type} {B B' : Nat} {I : β → World → Prop} (h : OwnFrom B I) (hb : B ≤ B') : OwnFrom B' I := fun s W W' row hs hg hr => h s W W' row hs hg fun r e => ⟨by have := (hr r e).1; omega, (hr r e).2⟩

set_option maxHeartbeats 4000000 in
theorem open_is (N M s t : Nat) (K : CsrS) (nX nE nH : Nat) (Q : PreS) (u : Nat) (w : World) :
    Calls Try.prog 80 #[csrW N M s t K, preW nX nE nH Q, .int .i64 (u : Int)] w fun e w' =>
      e = .returned (.func (.func 99) #[] #[.pointer (some ⟨w.heap.size, 0, none⟩), .pointer (some ⟨w.heap.size + 1 + 1, 0, none⟩), .pointer (some ⟨w.heap.size + 1, 0, none⟩)]) ∧
        w' = ((w.alloc (.cells #[.int .i64 (N : Int), .int .i64 (s : Int), .int .i64 (t : Int), .slice K.AF (N + 1) K.cF, .slice K.AH M K.cH, .slice K.AR M K.cR, .slice K.AC M K.cC, .slice K.AA M K.cA, .slice K.AB M K.cB] 32)).alloc (.cells #[.slice Q.AX nX Q.cX, .slice Q.AE nE Q.cE, .slice Q.AH nH Q.cH] 29)).alloc (.cells #[.int .i64 (u : Int)] 3) := by
  obtain ⟨AF, cF, AH, cH, AR, cR, AC, cC, AA, cA, AB, cB⟩ := K
  obtain ⟨AX, cX, AE, cE, AHH, cHH⟩ := Q
  dsimp only [csrW, preW]
  go_enter Try.func80, Try.ntmps80
  go_wp2_with fail
  go_ret
  exact ⟨rfl, rfl⟩

set_option maxHeartbeats 4000000 in
theorem open1_feeds (gc gu gp N M s t v nE nH : Nat) (K : CsrS) (Q : PreS) (fst hd rv : Nat → Nat) (X E H : List Int) (P : Nat → Obj → Prop) (w : World)
    (hG : Grid N M fst hd rv) (hI : GridIn w w.heap.size N M K fst hd rv) (hQ : StIn w w.heap.size M nE nH Q X E H) (hv : v < N) (hM : M ≤ 100000000) (hN : N ≤ 4096)
    (hC : Blk w gc 32 #[.int .i64 (N : Int), .int .i64 (s : Int), .int .i64 (t : Int), .slice K.AF (N + 1) K.cF, .slice K.AH M K.cH, .slice K.AR M K.cR, .slice K.AC M K.cC, .slice K.AA M K.cA, .slice K.AB M K.cB]) (hU : Blk w gu 3 #[.int .i64 (v : Int)])
    (hP : Blk w gp 29 #[.slice Q.AX M Q.cX, .slice Q.AE nE Q.cE, .slice Q.AH nH Q.cH])
    (hP1 : ∀ k o, w.heap.size + 2 ≤ k → k < w.heap.size + 5 → P k o) (hP2 : ∀ k o, w.heap.size + 2 ≤ k → o.isCells = false → P k o) (hPp : ∀ o, P gp o) (hPF : ∀ a o, K.AF = some a → P a.block o) (hPX : ∀ a o, Q.AX = some a → 0 < M → P a.block o) :
    Feeds 5 99 #[.pointer (some ⟨gc, 0, none⟩), .pointer (some ⟨gu, 0, none⟩), .pointer (some ⟨gp, 0, none⟩)] tellR (Kps P) (fun xs => xs = rowIf fst v (opn X) (fst (v + 1) - fst v)) (fun pre => ∃ k, k ≤ fst (v + 1) - fst v ∧ pre = rowIf fst v (opn X) k) (fst (v + 1) - fst v) w := by
  intro z J Jx W hW hsz hJ hJx hY h0
  have hmo := hG.mono v hv
  have hfz := hG.fle (v := v + 1) (by omega)
  have hI := hI.below hW
  have hQ := hQ.below hW
  have hlc := hC.lt; have hlu := hU.lt; have hlp := hP.lt
  have hC := hC.below hW hC.lt
  have hU := hU.below hW hU.lt
  have hP := hP.below hW hP.lt
  obtain ⟨bF, oF, hFa⟩ := hI.iF.adr (by omega)
  obtain ⟨AF, cF, AH, cH, AR, cR, AC, cC, AA, cA, AB, cB⟩ := K
  obtain ⟨AX, cX, AE, cE, AHH, cHH⟩ := Q
  dsimp only at hC hP hFa hPF hPX
  subst hFa
  have HSZ := Lib.hid hsz; clear hsz
  have HJ := Lib.hid hJ; have HJX := Lib.hid hJx; have HY := Lib.hid hY; have H0 := Lib.hid h0; have HI := Lib.hid hI; have HQ := Lib.hid hQ
  have HP1 := Lib.hid hP1; have HP2 := Lib.hid hP2; have HPX := Lib.hid hPX
  have hPFo := fun o => hPF _ o rfl
  have HPF := Lib.hid hPFo
  clear hJ hJx hY h0 hI hQ hP1 hP2 hPX hPF hPFo
  refine (callsIn_wide (n := 3)).1 ?_
  refine callsIn_of_wp_marks Try.func99 rfl trivial ?_ rfl
  simp only [Try.ntmps99, List.size_toArray, List.length_cons, List.length_nil, Nat.reduceAdd, Nat.reduceSub, Array.replicate_succ, Array.replicate_zero, List.push_toArray, List.append_toArray, List.nil_append, List.cons_append]
  obtain ⟨a0, a1, a2, a3, a4, a5, a6, a7, a8⟩ := hC.at9
  have u0 := hU.cell 0
  simp only [List.getElem?_toArray, List.getElem?_cons_zero] at u0
  have hz1 := hC.lt; have hz2 := hU.lt
  gi_wp2
  refine ⟨trivial, (callsIn_wide.2 (row_is N M s t ⟨some ⟨bF, oF, none⟩, cF, AH, cH, AR, cR, AC, cC, AA, cA, AB, cB⟩ v _)).mono ?_⟩
  rintro e w2 ⟨rfl, rfl⟩
  gi_wp2
  obtain ⟨w1, hw1⟩ : ∃ w1, ((W.alloc (.cells #[.func (.yield z) #[] #[]] 94)).alloc (.cells #[.int .i64 (N : Int), .int .i64 (s : Int), .int .i64 (t : Int), .slice (some ⟨bF, oF, none⟩) (N + 1) cF, .slice AH M cH, .slice AR M cR, .slice AC M cC, .slice AA M cA, .slice AB M cB] 32)).alloc (.cells #[.int .i64 (v : Int)] 3) = w1 := ⟨_, rfl⟩
  have B1 : Below W.heap.size W w1 := by rw [← hw1]; exact (((Below.refl _ W).alloc (Nat.le_refl _) _).alloc (by simp) _).alloc (by simp; omega) _
  have Y1 : Blk w1 W.heap.size 94 #[.func (.yield z) #[] #[]] := by rw [← hw1]; exact ((Blk.new rfl).alloc _).alloc _
  have C1 : Blk w1 (W.heap.size + 1) 32 #[.int .i64 (N : Int), .int .i64 (s : Int), .int .i64 (t : Int), .slice (some ⟨bF, oF, none⟩) (N + 1) cF, .slice AH M cH, .slice AR M cR, .slice AC M cC, .slice AA M cA, .slice AB M cB] := by rw [← hw1]; exact (Blk.new (by simp)).alloc _
  have U1 : Blk w1 (W.heap.size + 1 + 1) 3 #[.int .i64 (v : Int)] := by rw [← hw1]; exact Blk.new (by simp)
  have S1 : w1.heap.size = W.heap.size + 3 := by rw [← hw1]; simp
  rw [hw1]
  have HS1 := Lib.hid S1
  have P1 := hP.below B1 hP.lt
  have J1 : J [] w1 := by
    rw [← hw1]
    exact HJ.out _ _ _ none (HJ.out _ _ _ none (HJ.out _ _ _ none H0.out (World.grownBy_alloc _ _ none) (fun _ e => by cases e)) (World.grownBy_alloc _ _ none) (fun _ e => by cases e)) (World.grownBy_alloc _ _ none) (fun _ e => by cases e)
  have F1 : Ints w1 w1.heap.size (some ⟨bF, oF, none⟩) (N + 1) (tab (N + 1) fun v => (fst v : Int)) := HI.out.iF.below ((B1.mono (by have := HSZ.out; omega))) |>.more (by have := HSZ.out; omega)
  have hbF := (tab_cell F1 (k := 0) (by omega)).1
  clear hw1 S1
  clear a0 a1 a2 a3 a4 a5 a6 a7 a8 u0 hz1 hz2
  have hx := HQ.out.iX
  dsimp only at hx
  refine wpIn_rangeFunc_ownG rfl (by omega) (gf := 78) (lb := #[.pointer (some ⟨W.heap.size + 1, 0, none⟩), .pointer (some ⟨W.heap.size + 1 + 1, 0, none⟩)]) rfl trivial (enters_of Try.func78 (by kernel_rfl) rfl)
    (row_stops 2 (W.heap.size + 1) (W.heap.size + 1 + 1) bF oF cF N s t v _ _ _ _ _ fst (fun k o => k < w1.heap.size ∧ P k o) w1 hv hmo (by omega) hN C1 U1 F1 (fun o => ⟨C1.lt, HP1.out _ _ (by have := HSZ.out; omega) (by have := HSZ.out; omega)⟩) (fun o => ⟨U1.lt, HP1.out _ _ (by have := HSZ.out; omega) (by have := HSZ.out; omega)⟩) (fun o => ⟨hbF, HPF.out o⟩))
    Kps.trans (fun X l o o' hl _ _ _ => Kps.put fun o2 _ h2 => by have := h2.1; omega) (Below.refl _ _) (fun _ => rfl)
    (fun pre W' => J (pre.filter fun x => opn X x.1) W' ∧ Kps (fun k o => k < w1.heap.size ∧ P k o) w1 W')
    (fun c pre W' => c = .ret ∧ Jx (pre.filter fun x => opn X x.1) W')
    (OwnFrom.and (ownFrom_lt (ownFrom_map HJ.out _) B1.size) (Kps.own fun k o h => h.1))
    (fun c s A C row hs hg hr => ⟨hs.1, ownFrom_lt (ownFrom_map HJX.out (fun pre : List (RowAt fst v) => pre.filter fun x => opn X x.1)) B1.size s A C row hs.2 hg hr⟩)
    ⟨J1, Kps.refl⟩
    (fun x => { tmps := #[.func (.yield z) #[] #[], .pointer (some ⟨gc, 0, none⟩), .pointer (some ⟨gu, 0, none⟩), .pointer (some ⟨gp, 0, none⟩), .pointer (some ⟨W.heap.size, 0, none⟩), .int .i64 (x.1 : Int),
      .agg #[.int .i64 (N : Int), .int .i64 (s : Int), .int .i64 (t : Int), .slice (some ⟨bF, oF, none⟩) (N + 1) cF, .slice AH M cH, .slice AR M cR, .slice AC M cC, .slice AA M cA, .slice AB M cB], .int .i64 (v : Int),
      .func (.func 78) #[] #[.pointer (some ⟨W.heap.size + 1, 0, none⟩), .pointer (some ⟨W.heap.size + 1 + 1, 0, none⟩)], .int .i64 (x.1 : Int), undef, undef, undef, undef, undef, undef, undef, undef, undef, undef, undef, undef], defers := [] }) ?assign ?body ?done ?stop
  case assign =>
    intro l x W' Kq hKq
    unfold tellR
    gi_wp2
    exact hKq
  case body =>
    rintro l pre ⟨a, ha1, ha2⟩ W' ⟨hj, hk⟩ hlen
    have P2 := hk.blk P1 ⟨P1.lt, hPp _⟩
    have Y2 := hk.blk Y1 ⟨Y1.lt, HP1.out _ _ (by have := HSZ.out; omega) (by have := HSZ.out; omega)⟩
    have haM : a < M := by omega
    obtain ⟨bX, oX, x, hAX, hbX, hxa, cx⟩ := intl_at hx haM
    subst hAX
    have cx2 := hk.cell (p := ⟨bX, oX + a, none⟩) (fun o _ => ⟨by simp; have := HS1.out; have := HSZ.out; omega, HPX.out ⟨bX, oX, none⟩ o rfl (by omega)⟩) ((B1.cell (p := ⟨bX, oX + a, none⟩) (by simp; have := HSZ.out; omega)).trans cx)
    have p0 := P2.cell 0
    have y0 := Y2.cell 0
    simp only [List.getElem?_toArray, List.getElem?_cons_zero] at p0 y0
    have hz1 := P2.lt; have hz2 := Y2.lt
    have hop := opn_at hxa
    have hlf : (pre.filter fun x => opn X x.1).length ≤ pre.length := List.length_filter_le _ _
    have hsz5 : w.heap.size + 5 ≤ W'.heap.size := by have := hk.size; have := HS1.out; have := HSZ.out; omega
    have HK := Lib.hid hk; have HOP := Lib.hid hop
    clear hop hxa cx P2 Y2 hk
    by_cases h0 : 0 < x
    · have hop : opn X a = true := by rw [HOP.out]; simp [h0]
      have hfl : (pre ++ [(⟨a, ha1, ha2⟩ : RowAt fst v)]).filter (fun x : RowAt fst v => opn X x.1) = (pre.filter fun x => opn X x.1) ++ [⟨a, ha1, ha2⟩] := by rw [List.filter_append]; simp [hop]
      obtain ⟨fn, tmps, assign, body, hy, hR⟩ := HY.out 0 _ ⟨a, ha1, ha2⟩ _ hj (by omega) hsz5
      simp only [tellR] at hy
      have HFL := Lib.hid hfl
      clear hfl hop hlf hsz5
      gi_wp2
      refine (show RoundIn (Fence.wide.inRound l) 0 Try.prog z fn tmps assign body W' _ from hR).mono ?_
      rintro e W3 (⟨rfl, hJ3, hk3⟩ | ⟨rfl, hJx3, hk3⟩)
      · gi_wp2
        refine ⟨?_, ?_, ?_, ?_⟩
        · exact ⟨hk3.size, fun k o h1 h2 h3 => hk3.same k o h2 (HP2.out k o (by have := HS1.out; have := HSZ.out; omega) h3)⟩
        · exact hk3.mono fun k o h => h.2
        · rw [HFL.out]; exact hJ3
        · exact HK.out.trans (hk3.mono fun k o h => h.2)
      · gi_wp2
        refine ⟨?_, rfl, ?_⟩
        · exact ⟨hk3.size, fun k o h1 h2 h3 => hk3.same k o h2 (HP2.out k o (by have := HS1.out; have := HSZ.out; omega) h3)⟩
        · rw [HFL.out]; exact hJx3
    · have hop : opn X a = false := by rw [HOP.out]; simp [h0]
      have hfl : (pre ++ [(⟨a, ha1, ha2⟩ : RowAt fst v)]).filter (fun x : RowAt fst v => opn X x.1) = (pre.filter fun x => opn X x.1) := by rw [List.filter_append]; simp [hop]
      have HFL := Lib.hid hfl
      have h0' : decide (0 < x) = false := decide_eq_false h0
      clear hfl hop hlf hsz5
      gi_wp2
      refine ⟨fun _ h => (by cases h), ?_⟩
      gi_wp2
      exact ⟨KeepsFrom.refl _ _, Kps.refl, by rw [HFL.out]; exact hj, HK.out⟩
  case done =>
    rintro D xs W' hD rfl ⟨hj, hk⟩ hDef
    rw [rowIf_filter] at hj
    gi_wp2
    refine ⟨by simp, .inl ⟨_, _, rfl, run_takeDeferred hDef, ?_⟩⟩
    exact ⟨_, results_none rfl _ _ _, ⟨_, rfl⟩, .inl ⟨_, rfl, HJ.out.putObj _ hj (by have := HS1.out; omega) hDef rfl⟩⟩
  case stop =>
    rintro D c pre W' hD ⟨k, hk, rfl⟩ ⟨rfl, hj⟩ hDef
    rw [rowIf_filter] at hj
    gi_wp2
    refine ⟨by simp, .inl ⟨_, _, rfl, run_takeDeferred hDef, ?_⟩⟩
    exact ⟨_, results_none rfl _ _ _, ⟨_, rfl⟩, .inr ⟨_, ⟨k, hk, rfl⟩, HJX.out.putObj _ hj (by have := HS1.out; omega) hDef rfl⟩⟩

/-- What a loop over open keeps that begins at world size b and has its own variables where sp says. -/
def POpen (b : Nat) (sp : Nat → Prop) (k : Nat) (o : Obj) : Prop := (k < b ∧ ¬ sp k) ∨ (b + 2 ≤ k ∧ (k < b + 5 ∨ o.isCells = false))
theorem popen_put {b : Nat} {sp : Nat → Prop} (W : World) (o' : Obj) : Kps (POpen b sp) W (W.putObj (b + 1) o') := Kps.put fun _ _ h => by rcases h with h | h <;> omega

theorem open_ready (x N M s t v nE nH : Nat) (K : CsrS) (Q : PreS) (fst hd rv : Nat → Nat) (X E H : List Int) (sp : Nat → Prop) (w1 w2 : World)
    (hw : w2 = ((w1.alloc (.cells #[.int .i64 (N : Int), .int .i64 (s : Int), .int .i64 (t : Int), .slice K.AF (N + 1) K.cF, .slice K.AH M K.cH, .slice K.AR M K.cR, .slice K.AC M K.cC, .slice K.AA M K.cA, .slice K.AB M K.cB] 32)).alloc (.cells #[.slice Q.AX M Q.cX, .slice Q.AE nE Q.cE, .slice Q.AH nH Q.cH] 29)).alloc (.cells #[.int .i64 (v : Int)] 3))
    (hG : Grid N M fst hd rv) (hI : GridIn w1 x N M K fst hd rv) (hQ : StIn w1 x M nE nH Q X E H) (hx : x ≤ w1.heap.size) (hv : v < N) (hM : M ≤ 100000000) (hN : N ≤ 4096) (hsp : ∀ k, sp k → x ≤ k ∧ k < w1.heap.size) :
    Feeds 5 99 #[.pointer (some ⟨w1.heap.size, 0, none⟩), .pointer (some ⟨w1.heap.size + 1 + 1, 0, none⟩), .pointer (some ⟨w1.heap.size + 1, 0, none⟩)] tellR (Kps (POpen w2.heap.size sp)) (fun xs => xs = rowIf fst v (opn X) (fst (v + 1) - fst v)) (fun pre => ∃ k, k ≤ fst (v + 1) - fst v ∧ pre = rowIf fst v (opn X) k) (fst (v + 1) - fst v) w2 ∧ w2.heap.size = w1.heap.size + 3 ∧ Below w1.heap.size w1 w2 := by
  have B1 : Below w1.heap.size w1 w2 := by rw [hw]; exact (((Below.refl _ w1).alloc (Nat.le_refl _) _).alloc (by simp) _).alloc (by simp; omega) _
  have S1 : w2.heap.size = w1.heap.size + 3 := by rw [hw]; simp
  have C1 : Blk w2 w1.heap.size 32 #[.int .i64 (N : Int), .int .i64 (s : Int), .int .i64 (t : Int), .slice K.AF (N + 1) K.cF, .slice K.AH M K.cH, .slice K.AR M K.cR, .slice K.AC M K.cC, .slice K.AA M K.cA, .slice K.AB M K.cB] := by rw [hw]; exact ((Blk.new rfl).alloc _).alloc _
  have P1 : Blk w2 (w1.heap.size + 1) 29 #[.slice Q.AX M Q.cX, .slice Q.AE nE Q.cE, .slice Q.AH nH Q.cH] := by rw [hw]; exact (Blk.new (by simp)).alloc _
  have U1 : Blk w2 (w1.heap.size + 1 + 1) 3 #[.int .i64 (v : Int)] := by rw [hw]; exact Blk.new (by simp)
  clear hw
  have hI2 := (hI.below (B1.mono hx)).more (show x ≤ w2.heap.size by omega)
  have hQ2 := (hQ.below (B1.mono hx)).more (show x ≤ w2.heap.size by omega)
  refine ⟨?_, S1, B1⟩
  have hfl := hG.fle (v := v + 1) (by omega)
  refine open1_feeds _ _ _ N M s t v nE nH K Q fst hd rv X E H (POpen w2.heap.size sp) w2 hG hI2 hQ2 hv hM hN C1 U1 P1 (fun k o h1 h2 => .inr ⟨h1, .inl h2⟩) (fun k o h1 h2 => .inr ⟨h1, .inr h2⟩) (fun o => .inl ⟨by omega, fun h => by have := hsp _ h; omega⟩) (fun a _ ha => ?_) (fun a _ ha h0 => ?_)
  · have h1 := (hI.iF.2 (by omega))
    obtain ⟨b, off, e, hb, -⟩ := h1
    rw [e] at ha
    injection ha with ha
    subst ha
    exact .inl ⟨by simp; omega, fun h => by have := hsp _ h; simp at this; omega⟩
  · obtain ⟨b, off, e, hb, -⟩ := hQ.iX.2 h0
    rw [e] at ha
    injection ha with ha
    subst ha
    exact .inl ⟨by simp; omega, fun h => by have := hsp _ h; simp at this; omega⟩

theorem popen_set {b : Nat} {sp : Nat → Prop} {W : World} {l i : Nat} {u : Value} (hs : sp l) (hl : l < b) : Kps (POpen b sp) W (W.setCell ⟨l, i, none⟩ u) := Kps.setCell fun _ _ h => by
  rcases h with h | h
  · exact h.2 hs
  · omega
theorem others_drew (W : World) (n : Nat) : KeepsOthers W (W.drewN n) := KeepsOthers.of_grownBy (grown_drewN W n) (by simp)
theorem kps_drew {P : Nat → Obj → Prop} (W : World) (n : Nat) : Kps P W (W.drewN n) := Kps.all (below_drewN' (Below.refl _ _) n)
theorem ownFrom_ex {β γ : Type} {B : Nat} {I : γ → β → World → Prop} (h : ∀ x, OwnFrom B (I x)) : OwnFrom B (fun s W => ∃ x, I x s W) := fun s W W' row hs hg hr => by
  obtain ⟨x, hx⟩ := hs
  exact ⟨x, h x s W W' row hx hg hr⟩
theorem ownFrom_blk {β : Type} (B g : Nat) (t : TypeId) (cs : Array Value) : OwnFrom B (fun (_ : β) W => Blk W g t cs) := Own.from (blk_own fun _ => cs) _
theorem rch_drop {B D : Nat} {w W : World} {o o' : Obj} (h : Below B w W) (hB : B ≤ D) (hk : W.heap[D]? = some o) (_ : o.isCells = false) (_ : o.isWalk = false) : Below B w (W.putObj D o') :=
  h.trans ((Below.refl B W).grown (grownBy_putObj' W D o') (by have := (Array.getElem?_eq_some_iff.1 hk).1; omega) (fun k e => by cases e; omega))

end Go.Proofs.Ytanifbofjecpmaa
