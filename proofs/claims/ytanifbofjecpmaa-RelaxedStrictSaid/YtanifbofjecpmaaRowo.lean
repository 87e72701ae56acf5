/- Layer 7: row, open: the residual arcs of a vertex, told one by one. -/
import Derived.Test.YtanifbofjecpmaaPrep
import Derived.Test.YtanifbofjecpmaaRang
namespace Go.Proofs.Ytanifbofjecpmaa
open Go.RowKit Go.Shelf
set_option maxRecDepth 100000
attribute [local go_sem] Oper.semAt_some

/-! What stays as it is. -/
structure Kps (P : Nat → Obj → Prop) (W W' : World) : Prop where
  size : W.heap.size ≤ W'.heap.size
  same : ∀ (k : Nat) (o : Obj), W.heap[k]? = some o → P k o → W'.heap[k]? = some o
section
variable {P Q : Nat → Obj → Prop} {W W' W'' : World}
theorem Kps.refl : Kps P W W := ⟨Nat.le_refl _, fun _ _ h _ => h⟩
theorem Kps.trans (h : Kps P W W') (k : Kps P W' W'') : Kps P W W'' := ⟨Nat.le_trans h.size k.size, fun i o hi hp => k.same i o (h.same i o hi hp) hp⟩
theorem Kps.mono (h : Kps P W W') (hq : ∀ k o, Q k o → P k o) : Kps Q W W' := ⟨h.size, fun i o hi hp => h.same i o hi (hq i o hp)⟩
theorem Kps.below {B : Nat} (h : Below B W W') (hp : ∀ k o, P k o → W.heap[k]? = some o → k < B) : Kps P W W' := ⟨h.size, fun k o hk hpk => (h.block k (hp k o hpk hk)).trans hk⟩
theorem Kps.all (h : Below W.heap.size W W') : Kps P W W' := Kps.below h fun _ _ _ hk => (Array.getElem?_eq_some_iff.1 hk).1
theorem Kps.grown {row : Option Nat} (h : W.grownBy W' row) (hp : ∀ j o, row = some j → W.heap[j]? = some o → ¬ P j o) : Kps P W W' :=
  ⟨h.size, fun k o hk hpk => (h.block k (Array.getElem?_eq_some_iff.1 hk).1 (fun e => hp k o e.symm hk hpk)).trans hk⟩
theorem Kps.put {l : Nat} {o' : Obj} (hp : ∀ o, W.heap[l]? = some o → ¬ P l o) : Kps P W (W.putObj l o') :=
  Kps.grown (grownBy_putObj' W l o') fun j o e hj => by cases e; exact hp o hj
theorem Kps.setCell {l i : Nat} {v : Value} (hp : ∀ o, W.heap[l]? = some o → ¬ P l o) : Kps P W (W.setCell ⟨l, i, none⟩ v) :=
  ⟨by simp, fun k o hk hpk => by
    have hne : k ≠ l := fun e => by subst e; exact hp o hk hpk
    exact (Below.heap_setCell W ⟨l, i, none⟩ v k hne).trans hk⟩
theorem Kps.blk {g : Nat} {t : TypeId} {cs : Array Value} (h : Kps P W W') (hb : Blk W g t cs) (hp : P g (.cells cs t (0, 0))) : Blk W' g t cs := h.same g _ hb hp
theorem Kps.cell (h : Kps P W W') {p : Addr} (hp : ∀ o, W.heap[p.block]? = some o → P p.block o) {x : Value} (hx : W.cell? p = some x) : W'.cell? p = some x := by
  cases ho : W.heap[p.block]? with
  | none => simp [World.cell?, ho] at hx
  | some o => exact (World.cell?_of_block ((h.same _ o ho (hp o ho)).trans ho.symm)).trans hx
theorem Kps.own {β : Type} {B : Nat} {W0 : World} (hp : ∀ k o, P k o → k < B) : OwnFrom B (fun (_ : β) W => Kps P W0 W) := fun _ A C row hs hg hr =>
  hs.trans (Kps.grown hg fun j o e _ hpj => by have := (hr j e).1; have := hp j o hpj; omega)
theorem Kps.from {B : Nat} (h : Kps P W W') (hp : ∀ k o, B ≤ k → o.isCells = false → P k o) : KeepsFrom B W W' := ⟨h.size, fun k o hk ho hc => h.same k o ho (hp k o hk hc)⟩
end

/-! The residual arcs of v that p takes, one by one. -/
abbrev RowAt (fst : Nat → Nat) (v : Nat) : Type := { a : Nat // fst v ≤ a ∧ a < fst (v + 1) }
def rowIf (fst : Nat → Nat) (v : Nat) (p : Nat → Bool) : Nat → List (RowAt fst v)
  | 0 => []
  | k + 1 => rowIf fst v p k ++ (if h : fst v + k < fst (v + 1) ∧ p (fst v + k) = true then [⟨fst v + k, by omega, h.1⟩] else [])
def tellR {fst : Nat → Nat} {v : Nat} (x : RowAt fst v) : Array Value := #[.int .i64 (x.1 : Int)]
section
variable {fst : Nat → Nat} {v k a : Nat} {p : Nat → Bool}
theorem rowIf_len (fst : Nat → Nat) (v : Nat) (p : Nat → Bool) : ∀ k, (rowIf fst v p k).length ≤ k
  | 0 => by simp [rowIf]
  | k + 1 => by
    have := rowIf_len fst v p k
    simp only [rowIf, List.length_append]
    split
    · simp only [List.length_cons, List.length_nil]; omega
    · simp only [List.length_nil]; omega
theorem rowIf_yes (h : fst v + k = a) (hr : fst v ≤ a ∧ a < fst (v + 1)) (hp : p a = true) : rowIf fst v p (k + 1) = rowIf fst v p k ++ [⟨a, hr⟩] := by
  subst h
  simp only [rowIf, dif_pos (And.intro hr.2 hp)]
theorem rowIf_no (h : fst v + k = a) (hp : p a = false) : rowIf fst v p (k + 1) = rowIf fst v p k := by
  subst h
  simp only [rowIf]
  rw [dif_neg (fun e => by rw [hp] at e; cases e.2), List.append_nil]
end

set_option maxHeartbeats 4000000 in
theorem row_is (N M s t : Nat) (K : CsrS) (u : Nat) (w : World) :
    Calls Try.prog 47 #[csrW N M s t K, .int .i64 (u : Int)] w fun e w' =>
      e = .returned (.func (.func 78) #[] #[.pointer (some ⟨w.heap.size, 0, none⟩), .pointer (some ⟨w.heap.size + 1, 0, none⟩)]) ∧
        w' = (w.alloc (.cells #[.int .i64 (N : Int), .int .i64 (s : Int), .int .i64 (t : Int), .slice K.AF (N + 1) K.cF, .slice K.AH M K.cH, .slice K.AR M K.cR, .slice K.AC M K.cC, .slice K.AA M K.cA, .slice K.AB M K.cB] 32)).alloc (.cells #[.int .i64 (u : Int)] 3) := by
  obtain ⟨AF, cF, AH, cH, AR, cR, AC, cC, AA, cA, AB, cB⟩ := K
  dsimp only [csrW]
  go_enter Try.func47, Try.ntmps47
  go_wp2_with fail
  go_ret
  exact ⟨rfl, rfl⟩

set_option maxHeartbeats 4000000 in
theorem row1_in (d : Nat) (z gc gu bF oF cF N s t v : Nat) (v4 v5 v6 v7 v8 : Value) (fst : Nat → Nat) (P : Nat → Obj → Prop)
    (J Jx : List (RowAt fst v) → World → Prop) (W : World)
    (hv : v < N) (hmo : fst v ≤ fst (v + 1)) (hb : fst (v + 1) ≤ 100000000) (hN : N ≤ 4096)
    (hY : ∀ pre y W1, J pre W1 → pre.length < fst (v + 1) - fst v → YieldAt Fence.wide (d - 1) Try.prog z (tellR y) W1 fun e W' =>
      (e = .returned (.bool true) ∧ J (pre ++ [y]) W' ∧ Kps P W1 W') ∨ (e = .returned (.bool false) ∧ Jx (pre ++ [y]) W'))
    (hC : Blk W gc 32 #[.int .i64 (N : Int), .int .i64 (s : Int), .int .i64 (t : Int), .slice (some ⟨bF, oF, none⟩) (N + 1) cF, v4, v5, v6, v7, v8]) (hU : Blk W gu 3 #[.int .i64 (v : Int)])
    (hF : Ints W W.heap.size (some ⟨bF, oF, none⟩) (N + 1) (tab (N + 1) fun v => (fst v : Int))) (hPc : ∀ o, P gc o) (hPu : ∀ o, P gu o) (hPF : ∀ o, P bF o) (h0 : J [] W) :
    CallsIn Fence.wide d Try.prog 78 #[.func (.yield z) #[] #[], .pointer (some ⟨gc, 0, none⟩), .pointer (some ⟨gu, 0, none⟩)] W fun e W' => (∃ v, e = .returned v) ∧
      ((∃ ys, ys = rowIf fst v (fun _ => true) (fst (v + 1) - fst v) ∧ J ys W') ∨ (∃ pre, (∃ k, k ≤ fst (v + 1) - fst v ∧ pre = rowIf fst v (fun _ => true) k) ∧ Jx pre W')) := by
  refine callsIn_of_wp Try.func78 rfl trivial ?_ rfl
  simp only [Try.ntmps78, List.size_toArray, List.length_cons, List.length_nil, Nat.reduceAdd, Nat.reduceSub, Array.replicate_succ, Array.replicate_zero, List.push_toArray, List.append_toArray, List.nil_append, List.cons_append]
  obtain ⟨a0, a1, a2, a3, a4, a5, a6, a7, a8⟩ := hC.at9
  have u0 := hU.cell 0
  simp only [List.getElem?_toArray, List.getElem?_cons_zero] at u0
  obtain ⟨hbF, c0⟩ := tab_cell hF (k := v) (by omega)
  obtain ⟨-, c1⟩ := tab_cell hF (k := v + 1) (by omega)
  obtain ⟨fa, hfa⟩ : ∃ fa, fst v = fa := ⟨_, rfl⟩
  obtain ⟨fz, hfz⟩ : ∃ fz, fst (v + 1) = fz := ⟨_, rfl⟩
  rw [hfa] at c0; rw [hfz] at c1
  have HFA := Lib.hid hfa; have HFZ := Lib.hid hfz
  have H0 := Lib.hid h0; have HY := Lib.hid hY
  clear h0 hY hfa hfz
  gi_wp2
  gi_loopw [4] (fun i wr => ∃ k : Nat, fa + k ≤ fz ∧ i = .int .i64 ((fa + k : Nat) : Int) ∧ J (rowIf fst v (fun _ => true) k) wr ∧ Kps P W wr) (fun i _ => fz - (intOf i).toNat)
  case atStart => exact ⟨0, by have := HFA.out; have := HFZ.out; omega, rfl, H0.out, Kps.refl⟩
  case round =>
    obtain ⟨k, hk, rfl, hJs, hsp⟩ := hrel
    have b3 := hsp.cell (fun o _ => hPc o) a3
    have bu := hsp.cell (fun o _ => hPu o) u0
    have bz := hsp.cell (fun o _ => hPF o) c1
    have hsz := hsp.size
    have hl1 := hC.lt; have hl2 := hU.lt
    have hl3 : bF < wr.heap.size := by omega
    have hl4 : gc < wr.heap.size := by omega
    have hl5 : gu < wr.heap.size := by omega
    clear a0 a1 a2 a3 a4 a5 a6 a7 a8 u0 c0 c1 hC hU hF
    obtain ⟨x, hx⟩ : ∃ x, fa + k = x := ⟨_, rfl⟩
    rw [hx] at hk ⊢
    have HX := Lib.hid hx; clear hx
    by_cases hlt : x < fz
    · have hrow : fst v ≤ x ∧ x < fst (v + 1) := by rw [HFA.out, HFZ.out]; have := HX.out; omega
      obtain ⟨fn, tmps, assign, body, hy, hR⟩ := HY.out _ ⟨x, hrow⟩ _ hJs (by have := rowIf_len fst v (fun _ => true) k; rw [HFA.out, HFZ.out]; have := HX.out; omega)
      have hyes := rowIf_yes (p := fun _ => true) (k := k) (by rw [HFA.out]; exact HX.out) hrow rfl
      have HYES := Lib.hid hyes; have HROW := Lib.hid hrow; have HSP := Lib.hid hsp
      simp only [tellR] at hy
      clear hyes hsp
      gi_wp2
      refine ⟨(fun h => by cases h), hR.mono ?_⟩
      rintro e W3 (⟨rfl, hJ3, hk3⟩ | ⟨rfl, hJx3⟩)
      · gi_wp2
        go_roundw
        case rel => exact ⟨k + 1, by have := HX.out; omega, by have := HX.out; rw [← this]; go_num, by rw [HYES.out]; exact hJ3, HSP.out.trans hk3⟩
        case measure => simp [intOf]; omega
      · gi_wp2
        refine bodyPost_ret (results_none rfl _ _ _) rfl ?_
        exact ⟨⟨_, rfl⟩, .inr ⟨_, ⟨k + 1, by have := HX.out; have := HFA.out; have := HFZ.out; omega, HYES.out.symm⟩, hJx3⟩⟩
    · obtain rfl : x = fz := by omega
      have HJ := Lib.hid hJs; clear hJs
      have HSP := Lib.hid hsp; clear hsp
      gi_wp2
      go_end0
      exact ⟨⟨_, rfl⟩, .inl ⟨_, rfl, by
        have h1 : fst (v + 1) - fst v = k := by have := HX.out; have := HFA.out; have := HFZ.out; omega
        rw [h1]; exact HJ.out⟩⟩

theorem row_stops (d : Nat) (gc gu bF oF cF N s t v : Nat) (v4 v5 v6 v7 v8 : Value) (fst : Nat → Nat) (P : Nat → Obj → Prop) (w : World)
    (hv : v < N) (hmo : fst v ≤ fst (v + 1)) (hb : fst (v + 1) ≤ 100000000) (hN : N ≤ 4096)
    (hC : Blk w gc 32 #[.int .i64 (N : Int), .int .i64 (s : Int), .int .i64 (t : Int), .slice (some ⟨bF, oF, none⟩) (N + 1) cF, v4, v5, v6, v7, v8]) (hU : Blk w gu 3 #[.int .i64 (v : Int)])
    (hF : Ints w w.heap.size (some ⟨bF, oF, none⟩) (N + 1) (tab (N + 1) fun v => (fst v : Int))) (hPc : ∀ o, P gc o) (hPu : ∀ o, P gu o) (hPF : ∀ o, P bF o) :
    SeqStopsK Fence.wide d Try.prog 78 #[.pointer (some ⟨gc, 0, none⟩), .pointer (some ⟨gu, 0, none⟩)] tellR (Kps P) (fun ys => ys = rowIf fst v (fun _ => true) (fst (v + 1) - fst v)) (fun pre => ∃ k, k ≤ fst (v + 1) - fst v ∧ pre = rowIf fst v (fun _ => true) k) (fst (v + 1) - fst v) w :=
  fun z J Jx W hW _ _ hY h0 => row1_in d z gc gu bF oF cF N s t v v4 v5 v6 v7 v8 fst P J Jx W hv hmo hb hN hY (hC.below hW hC.lt) (hU.below hW hU.lt) (hF.on hW) hPc hPu hPF h0

theorem row_feeds (gc gu bF oF cF N s t v : Nat) (v4 v5 v6 v7 v8 : Value) (fst : Nat → Nat) (P : Nat → Obj → Prop) (w : World)
    (hv : v < N) (hmo : fst v ≤ fst (v + 1)) (hb : fst (v + 1) ≤ 100000000) (hN : N ≤ 4096)
    (hC : Blk w gc 32 #[.int .i64 (N : Int), .int .i64 (s : Int), .int .i64 (t : Int), .slice (some ⟨bF, oF, none⟩) (N + 1) cF, v4, v5, v6, v7, v8]) (hU : Blk w gu 3 #[.int .i64 (v : Int)])
    (hF : Ints w w.heap.size (some ⟨bF, oF, none⟩) (N + 1) (tab (N + 1) fun v => (fst v : Int))) (hPc : ∀ o, P gc o) (hPu : ∀ o, P gu o) (hPF : ∀ o, P bF o) :
    Feeds 2 78 #[.pointer (some ⟨gc, 0, none⟩), .pointer (some ⟨gu, 0, none⟩)] tellR (Kps P) (fun ys => ys = rowIf fst v (fun _ => true) (fst (v + 1) - fst v)) (fun pre => ∃ k, k ≤ fst (v + 1) - fst v ∧ pre = rowIf fst v (fun _ => true) k) (fst (v + 1) - fst v) w := by
  intro z J Jx W hW hsz _ _ hY h0
  refine callsIn_wide.1 ((row1_in 1 z gc gu bF oF cF N s t v v4 v5 v6 v7 v8 fst P (fun pre W1 => J pre W1 ∧ W.heap.size ≤ W1.heap.size) Jx W hv hmo hb hN ?_ (hC.below hW hC.lt) (hU.below hW hU.lt) (hF.on hW) hPc hPu hPF ⟨h0, Nat.le_refl _⟩).mono ?_)
  · rintro pre y W1 ⟨hj, hs⟩ hlen
    obtain ⟨fn, tmps, assign, body, hy, hR⟩ := hY 0 pre y W1 hj hlen (by omega)
    refine ⟨fn, tmps, assign, body, hy, hR.mono ?_⟩
    rintro e W' (⟨h1, h2, h3⟩ | ⟨h1, h2, h3⟩)
    · exact .inl ⟨h1, ⟨h2, by have := h3.size; omega⟩, h3⟩
    · exact .inr ⟨h1, h2⟩
  · rintro e W' ⟨h1, ⟨ys, h2, h3⟩ | h2⟩
    · exact ⟨h1, .inl ⟨ys, h2, h3.1⟩⟩
    · exact ⟨h1, .inr h2⟩

end Go.Proofs.Ytanifbofjecpmaa
