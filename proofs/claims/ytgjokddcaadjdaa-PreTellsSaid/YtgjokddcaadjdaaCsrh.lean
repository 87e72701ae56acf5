/- Layer 2: Flow. -/
import Derived.Test.YtgjokddcaadjdaaCsrg
namespace Go.Proofs.Ytgjokddcaadjdaa
open Go.RowKit

/-- At which number which arc's flow is read. -/
def FlowAt (l : List ArcN) (X : List Int) (p i : Nat) (x : Int) : Prop := ∃ v u c, Inc l i v u true c ∧ posOf l i v = p ∧ X[p]? = some x

section
variable {l : List ArcN} {X F : List Int} {N M n k i : Nat} {v u c x : Int}
theorem flow_skip (hE : EndsIn N l) (hI : Inc l i v u false c) (hp : posOf l i v = k) : ∀ i' x', ¬ FlowAt l X k i' x' := by
  rintro i' x' ⟨v', u', c', hI', hp', _⟩
  obtain ⟨rfl, rfl⟩ := pos_inj hI' hI (hI'.ends hE).1 (hI.ends hE).1 (by omega)
  have := (hI'.same hI).2.1
  cases this
theorem flow_step (h : FillTo (FlowAt l X) 0 n k F) (hE : EndsIn N l) (hI : Inc l i v u true c) (hp : posOf l i v = k) (hx : X[k]? = some x) (hi : i < n) : FillTo (FlowAt l X) 0 n (k + 1) (F.set i x) := by
  refine h.step ⟨v, u, c, hI, hp, hx⟩ hi ?_ ?_
  · rintro p x' ⟨v', u', c', hI', hp', _⟩
    obtain ⟨_, a, ha, hh⟩ := hI
    obtain ⟨_, a', ha', hh'⟩ := hI'
    rw [ha] at ha'
    injection ha' with ha'
    subst ha'
    rcases hh with ⟨h0, _⟩ | ⟨_, g1, _, _⟩
    · cases h0
    · rcases hh' with ⟨h0, _⟩ | ⟨_, g2, _, _⟩
      · cases h0
      · rw [← hp', ← g2, g1]; exact hp
  · rintro i' x' ⟨v', u', c', hI', hp', hx'⟩
    obtain ⟨rfl, rfl⟩ := pos_inj hI' hI (hI'.ends hE).1 (hI.ends hE).1 (by omega)
    rw [hx] at hx'
    injection hx' with hx'
    exact ⟨rfl, hx'.symm⟩
/-- The flow of which so much is left. -/
theorem flow_done (h : FillTo (FlowAt l X) 0 n k F) (hE : EndsIn N l) (hM : firstOf l N = M) (hk : ¬ k < M) {f : List Int} (hn : l.length = n) (hf : f.length = n) (hX : ResOf l f M X) (h0 : ∀ (i : Nat) (a : ArcN) (x : Int), l[i]? = some a → f[i]? = some x → a.frm = a.to → x = 0) : F = f := by
  apply List.ext_getElem?
  intro i
  by_cases hi : i < n
  · have ha : l[i]? = some l[i] := List.getElem?_eq_getElem (by omega)
    have hfi : f[i]? = some f[i] := List.getElem?_eq_getElem (by omega)
    by_cases e : l[i].frm = l[i].to
    · rw [h.rest i hi ?_, hfi, h0 i _ _ ha hfi e]
      rintro p x ⟨v, u, c, hI, _, _⟩
      obtain ⟨hne, a', ha', hh⟩ := hI
      rw [ha] at ha'
      injection ha' with ha'
      subst ha'
      rcases hh with ⟨h0, _⟩ | ⟨_, g1, g2, _⟩
      · cases h0
      · exact absurd (by rw [← g1, ← g2]; exact e.symm) hne
    · have hI := inc_bwd ha e
      have hx := hX.ent _ _ _ _ _ _ hI hfi
      have hp := pos_lt hI hE
      rw [h.ent _ i _ ⟨_, _, _, hI, rfl, hx⟩ (by omega), hfi]
      rfl
  · rw [List.getElem?_eq_none (by have := h.len; omega), List.getElem?_eq_none (by omega)]
end

set_option maxHeartbeats 2000000 in
theorem flow_bad (N M : Nat) (S T : Int) (gF gH gR gC gA gB : Nat) (l : List ArcN) (AX : Option Addr) (cX n : Nat) (X : List Int) (w : World) (hC : CsrAt w w.heap.size N l gF gH gR gC gA gB) (hE : EndsIn N l) (hMe : firstOf l N = M) (hM : M ≤ 100000000)
    (hX : Ints w w.heap.size AX M X) (hXR : ∀ x ∈ X, x ≤ 9223372036854775807) (hcap : ∀ a ∈ l, 0 ≤ a.cap ∧ a.cap ≤ 4611686018427387904) (hn : l.length = n) (hn' : n ≤ 16384) (hb : ¬ Balanced l X) :
    Calls Try.prog 35 #[csrV N M S T gF gH gR gC gA gB, .slice AX M cX, .int .i64 n] w fun e w' => e = .returned (.tuple #[.slice none 0 0, .int .i64 20]) ∧ Below w.heap.size w w' := by
  have hct := fun W => isCount_any (n : Int) W
  rw [decide_eq_true (show 0 ≤ (n : Int) ∧ (n : Int) ≤ 16384 by omega)] at hct
  have HCT := Lib.hid hct; clear hct
  go_enter Try.func35, Try.ntmps35
  go_wp2_with fail
  have C0 := hC.onAlloc (.cells #[.int .i64 N, .int .i64 S, .int .i64 T, .slice (some ⟨gF, 0, none⟩) (N + 1) (N + 1), .slice (some ⟨gH, 0, none⟩) M M, .slice (some ⟨gR, 0, none⟩) M M, .slice (some ⟨gC, 0, none⟩) M M, .slice (some ⟨gA, 0, none⟩) M M, .slice (some ⟨gB, 0, none⟩) M M] 32)
  have F0 := hX.onAlloc (.cells #[.int .i64 N, .int .i64 S, .int .i64 T, .slice (some ⟨gF, 0, none⟩) (N + 1) (N + 1), .slice (some ⟨gH, 0, none⟩) M M, .slice (some ⟨gR, 0, none⟩) M M, .slice (some ⟨gC, 0, none⟩) M M, .slice (some ⟨gA, 0, none⟩) M M, .slice (some ⟨gB, 0, none⟩) M M] 32)
  refine (wellFormed_good _ _ _ _ _ _ _ _ _ _ l _ C0 hE hMe hM).mono ?_
  rintro e w1 ⟨rfl, B1⟩
  have K : Blk w1 w.heap.size 32 _ := (Blk.new rfl).below B1 (by simp)
  have Bw := below_step (below_alloc _) B1
  have C1 := C0.on B1
  have X1 := F0.on B1
  obtain ⟨a0, a1, a2, a3, a4, a5, a6, a7, a8⟩ := K.at9
  clear C0 F0 B1
  go_wp2_with fail
  refine (len_any _ _ _ _ _ _ _ _ _ _ _).mono ?_
  rintro e w2 ⟨rfl, B2⟩
  have K2 := K.below B2 K.lt
  have C2 := C1.on B2
  have X2 := X1.on B2
  have Bw2 := below_step Bw B2
  clear a0 a1 a2 a3 a4 a5 a6 a7 a8 K C1 X1 Bw B2
  obtain ⟨a0, a1, a2, a3, a4, a5, a6, a7, a8⟩ := K2.at9
  go_wp2_with fail
  refine (HCT.out _).mono ?_
  rintro e w3 ⟨rfl, B3⟩
  have K3 := K2.below B3 K2.lt
  have C3 := C2.on B3
  have X3 := X2.on B3
  have Bw3 := below_step Bw2 B3
  clear a0 a1 a2 a3 a4 a5 a6 a7 a8 K2 C2 X2 Bw2 B3
  obtain ⟨a0, a1, a2, a3, a4, a5, a6, a7, a8⟩ := K3.at9
  go_wp2_with fail
  refine (allBelow_good gA M M n _ hM ?_).mono ?_
  · intro j hj
    obtain ⟨i, q, v, u, b, c, hI, _, _, hq, e1, e2, e3, e4, e5⟩ := C3.at hE (show j < firstOf l N by omega)
    exact ⟨i, e4, by have := hI.lt; omega⟩
  rintro e w4 ⟨rfl, rfl⟩
  go_wp2_with fail
  refine (balanced_any N M S T gF gH gR gC gA gB l AX cX X false _ C3 hE hMe hM X3 hXR hcap ⟨fun h => (by cases h), fun h => absurd h hb⟩).mono ?_
  rintro e w5 ⟨rfl, B5⟩
  go_wp2_with fail
  go_ret2
  exact ⟨rfl, below_step Bw3 B5⟩

set_option maxHeartbeats 2000000 in
theorem flow_good (N M : Nat) (S T : Int) (gF gH gR gC gA gB : Nat) (l : List ArcN) (AX : Option Addr) (cX n : Nat) (X f : List Int) (w : World) (hC : CsrAt w w.heap.size N l gF gH gR gC gA gB) (hE : EndsIn N l) (hMe : firstOf l N = M) (hM : M ≤ 100000000)
    (hX : Ints w w.heap.size AX M X) (hXR : ∀ x ∈ X, x ≤ 9223372036854775807) (hcap : ∀ a ∈ l, 0 ≤ a.cap ∧ a.cap ≤ 4611686018427387904) (hn : l.length = n) (hn' : n ≤ 16384) (hb : Balanced l X)
    (hf : f.length = n) (hR : ResOf l f M X) (h0 : ∀ (i : Nat) (a : ArcN) (x : Int), l[i]? = some a → f[i]? = some x → a.frm = a.to → x = 0) :
    Calls Try.prog 35 #[csrV N M S T gF gH gR gC gA gB, .slice AX M cX, .int .i64 n] w (RetLongsP (fun F => F = f) n w) := by
  have hct := fun W => isCount_any (n : Int) W
  rw [decide_eq_true (show 0 ≤ (n : Int) ∧ (n : Int) ≤ 16384 by omega)] at hct
  have HCT := Lib.hid hct; clear hct
  obtain ⟨i1, hi, hz0, hz1, hz2⟩ := info_parts long_info
  have hml := fun W => run_make_lit (P := Try.prog) 26 2 i1 _ Try.underlying26 hi hz0 n (by rw [hz2]; omega) (by omega) W
  rw [hz1, ivs_made] at hml
  clear hi hz0 hz1 hz2
  go_enter Try.func35, Try.ntmps35
  go_wp2_with fail
  have C0 := hC.onAlloc (.cells #[.int .i64 N, .int .i64 S, .int .i64 T, .slice (some ⟨gF, 0, none⟩) (N + 1) (N + 1), .slice (some ⟨gH, 0, none⟩) M M, .slice (some ⟨gR, 0, none⟩) M M, .slice (some ⟨gC, 0, none⟩) M M, .slice (some ⟨gA, 0, none⟩) M M, .slice (some ⟨gB, 0, none⟩) M M] 32)
  have F0 := hX.onAlloc (.cells #[.int .i64 N, .int .i64 S, .int .i64 T, .slice (some ⟨gF, 0, none⟩) (N + 1) (N + 1), .slice (some ⟨gH, 0, none⟩) M M, .slice (some ⟨gR, 0, none⟩) M M, .slice (some ⟨gC, 0, none⟩) M M, .slice (some ⟨gA, 0, none⟩) M M, .slice (some ⟨gB, 0, none⟩) M M] 32)
  refine (wellFormed_good _ _ _ _ _ _ _ _ _ _ l _ C0 hE hMe hM).mono ?_
  rintro e w1 ⟨rfl, B1⟩
  have K : Blk w1 w.heap.size 32 _ := (Blk.new rfl).below B1 (by simp)
  have Bw := below_step (below_alloc _) B1
  have C1 := C0.on B1
  have X1 := F0.on B1
  obtain ⟨a0, a1, a2, a3, a4, a5, a6, a7, a8⟩ := K.at9
  clear C0 F0 B1
  go_wp2_with fail
  refine (len_any _ _ _ _ _ _ _ _ _ _ _).mono ?_
  rintro e w2 ⟨rfl, B2⟩
  have K2 := K.below B2 K.lt
  have C2 := C1.on B2
  have X2 := X1.on B2
  have Bw2 := below_step Bw B2
  clear a0 a1 a2 a3 a4 a5 a6 a7 a8 K C1 X1 Bw B2
  obtain ⟨a0, a1, a2, a3, a4, a5, a6, a7, a8⟩ := K2.at9
  go_wp2_with fail
  refine (HCT.out _).mono ?_
  rintro e w3 ⟨rfl, B3⟩
  have K3 := K2.below B3 K2.lt
  have C3 := C2.on B3
  have X3 := X2.on B3
  have Bw3 := below_step Bw2 B3
  clear a0 a1 a2 a3 a4 a5 a6 a7 a8 K2 C2 X2 Bw2 B3
  obtain ⟨a0, a1, a2, a3, a4, a5, a6, a7, a8⟩ := K3.at9
  go_wp2_with fail
  refine (allBelow_good gA M M n _ hM ?_).mono ?_
  · intro j hj
    obtain ⟨i, q, v, u, b, c, hI, _, _, hq, e1, e2, e3, e4, e5⟩ := C3.at hE (show j < firstOf l N by omega)
    exact ⟨i, e4, by have := hI.lt; omega⟩
  rintro e w4 ⟨rfl, rfl⟩
  go_wp2_with fail
  refine (balanced_any N M S T gF gH gR gC gA gB l AX cX X true _ C3 hE hMe hM X3 hXR hcap ⟨fun _ => hb, fun _ => rfl⟩).mono ?_
  rintro e w5 ⟨rfl, B5⟩
  have K5 := K3.below B5 K3.lt
  have C5 := C3.on B5
  have X5 := X3.on B5
  have Bw5 := below_step Bw3 B5
  have hz5 := K5.lt
  clear a0 a1 a2 a3 a4 a5 a6 a7 a8 K3 C3 X3 Bw3 B5
  obtain ⟨a0, a1, a2, a3, a4, a5, a6, a7, a8⟩ := K5.at9
  go_wp2_with fail
  have Y5 : Blk (w5.alloc (.cells (ivs (List.replicate n 0)) 2)) w5.heap.size 2 (ivs (List.replicate n 0)) := Blk.new rfl
  refine (len_any _ _ _ _ _ _ _ _ _ _ _).mono ?_
  rintro e w6 ⟨rfl, B6⟩
  have K6 := (K5.alloc (.cells (ivs (List.replicate n 0)) 2)).below B6 (K5.alloc _).lt
  have C6 := (C5.alloc1 (.cells (ivs (List.replicate n 0)) 2)).below (B6.mono (by simp))
  have X6 := (X5.below (below_alloc (.cells (ivs (List.replicate n 0)) 2))).below (B6.mono (by simp))
  have Y6 := Y5.below B6 Y5.lt
  have Bw6 := below_step (Bw5.alloc Bw5.size _) B6
  clear a0 a1 a2 a3 a4 a5 a6 a7 a8 K5 C5 X5 Bw5 B6 Y5
  have hx3 := Y6.lt
  have hl4 := C6.lt
  go_wp2_with fail
  go_loopw [9, 40] (fun _ i wr => ∃ (k : Nat) (F : List Int), k ≤ M ∧ i = .int .i64 k ∧ FillTo (FlowAt l X) 0 n k F ∧ Blk wr w5.heap.size 2 (ivs F) ∧ CsrAt wr w5.heap.size N l gF gH gR gC gA gB ∧ Ints wr w5.heap.size AX M X ∧
      Blk wr w.heap.size 32 #[.int .i64 N, .int .i64 S, .int .i64 T, .slice (some ⟨gF, 0, none⟩) (N + 1) (N + 1), .slice (some ⟨gH, 0, none⟩) M M, .slice (some ⟨gR, 0, none⟩) M M, .slice (some ⟨gC, 0, none⟩) M M, .slice (some ⟨gA, 0, none⟩) M M, .slice (some ⟨gB, 0, none⟩) M M] ∧ Below w.heap.size w wr) (fun _ i _ => M - (intOf i).toNat)
  case atStart => exact ⟨0, _, Nat.zero_le _, rfl, FillTo.zero _ _ _ rfl, Y6, C6, X6, K6, Bw6⟩
  case round =>
    clear Y6 C6 X6 K6 Bw6
    obtain ⟨k, F, hk, rfl, R, Y6, C6, X6, K6, Bw6⟩ := hrel
    obtain ⟨a0, a1, a2, a3, a4, a5, a6, a7, a8⟩ := K6.at9
    by_cases hlt : k < M
    · obtain ⟨i, q, v, u, b, c, hI, hpos, hqos, hq, e1, e2, e3, e4, e5⟩ := C6.at hE (show k < firstOf l N by omega)
      obtain ⟨bf, off, x, rfl, hbf, hfx, hcx⟩ := intl_at X6 (k := k) hlt
      have HX := Lib.hid hfx; clear hfx
      have hil : i < n := by have := hI.lt; omega
      have hin : (i : Int) < (n : Int) := by omega
      cases b with
      | false =>
        go_wp2_with fail
        go_roundw
        case rel => exact ⟨k + 1, F, by omega, by go_num, R.skip (flow_skip hE hI hpos), Y6, C6, X6, K6, Bw6⟩
        case measure => simp [intOf]; omega
      | true =>
        have hlen := R.len
        obtain ⟨y1, hy1⟩ : ∃ y, F[i]? = some y := ⟨_, List.getElem?_eq_getElem (by omega)⟩
        have c1 := Y6.iat hy1
        have d1 := Y6.frozen i
        have n1 : w5.heap.size ≠ w.heap.size := by omega
        have n2 : w5.heap.size ≠ gA := by omega
        have n3 : w5.heap.size ≠ bf := by omega
        have HR := Lib.hid R; have HX4 := Lib.hid Y6; have HC := Lib.hid C6; have HF := Lib.hid X6; have HK := Lib.hid K6; have HB := Lib.hid Bw6; have HI := Lib.hid hI; have HP := Lib.hid hpos
        clear R Y6 C6 X6 K6 Bw6 hI hpos hqos hy1
        go_wp2_with fail
        go_region_held3 (fun W => W.cell? ⟨w.heap.size, 7, none⟩ = some (.slice (some ⟨gA, 0, none⟩) M M) ∧ W.cell? ⟨gA, k, none⟩ = some (.int .i64 (i : Int)) ∧ W.cell? ⟨bf, off + k, none⟩ = some (.int .i64 x)) (go_keep) (first | fail)
        go_wp2_with fail
        go_roundw
        case rel =>
          have hb2 : Below w5.heap.size wr (wr.setCell ⟨w5.heap.size, i, none⟩ (.int .i64 x)).drew := ((Below.refl _ _).setCell (by simp) _).drew
          exact ⟨k + 1, _, by omega, by go_num, flow_step HR.out hE HI.out HP.out HX.out hil, (HX4.out.iset i x).drew, HC.out.below hb2, HF.out.below hb2, HK.out.below hb2 (by omega), HB.out.trans (hb2.mono (by omega))⟩
        case measure => simp [intOf]; omega
    · go_wp2_with fail
      go_ret2
      exact ⟨_, _, rfl, by omega, Y6, R.len, flow_done R hE hMe hlt hn hf hR h0, Bw6⟩

end Go.Proofs.Ytgjokddcaadjdaa
