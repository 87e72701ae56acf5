/- Layer 2: Make. -/
import Derived.Test.YtanifbofjecpmaaCells
import Derived.Test.YtanifbofjecpmaaGround
import Derived.Test.YtanifbofjecpmaaFacts
import Derived.RegionTactic
import Derived.Deep.RegionHeld3
import Derived.Laws.ResultCell
/-! Layer 2: small functions. -/
namespace Go.Proofs.Ytanifbofjecpmaa
open Go.RowKit


set_option maxHeartbeats 400000 in
theorem isIndex_any (i n : Int) (w : World) :
    Calls Try.prog 82 #[.int .i64 i, .int .i64 n] w fun e w' => e = .returned (.bool (decide (0 ≤ i ∧ i < n))) ∧ w' = w := by
  go_enter Try.func82, Try.ntmps82
  go_wp2
  all_goals go_ret
  all_goals refine ⟨ret_bool ?_, rfl⟩
  all_goals (simp; try omega)

end Go.Proofs.Ytanifbofjecpmaa

/-! Layer 2: where rows begin. -/
namespace Go.Proofs.Ytanifbofjecpmaa
open Go.RowKit

/-- The counts, while the arcs are gone through. -/
def cntTo (l : List ArcN) (k : Nat) : Nat → Int
  | 0 => 0
  | v + 1 => (deg (l.take k) (v : Int) : Int)
/-- The sums, while the vertices are gone through. -/
def fstTo (l : List ArcN) (k v : Nat) : Int := if v ≤ k then (firstOf l v : Int) else cntTo l l.length v

theorem cnt_zero (l : List ArcN) (n : Nat) : List.replicate n (0 : Int) = tab n (cntTo l 0) := by
  refine tab_ext (by simp) fun i hi => ?_
  cases i with
  | zero => simp [cntTo, hi]
  | succ i => simp [cntTo, deg, hi]
theorem cnt_loop {l : List ArcN} {k : Nat} {a : ArcN} (n : Nat) (h : l[k]? = some a) (he : a.frm = a.to) : tab n (cntTo l k) = tab n (cntTo l (k + 1)) := by
  refine tab_congr fun i _ => ?_
  cases i with
  | zero => rfl
  | succ i => simp [cntTo, deg_take_succ h, touch, he]
theorem cnt_step {l : List ArcN} {k f t : Nat} {c : Int} (n : Nat) (h : l[k]? = some ⟨(f : Int), (t : Int), c⟩) (he : f ≠ t) :
    ((tab n (cntTo l k)).set (f + 1) ((deg (l.take k) f : Int) + 1)).set (t + 1) ((deg (l.take k) t : Int) + 1) = tab n (cntTo l (k + 1)) := by
  rw [tab_set, tab_set]
  refine tab_congr fun i _ => ?_
  have he' : (f : Int) ≠ (t : Int) := by omega
  cases i with
  | zero => simp [cntTo]
  | succ i =>
    simp only [cntTo, deg_take_succ h, touch, Nat.add_right_cancel_iff]
    by_cases h1 : i = t
    · subst h1; simp [he']
    · by_cases h2 : i = f
      · subst h2; simp [he', he]
      · have h3 : (f : Int) ≠ (i : Int) := by omega
        have h4 : (t : Int) ≠ (i : Int) := by omega
        simp [h1, h2, h3, h4]
theorem fst_zero {l : List ArcN} {n m : Nat} (hl : l.length = n) (hk : ¬ m < n) : cntTo l m = fstTo l 0 := by
  funext v
  unfold fstTo
  cases v with
  | zero => simp [cntTo, firstOf]
  | succ v => simp [cntTo, List.take_of_length_le (show l.length ≤ m by omega)]
theorem fst_step (l : List ArcN) (n k : Nat) : (tab n (fstTo l k)).set (k + 1) ((deg l k : Int) + (firstOf l k : Int)) = tab n (fstTo l (k + 1)) := by
  rw [tab_set]
  refine tab_congr fun i _ => ?_
  by_cases h : i = k + 1
  · subst h; simp [fstTo, firstOf]; omega
  · rw [if_neg h]
    unfold fstTo
    by_cases h1 : i ≤ k
    · rw [if_pos h1, if_pos (by omega)]
    · rw [if_neg h1, if_neg (by omega)]
theorem fst_end {l : List ArcN} {N k : Nat} (hk : ¬ k < N) : tab (N + 1) (fstTo l k) = tab (N + 1) (fun v => (firstOf l v : Int)) :=
  tab_congr fun i hi => by unfold fstTo; rw [if_pos (by omega)]


end Go.Proofs.Ytanifbofjecpmaa

/-! Layer 2: slices.Clone. -/
namespace Go.Proofs.Ytanifbofjecpmaa
open Go.RowKit

set_option maxHeartbeats 1000000 in
theorem clone_any (g n c : Nat) (L : List Int) (w : World) (hA : Ints w w.heap.size (some ⟨g, 0, none⟩) n L) (hn : n ≤ 1000000000) :
    Calls Try.prog 72 #[.slice (some ⟨g, 0, none⟩) n c] w fun e w' => ∃ A c', e = .returned (.slice A n c') ∧ w'.ownsRow w.heap.size 3 1 (.slice A n c') n (L.flatMap intCells) ∧ Below w.heap.size w w' := by
  obtain ⟨i0, hi, hz0, hz1, hz2⟩ := info_parts int_info
  have HI := Lib.hid hi; have HZ0 := Lib.hid hz0; have HZ1 := Lib.hid hz1; have HZ2 := Lib.hid hz2
  clear hi hz0 hz1 hz2
  have q22 : ∀ (w : World) (a : Option Addr) (n c n' c' : Nat), (binOp .eql 27 (.slice a n c) (.slice none n' c')).run Try.prog w = .ok (.bool a.isNone) w := fun w a n c n' c' => Lib.run_eql_slice_nil w _ _ a n c n' c' Try.underlying27
  go_enter Try.func72, Try.ntmps72
  go_wp2_with (at_builtin; refine wpList_append_row _ rfl (.tmp 5) (.tmp 6) _ rfl w.heap.size 3 i0 _ 1 8 Try.underlying27 HI.out HZ0.out HZ1.out HZ2.out rfl (by omega) (some ⟨w.heap.size, 0, none⟩) 0 0 [] rfl (World.ownsRow_made w #[] 0 (Nat.le_refl _) (Nat.zero_le _) rfl) (some ⟨g, 0, none⟩) n c (L.flatMap intCells) rfl ?_ ?_ int_one ?_ ?_ ?_ ?_)
  · rw [flat_len (int_len L), hA.len]
  · exact RdBy.src (int_len L) (hA.below (below_alloc _))
  · unfold maxLen; omega
  · omega
  · simp
  · intro A2 c2 w2 HO2 hg HX
    go_wp2
    go_ret
    refine ⟨A2, c2, by simp, by simpa using HO2.out, (below_alloc _).grown hg (by simp) (by intro k hk; simp [Value.ownBlock] at hk; omega)⟩

end Go.Proofs.Ytanifbofjecpmaa

/-! Layer 2: a residual network with nothing in it yet. -/
namespace Go.Proofs.Ytanifbofjecpmaa
open Go.RowKit

/-- A residual network's value. -/
abbrev csrV (N M : Nat) (S T : Int) (gF gH gR gC gA gB : Nat) : Value :=
  .agg #[.int .i64 N, .int .i64 S, .int .i64 T, .slice (some ⟨gF, 0, none⟩) (N + 1) (N + 1), .slice (some ⟨gH, 0, none⟩) M M, .slice (some ⟨gR, 0, none⟩) M M, .slice (some ⟨gC, 0, none⟩) M M, .slice (some ⟨gA, 0, none⟩) M M, .slice (some ⟨gB, 0, none⟩) M M]

/-- Its blocks, known whole. -/
structure CsrBlk (w : World) (F H R C A : List Int) (B : List Bool) (gF gH gR gC gA gB : Nat) : Prop where
  kF : Blk w gF 3 (ivs F)
  kH : Blk w gH 3 (ivs H)
  kR : Blk w gR 3 (ivs R)
  kC : Blk w gC 2 (ivs C)
  kA : Blk w gA 3 (ivs A)
  kB : Blk w gB 4 (bvs B)
  ne : gF ≠ gH ∧ gF ≠ gR ∧ gF ≠ gA ∧ gH ≠ gR ∧ gH ≠ gA ∧ gR ≠ gA

section
variable {w w' : World} {F H R C A : List Int} {B : List Bool} {gF gH gR gC gA gB : Nat}
theorem CsrBlk.diff (h : CsrBlk w F H R C A B gF gH gR gC gA gB) : gF ≠ gC ∧ gF ≠ gB ∧ gH ≠ gC ∧ gH ≠ gB ∧ gR ≠ gC ∧ gR ≠ gB ∧ gC ≠ gA ∧ gC ≠ gB ∧ gA ≠ gB :=
  ⟨h.kF.ne h.kC (by decide), h.kF.ne h.kB (by decide), h.kH.ne h.kC (by decide), h.kH.ne h.kB (by decide), h.kR.ne h.kC (by decide), h.kR.ne h.kB (by decide), h.kC.ne h.kA (by decide), h.kC.ne h.kB (by decide), h.kA.ne h.kB (by decide)⟩
theorem CsrBlk.lts (h : CsrBlk w F H R C A B gF gH gR gC gA gB) : gF < w.heap.size ∧ gH < w.heap.size ∧ gR < w.heap.size ∧ gC < w.heap.size ∧ gA < w.heap.size ∧ gB < w.heap.size :=
  ⟨h.kF.lt, h.kH.lt, h.kR.lt, h.kC.lt, h.kA.lt, h.kB.lt⟩
theorem CsrBlk.below {n : Nat} (h : CsrBlk w F H R C A B gF gH gR gC gA gB) (hb : Below n w w') (hl : gF < n ∧ gH < n ∧ gR < n ∧ gC < n ∧ gA < n ∧ gB < n) : CsrBlk w' F H R C A B gF gH gR gC gA gB :=
  ⟨h.kF.below hb hl.1, h.kH.below hb hl.2.1, h.kR.below hb hl.2.2.1, h.kC.below hb hl.2.2.2.1, h.kA.below hb hl.2.2.2.2.1, h.kB.below hb hl.2.2.2.2.2, h.ne⟩
theorem CsrBlk.on (h : CsrBlk w F H R C A B gF gH gR gC gA gB) (hb : Below w.heap.size w w') : CsrBlk w' F H R C A B gF gH gR gC gA gB := h.below hb h.lts
theorem CsrBlk.alloc (h : CsrBlk w F H R C A B gF gH gR gC gA gB) (o : Obj) : CsrBlk (w.alloc o) F H R C A B gF gH gR gC gA gB := h.on (below_alloc o)
theorem CsrBlk.drew (h : CsrBlk w F H R C A B gF gH gR gC gA gB) : CsrBlk w.drew F H R C A B gF gH gR gC gA gB := ⟨h.kF.drew, h.kH.drew, h.kR.drew, h.kC.drew, h.kA.drew, h.kB.drew, h.ne⟩
theorem CsrBlk.far (h : CsrBlk w F H R C A B gF gH gR gC gA gB) {p : Addr} (hp : gF ≠ p.block ∧ gH ≠ p.block ∧ gR ≠ p.block ∧ gC ≠ p.block ∧ gA ≠ p.block ∧ gB ≠ p.block) (u : Value) : CsrBlk (w.setCell p u) F H R C A B gF gH gR gC gA gB :=
  ⟨h.kF.far hp.1 u, h.kH.far hp.2.1 u, h.kR.far hp.2.2.1 u, h.kC.far hp.2.2.2.1 u, h.kA.far hp.2.2.2.2.1 u, h.kB.far hp.2.2.2.2.2 u, h.ne⟩
theorem CsrBlk.setH (h : CsrBlk w F H R C A B gF gH gR gC gA gB) (i : Nat) (x : Int) : CsrBlk (w.setCell ⟨gH, i, none⟩ (.int .i64 x)) F (H.set i x) R C A B gF gH gR gC gA gB := by
  obtain ⟨n1, n2, n3, n4, n5, n6⟩ := h.ne
  obtain ⟨d1, d2, d3, d4, d5, d6, d7, d8, d9⟩ := h.diff
  exact ⟨h.kF.far n1 _, h.kH.iset i x, h.kR.far n4.symm _, h.kC.far d3.symm _, h.kA.far n5.symm _, h.kB.far d4.symm _, h.ne⟩
theorem CsrBlk.setR (h : CsrBlk w F H R C A B gF gH gR gC gA gB) (i : Nat) (x : Int) : CsrBlk (w.setCell ⟨gR, i, none⟩ (.int .i64 x)) F H (R.set i x) C A B gF gH gR gC gA gB := by
  obtain ⟨n1, n2, n3, n4, n5, n6⟩ := h.ne
  obtain ⟨d1, d2, d3, d4, d5, d6, d7, d8, d9⟩ := h.diff
  exact ⟨h.kF.far n2 _, h.kH.far n4 _, h.kR.iset i x, h.kC.far d5.symm _, h.kA.far n6.symm _, h.kB.far d6.symm _, h.ne⟩
theorem CsrBlk.setC (h : CsrBlk w F H R C A B gF gH gR gC gA gB) (i : Nat) (x : Int) : CsrBlk (w.setCell ⟨gC, i, none⟩ (.int .i64 x)) F H R (C.set i x) A B gF gH gR gC gA gB := by
  obtain ⟨d1, d2, d3, d4, d5, d6, d7, d8, d9⟩ := h.diff
  exact ⟨h.kF.far d1 _, h.kH.far d3 _, h.kR.far d5 _, h.kC.iset i x, h.kA.far d7.symm _, h.kB.far d8.symm _, h.ne⟩
theorem CsrBlk.setA (h : CsrBlk w F H R C A B gF gH gR gC gA gB) (i : Nat) (x : Int) : CsrBlk (w.setCell ⟨gA, i, none⟩ (.int .i64 x)) F H R C (A.set i x) B gF gH gR gC gA gB := by
  obtain ⟨n1, n2, n3, n4, n5, n6⟩ := h.ne
  obtain ⟨d1, d2, d3, d4, d5, d6, d7, d8, d9⟩ := h.diff
  exact ⟨h.kF.far n3 _, h.kH.far n5 _, h.kR.far n6 _, h.kC.far d7 _, h.kA.iset i x, h.kB.far d9.symm _, h.ne⟩
theorem CsrBlk.setB (h : CsrBlk w F H R C A B gF gH gR gC gA gB) (i : Nat) (x : Bool) : CsrBlk (w.setCell ⟨gB, i, none⟩ (.bool x)) F H R C A (B.set i x) gF gH gR gC gA gB := by
  obtain ⟨d1, d2, d3, d4, d5, d6, d7, d8, d9⟩ := h.diff
  exact ⟨h.kF.far d2 _, h.kH.far d4 _, h.kR.far d6 _, h.kC.far d8 _, h.kA.far d9 _, h.kB.bset i x, h.ne⟩
end


end Go.Proofs.Ytanifbofjecpmaa

/-! Layer 2: what the closure that writes a residual arc does. -/
namespace Go.Proofs.Ytanifbofjecpmaa
open Go.RowKit


end Go.Proofs.Ytanifbofjecpmaa

/-! Plain facts: residual arcs written one by one. -/
namespace Go.Proofs.Ytanifbofjecpmaa
open Go.RowKit

/-- What a residual network's rows hold, once the first k arcs are written. -/
structure Part (l : List ArcN) (M k : Nat) (H R C A : List Int) (B : List Bool) : Prop where
  lens : H.length = M ∧ R.length = M ∧ C.length = M ∧ A.length = M ∧ B.length = M
  ent : ∀ i v u b c, i < k → Inc l i v u b c → H[posOf l i v]? = some u ∧ R[posOf l i v]? = some (posOf l i u : Int) ∧ C[posOf l i v]? = some c ∧ A[posOf l i v]? = some (i : Int) ∧ B[posOf l i v]? = some b

/-- What the row of free places holds. -/
def FreeAt (l : List ArcN) (N k : Nat) (cur : Array Value) : Prop := ∀ v, v ≤ N → cur[v]? = some (.int .i64 (posOf l k (v : Int) : Int))

theorem set2_other {α : Type} {L : List α} {p q r : Nat} {x y : α} (h1 : r ≠ p) (h2 : r ≠ q) : ((L.set p x).set q y)[r]? = L[r]? := by
  rw [List.getElem?_set_ne (fun e => h2 e.symm), List.getElem?_set_ne (fun e => h1 e.symm)]
theorem set2_fst {α : Type} {L : List α} {p q : Nat} {x y : α} (h : p ≠ q) (hp : p < L.length) : ((L.set p x).set q y)[p]? = some x := by
  rw [List.getElem?_set_ne (fun e => h e.symm)]; simp [hp]
theorem set2_snd {α : Type} {L : List α} {p q : Nat} {x y : α} (hq : q < L.length) : ((L.set p x).set q y)[q]? = some y := by
  simp [hq]

section
variable {l : List ArcN} {M N k : Nat} {H R C A : List Int} {B : List Bool} {f t : Nat} {z : Int}
theorem Part.zero (l : List ArcN) (M : Nat) : Part l M 0 (List.replicate M 0) (List.replicate M 0) (List.replicate M 0) (List.replicate M 0) (List.replicate M false) :=
  ⟨by simp, fun i v u b c hi => absurd hi (by omega)⟩
theorem Part.loop (h : Part l M k H R C A B) {a : ArcN} (ha : l[k]? = some a) (e : a.frm = a.to) : Part l M (k + 1) H R C A B := by
  refine ⟨h.lens, fun i v u b c hi hI => ?_⟩
  by_cases hik : i = k
  · subst hik
    obtain ⟨hne, a', ha', hh⟩ := hI
    rw [ha] at ha'
    injection ha' with ha'
    subst ha'
    rcases hh with ⟨_, h1, h2, _⟩ | ⟨_, h1, h2, _⟩ <;> omega
  · exact h.ent i v u b c (by omega) hI
theorem Part.step (h : Part l M k H R C A B) (hE : EndsIn N l) (hM : firstOf l N = M) (ha : l[k]? = some ⟨(f : Int), (t : Int), z⟩) (e : f ≠ t) :
    Part l M (k + 1) ((H.set (posOf l k f) t).set (posOf l k t) f) ((R.set (posOf l k f) (posOf l k t)).set (posOf l k t) (posOf l k f)) ((C.set (posOf l k f) z).set (posOf l k t) 0) ((A.set (posOf l k f) k).set (posOf l k t) k) ((B.set (posOf l k f) false).set (posOf l k t) true) := by
  have e' : (f : Int) ≠ (t : Int) := by omega
  have If : Inc l k f t false z := inc_fwd ha e'
  have It : Inc l k t f true 0 := inc_bwd ha e'
  have hf := pos_lt If hE
  have ht := pos_lt It hE
  rw [hM] at hf ht
  obtain ⟨l1, l2, l3, l4, l5⟩ := h.lens
  have hpq : posOf l k f ≠ posOf l k t := fun hp => e' (pos_inj If It (by omega) (by omega) hp).1
  refine ⟨by simp [l1, l2, l3, l4, l5], fun i v u b c hi hI => ?_⟩
  by_cases hik : i = k
  · subst hik
    have h0 := hI.ends hE
    obtain ⟨hne, a', ha', hh⟩ := hI
    rw [ha] at ha'
    injection ha' with ha'
    subst ha'
    rcases hh with ⟨h1, h2, h3, h4⟩ | ⟨h1, h2, h3, h4⟩
    · simp only at h2 h3 h4
      subst h1; subst h2; subst h3; subst h4
      exact ⟨set2_fst hpq (by omega), set2_fst hpq (by omega), set2_fst hpq (by omega), set2_fst hpq (by omega), set2_fst hpq (by omega)⟩
    · simp only at h2 h3 h4
      subst h1; subst h2; subst h3; subst h4
      exact ⟨set2_snd (by omega), set2_snd (by omega), set2_snd (by omega), set2_snd (by omega), set2_snd (by omega)⟩
  · have h0 := hI.ends hE
    have n1 : posOf l i v ≠ posOf l k f := fun hp => hik (pos_inj hI If h0.1 (by omega) hp).2
    have n2 : posOf l i v ≠ posOf l k t := fun hp => hik (pos_inj hI It h0.1 (by omega) hp).2
    rw [set2_other n1 n2, set2_other n1 n2, set2_other n1 n2, set2_other n1 n2, set2_other n1 n2]
    exact h.ent i v u b c (by omega) hI

theorem FreeAt.loop {cur : Array Value} (h : FreeAt l N k cur) {a : ArcN} (ha : l[k]? = some a) (e : a.frm = a.to) : FreeAt l N (k + 1) cur := by
  intro v hv
  rw [h v hv]
  have : posOf l (k + 1) (v : Int) = posOf l k (v : Int) := by
    unfold posOf
    rw [deg_take_succ ha]
    simp [touch, e]
  rw [this]
theorem FreeAt.step {cur : Array Value} (h : FreeAt l N k cur) (ha : l[k]? = some ⟨(f : Int), (t : Int), z⟩) (e : f ≠ t) :
    FreeAt l N (k + 1) ((cur.setIfInBounds f (.int .i64 ((posOf l k f : Int) + 1))).setIfInBounds t (.int .i64 ((posOf l k t : Int) + 1))) := by
  intro v hv
  have e' : (f : Int) ≠ (t : Int) := by omega
  have hlt : ∀ v, v ≤ N → v < cur.size := fun v hv => (Array.getElem?_eq_some_iff.1 (h v hv)).1
  have hstep : posOf l (k + 1) (v : Int) = posOf l k (v : Int) + (if touch v ⟨(f : Int), (t : Int), z⟩ then 1 else 0) := by
    unfold posOf
    rw [deg_take_succ ha]
    omega
  rw [hstep]
  by_cases h1 : v = t
  · subst h1
    rw [Array.getElem?_setIfInBounds, if_pos rfl, if_pos (by simpa using hlt v hv)]
    simp [touch, e']
  · rw [Array.getElem?_setIfInBounds, if_neg (fun x => h1 x.symm)]
    by_cases h2 : v = f
    · subst h2
      rw [Array.getElem?_setIfInBounds, if_pos rfl, if_pos (hlt v hv)]
      simp [touch, e']
    · rw [Array.getElem?_setIfInBounds, if_neg (fun x => h2 x.symm), h v hv]
      have h3 : (f : Int) ≠ (v : Int) := by omega
      have h4 : (t : Int) ≠ (v : Int) := by omega
      simp [touch, h3, h4]
theorem FreeAt.zero {cur : Array Value} (h : ∀ v, v ≤ N → cur[v]? = some (.int .i64 (firstOf l v : Int))) : FreeAt l N 0 cur := by
  intro v hv
  rw [h v hv]
  simp [posOf, deg]
theorem own_blk {w : World} {base n c g : Nat} {e : TypeId} {size : Nat} {xs : List Value} (h : w.ownsRow base e size (.slice (some ⟨g, 0, none⟩) n c) n xs) : ∃ cur, Blk w g e cur := by
  rcases h.2 with ⟨h0, _⟩ | ⟨g', cap, cur, hv, hb, hh, _⟩
  · cases h0
  · injection hv with hA
    injection hA with hA
    injection hA with hA
    subst hA
    exact ⟨cur, hh⟩
end

end Go.Proofs.Ytanifbofjecpmaa

/-! Layer 2: write. -/
namespace Go.Proofs.Ytanifbofjecpmaa
open Go.RowKit


end Go.Proofs.Ytanifbofjecpmaa

/-! Layer 2: Make. -/
namespace Go.Proofs.Ytanifbofjecpmaa
open Go.RowKit

/-- The residual network of the arcs l lies in the blocks gF .. gB, below n0. -/
structure CsrAt (w : World) (n0 N : Nat) (l : List ArcN) (gF gH gR gC gA gB : Nat) : Prop where
  lt : gF < n0 ∧ gH < n0 ∧ gR < n0 ∧ gC < n0 ∧ gA < n0 ∧ gB < n0
  first : ∀ v, v ≤ N → w.cell? ⟨gF, v, none⟩ = some (.int .i64 (firstOf l v : Int))
  ent : ∀ i v u b c, Inc l i v u b c → w.cell? ⟨gH, posOf l i v, none⟩ = some (.int .i64 u) ∧ w.cell? ⟨gR, posOf l i v, none⟩ = some (.int .i64 (posOf l i u : Int)) ∧
    w.cell? ⟨gC, posOf l i v, none⟩ = some (.int .i64 c) ∧ w.cell? ⟨gA, posOf l i v, none⟩ = some (.int .i64 (i : Int)) ∧ w.cell? ⟨gB, posOf l i v, none⟩ = some (.bool b)
section
variable {w w' : World} {n0 n1 N : Nat} {l : List ArcN} {gF gH gR gC gA gB : Nat}
theorem CsrAt.below (h : CsrAt w n0 N l gF gH gR gC gA gB) (hb : Below n0 w w') : CsrAt w' n0 N l gF gH gR gC gA gB := by
  obtain ⟨h1, h2, h3, h4, h5, h6⟩ := h.lt
  refine ⟨h.lt, fun v hv => (hb.cell h1).trans (h.first v hv), fun i v u b c hI => ?_⟩
  obtain ⟨e1, e2, e3, e4, e5⟩ := h.ent i v u b c hI
  exact ⟨(hb.cell h2).trans e1, (hb.cell h3).trans e2, (hb.cell h4).trans e3, (hb.cell h5).trans e4, (hb.cell h6).trans e5⟩
theorem CsrAt.more (h : CsrAt w n0 N l gF gH gR gC gA gB) (hn : n0 ≤ n1) : CsrAt w n1 N l gF gH gR gC gA gB := ⟨by have := h.lt; omega, h.first, h.ent⟩
theorem CsrAt.on (h : CsrAt w w.heap.size N l gF gH gR gC gA gB) (hb : Below w.heap.size w w') : CsrAt w' w'.heap.size N l gF gH gR gC gA gB := (h.below hb).more hb.size
theorem CsrAt.onAlloc (h : CsrAt w w.heap.size N l gF gH gR gC gA gB) (o : Obj) : CsrAt (w.alloc o) (w.alloc o).heap.size N l gF gH gR gC gA gB := h.on (below_alloc o)
theorem CsrAt.alloc1 (h : CsrAt w w.heap.size N l gF gH gR gC gA gB) (o : Obj) : CsrAt (w.alloc o) w.heap.size N l gF gH gR gC gA gB := h.below (below_alloc o)
theorem CsrAt.of_blk {M : Nat} {H R C A : List Int} {B : List Bool} (h : CsrBlk w (tab (N + 1) fun v => (firstOf l v : Int)) H R C A B gF gH gR gC gA gB) (P : Part l M l.length H R C A B) : CsrAt w w.heap.size N l gF gH gR gC gA gB :=
  ⟨h.lts, fun v hv => h.kF.iat (tab_at (by omega)), fun i v u b c hI => by
    obtain ⟨e1, e2, e3, e4, e5⟩ := P.ent i v u b c hI.lt hI
    exact ⟨h.kH.iat e1, h.kR.iat e2, h.kC.iat e3, h.kA.iat e4, h.kB.bat e5⟩⟩
end
/-- A residual network in new memory is answered. -/
def RetCsr (N : Nat) (S T : Int) (l : List ArcN) (w : World) (e : Ending) (w' : World) : Prop :=
  ∃ gF gH gR gC gA gB, e = .returned (.tuple #[csrV N (firstOf l N) S T gF gH gR gC gA gB, .int .i64 0]) ∧ (w.heap.size ≤ gF ∧ w.heap.size ≤ gH ∧ w.heap.size ≤ gR ∧ w.heap.size ≤ gC ∧ w.heap.size ≤ gA ∧ w.heap.size ≤ gB) ∧
    CsrAt w' w'.heap.size N l gF gH gR gC gA gB ∧ Below w.heap.size w w'

theorem ends_of_check {N : Nat} {S T : Int} {l : List ArcN} (h : checkF N S T l = 0) : N ≤ 4096 ∧ l.length ≤ 16384 ∧ EndsIn N l := by
  obtain ⟨h1, h2, h3, h4, h5, h6⟩ := check_ok h
  refine ⟨?_, h2, fun a ha => ?_⟩
  · simp [vertsB] at h1; omega
  · have := List.all_eq_true.1 h4 a ha
    simp [isVertB] at this
    omega


end Go.Proofs.Ytanifbofjecpmaa
