/- A loop over an iterator in whose rounds another iterator's round is called: the loop's record is all that its book-keeping turns. -/
import Derived.Test.YtanifbofjecpmaaGround
import Derived.Test.YtanifbofjecpmaaFit
namespace Go.Proofs.Ytanifbofjecpmaa
open Go.RowKit Go.Shelf
set_option maxRecDepth 100000

theorem yield_any {m m' l : Nat} {args : Array Value} {W : World} {R : Ending → World → Prop} (h : YieldAt Fence.wide m Try.prog l args W R) : YieldAt Fence.wide m' Try.prog l args W R := by
  obtain ⟨fn, tmps, assign, body, hy, h1, h2⟩ := h
  exact ⟨fn, tmps, assign, body, hy, h1, fun c cs _ => h2 c cs (fun d h => by cases h)⟩

/-- What an iterator that calls the rounds of another loop from its own rounds promises: it is begun behind two new blocks, and its caller's word abides the turn of whatever block is laid since and is no cells. -/
def Feeds {α : Type} (c g : Nat) (lb : Array Value) (encs : α → Array Value) (Kp : World → World → Prop) (S Sp : List α → Prop) (N : Nat) (w : World) : Prop :=
  ∀ (l : Nat) (J Jx : List α → World → Prop) (W : World), Below w.heap.size w W → W.heap.size = w.heap.size + 2 → OwnFrom W.heap.size J → OwnFrom W.heap.size Jx →
    (∀ m pre x W1, J pre W1 → pre.length < N → w.heap.size + c ≤ W1.heap.size → YieldAt Fence.wide m Try.prog l (encs x) W1 fun e W' =>
      (e = .returned (.bool true) ∧ J (pre ++ [x]) W' ∧ Kp W1 W') ∨ (e = .returned (.bool false) ∧ Jx (pre ++ [x]) W' ∧ Kp W1 W')) →
    J [] W →
    Calls Try.prog g (#[.func (.yield l) #[] #[]] ++ lb) W fun e W' => (∃ v, e = .returned v) ∧ ((∃ xs, S xs ∧ J xs W') ∨ (∃ pre, Sp pre ∧ Jx pre W'))

theorem putObj_size (W : World) (l : Nat) (o : Obj) : (W.putObj l o).heap.size = W.heap.size := by simp [World.putObj]
/-- The loop's two blocks. -/
def Kept2 (b : Nat) (W : World) (r : Loop) : Prop := W.heap[b + 1]? = some (.loop r) ∧ W.heap[b]? = some (.deferred (some []))
theorem Kept2.lt {b : Nat} {W : World} {r : Loop} (h : Kept2 b W r) : b + 1 < W.heap.size := (Array.getElem?_eq_some_iff.1 h.1).1
theorem Kept2.put {b : Nat} {W : World} {r : Loop} (h : Kept2 b W r) (r' : Loop) : Kept2 b (W.putObj (b + 1) (.loop r')) r' :=
  ⟨World.putObj_heap_same h.lt, (World.putObj_heap_other (by omega)).trans h.2⟩
theorem Kept2.own {b : Nat} {W W' : World} {r : Loop} {row : Option Nat} (h : Kept2 b W r) (hg : W.grownBy W' row) (hr : ∀ j, row = some j → b + 2 ≤ j) : Kept2 b W' r :=
  ⟨(hg.block _ h.lt (fun e => by have := hr _ e.symm; omega)).trans h.1, (hg.block _ (by have := h.lt; omega) (fun e => by have := hr _ e.symm; omega)).trans h.2⟩
theorem Kept2.keep {b : Nat} {W W' : World} {r : Loop} (h : Kept2 b W r) (hk : KeepsFrom b W W') : Kept2 b W' r :=
  ⟨hk.same _ _ (by omega) h.1 rfl, hk.same _ _ (Nat.le_refl _) h.2 rfl⟩
theorem Kept2.final {b : Nat} {W : World} {r : Loop} (h : Kept2 b W r) (jump : Option Code) :
    (Instr.endRound (b + 1) jump).run Try.prog W = .ok (.bool jump.isNone) (W.putObj (b + 1) (.loop { r with state := if jump.isNone then .ready else .done, pending := jump })) := run_endRound jump h.1

/-- How a round may be left. -/
def recPost {α : Type} (b : Nat) (Kp : World → World → Prop) (I Ix : List α → World → Prop) (xs : List α) (W : World) (e : Exit) (_ : Act) (W' : World) : Prop := KeepsFrom b W W' ∧ Kp W W' ∧ ((e = .normal ∧ I xs W') ∨ (e = .ret ∧ Ix xs W'))
theorem rec_go {α : Type} {b : Nat} {Kp : World → World → Prop} {I Ix : List α → World → Prop} {xs : List α} {W W' : World} {a : Act} (h1 : KeepsFrom b W W') (h2 : Kp W W') (h3 : I xs W') : recPost b Kp I Ix xs W .normal a W' := ⟨h1, h2, .inl ⟨rfl, h3⟩⟩
theorem rec_ret {α : Type} {b : Nat} {Kp : World → World → Prop} {I Ix : List α → World → Prop} {xs : List α} {W W' : World} {a : Act} (h1 : KeepsFrom b W W') (h2 : Kp W W') (h3 : Ix xs W') : recPost b Kp I Ix xs W .ret a W' := ⟨h1, h2, .inr ⟨rfl, h3⟩⟩

theorem range_go {α : Type} {n : Nat} {g : Operand} {ps : Array Tmp} {assign body : Code} {Q : Exit → Act → World → Prop} {a : Act} {w : World}
    {gf : Nat} {lb : Array Value} (hg : a.eval g = .func (.func gf) #[] lb) (eg : ∀ args w, (callFunc gf args).run Try.prog w = .ok (.enter gf args) w)
    {encs : α → Array Value} {Kp : World → World → Prop} {S Sp : List α → Prop} {N c : Nat} (hseq : Feeds c gf lb encs Kp S Sp N w)
    (hKt : ∀ {A B C : World}, Kp A B → Kp B C → Kp A C) (hKb : ∀ (W : World) (o o' : Obj), W.heap[w.heap.size + 1]? = some o → Kp W (W.putObj (w.heap.size + 1) o')) (hps : ∀ x, (encs x).size = ps.size)
    (I Ix : List α → World → Prop) (hI : OwnFrom w.heap.size I) (hIx : OwnFrom w.heap.size Ix) (h0 : I [] w)
    (hround : ∀ (l : Nat) (pre : List α) (x : α) (W : World), assign.wpIn (Fence.wide.inRound l) n Try.prog
      (Exit.then (fun a' w' => w' = W ∧ ∀ W2, I pre W2 → pre.length < N → w.heap.size + c ≤ W2.heap.size → body.wpIn (Fence.wide.inRound l) n Try.prog (recPost w.heap.size Kp I Ix (pre ++ [x]) W2) a' W2) (fun _ _ _ => False))
      { tmps := (ps.zip (encs x)).foldl (fun t (p, v) => t.setIfInBounds p v) a.tmps, defers := [] } W)
    (hdone : ∀ (D : Nat) (xs : List α) (W : World), w.heap.size ≤ D → S xs → I xs W → W.heap[D]? = some (.deferred (some [])) → Q .normal { a with defers := { target := .collected D, args := #[] } :: a.defers } W)
    (hstop : ∀ (D : Nat) (pre : List α) (W : World), w.heap.size ≤ D → Sp pre → Ix pre W → W.heap[D]? = some (.deferred (some [])) → Code.ret.wpIn Fence.wide n Try.prog Q { a with defers := { target := .collected D, args := #[] } :: a.defers } W) :
    (Code.rangeFunc g ps assign body).wpIn Fence.wide n Try.prog Q a w := by
  refine wpIn_rangeFunc fun fn hfn => ?_
  obtain ⟨r, hr⟩ : ∃ r : Loop, r = { state := .ready, pending := none, fn := fn, tmps := a.tmps, params := ps, assign := assign, body := body, defers := w.heap.size } := ⟨_, rfl⟩
  obtain ⟨W1, hW1⟩ : ∃ W1, (w.alloc (.deferred (some []))).alloc (.loop r) = W1 := ⟨_, rfl⟩
  have hz1 : W1.heap.size = w.heap.size + 2 := by rw [← hW1]; simp
  have hL1 : Kept2 w.heap.size W1 r := by
    rw [← hW1]
    have h1 := World.alloc_heap_new (w.alloc (.deferred (some []))) (.loop r)
    rw [World.size_alloc] at h1
    exact ⟨h1, (Below.heap_alloc _ _ _ (by simp)).trans (World.alloc_heap_new w _)⟩
  have hI1 : I [] W1 := by rw [← hW1]; exact hI.alloc _ (hI.alloc _ h0)
  have hB1 : Below w.heap.size w W1 := by
    rw [← hW1]; exact ((Below.refl _ w).alloc (Nat.le_refl _) _).alloc (by simp) _
  refine ⟨w.heap.size + 1, [{ target := .collected w.heap.size, args := #[] }], W1, { target := .fn (.func gf) lb, args := #[.func (.yield (w.heap.size + 1)) #[] #[]] }, W1, gf,
    #[.func (.yield (w.heap.size + 1)) #[] #[]] ++ lb, W1, ?_, ?_, fun _ _ => trivial, ?_, (fun h => by cases h), ?_⟩
  · rw [← hW1, hr]; exact run_enterLoop_outer _ _ _ _ _
  · simp only [resolve, hg]
    simp [go_sem]
  · simp [invoke, go_sem, eg]
  refine callsIn_wide.2 ((hseq (w.heap.size + 1) (fun pre W => I pre W ∧ Kept2 w.heap.size W r) (fun pre W => Ix pre W ∧ Kept2 w.heap.size W { r with state := .done, pending := some .ret }) W1 hB1 hz1
    (fun s A B row hs hgr hrow => ⟨hI s A B row hs.1 hgr fun j e => ⟨by have := (hrow j e).1; omega, (hrow j e).2⟩, hs.2.own hgr fun j e => by have := (hrow j e).1; omega⟩)
    (fun s A B row hs hgr hrow => ⟨hIx s A B row hs.1 hgr fun j e => ⟨by have := (hrow j e).1; omega, (hrow j e).2⟩, hs.2.own hgr fun j e => by have := (hrow j e).1; omega⟩)
    ?_ ⟨hI1, hL1⟩).mono ?_)
  · rintro m pre x W ⟨hi, hk⟩ hlen h7
    refine yield_any (m := n) ?_
    have hy := run_yield (P := Try.prog) (args := encs x) hk.1 (by rw [hr]; exact hps x)
    have hbusy := hk.put { r with state := .busy }
    have hib := hI.putObj (.loop { r with state := .busy }) hi (by omega) hk.1 rfl
    have hk1 := hKb W _ (.loop { r with state := .busy }) hk.1
    have hbg := run_beginRound (P := Try.prog) hk.1 (by rw [hr])
    rw [hr] at hy
    refine ⟨fn, _, assign, body, hy, roundIn_of_wpIn hfn (wpIn_mono (hround _ pre x W) ?_)⟩
    rintro e0 a0 w0 hp0
    have hp1 : e0 = .normal ∧ w0 = W ∧ ∀ W2, I pre W2 → pre.length < N → w.heap.size + c ≤ W2.heap.size → body.wpIn (Fence.wide.inRound (w.heap.size + 1)) n Try.prog (recPost w.heap.size Kp I Ix (pre ++ [x]) W2) a0 W2 := by
      cases e0 with
      | normal => exact ⟨rfl, hp0⟩
      | _ => exact hp0.elim
    obtain ⟨rfl, rfl, hp1⟩ := hp1
    refine ⟨_, hbg, ?_⟩
    refine wpIn_mono (hp1 _ hib hlen (by rw [putObj_size]; exact h7)) ?_
    rintro e a3 W3 ⟨hkf, hkp, hout⟩
    have hk3 := hbusy.keep hkf
    rcases hout with ⟨rfl, hi3⟩ | ⟨rfl, hi3⟩
    · refine ⟨_, _, hk3.final none, .inl ⟨rfl, ⟨hI.putObj _ hi3 (by omega) hk3.1 rfl, ?_⟩, hKt (hKt hk1 hkp) (hKb _ _ _ hk3.1)⟩⟩
      have := hk3.put r
      rw [hr] at this ⊢
      exact this
    · exact ⟨_, _, hk3.final (some .ret), .inr ⟨rfl, ⟨hIx.putObj _ hi3 (by omega) hk3.1 rfl, hk3.put _⟩, hKt (hKt hk1 hkp) (hKb _ _ _ hk3.1)⟩⟩
  · rintro e W2 ⟨⟨v, rfl⟩, (⟨xs, hS, hi, hk⟩ | ⟨pre, hSp, hi, hk⟩)⟩
    · have hend := run_endLoop (P := Try.prog) hk.1 (by rw [hr]; simp)
      rw [show r.pending = none by rw [hr]] at hend
      exact ⟨none, _, hend, hdone _ xs _ (Nat.le_refl _) hS (hI.putObj _ hi (by omega) hk.1 rfl) ((World.putObj_heap_other (by omega)).trans hk.2)⟩
    · have hend := run_endLoop (P := Try.prog) hk.1 (by simp)
      exact ⟨some .ret, _, hend, hstop _ pre _ (Nat.le_refl _) hSp (hIx.putObj _ hi (by omega) hk.1 rfl) ((World.putObj_heap_other (by omega)).trans hk.2)⟩


theorem range_rec {α : Type} {n : Nat} {g : Operand} {ps : Array Tmp} {assign body : Code} {Q : Exit → Act → World → Prop} {a : Act} {w : World}
    {gf : Nat} {lb : Array Value} (hg : a.eval g = .func (.func gf) #[] lb) (eg : ∀ args w, (callFunc gf args).run Try.prog w = .ok (.enter gf args) w)
    {encs : α → Array Value} {Kp : World → World → Prop} {S Sp : List α → Prop} {N c : Nat} (hseq : Feeds c gf lb encs Kp S Sp N w)
    (hKt : ∀ {A B C : World}, Kp A B → Kp B C → Kp A C) (hKb : ∀ (W : World) (o o' : Obj), W.heap[w.heap.size + 1]? = some o → Kp W (W.putObj (w.heap.size + 1) o')) (hps : ∀ x, (encs x).size = ps.size)
    (I Ix : List α → World → Prop) (hI : OwnFrom w.heap.size I) (hIx : OwnFrom w.heap.size Ix) (h0 : I [] w) (a1 : α → Act)
    (hassign : ∀ (l : Nat) (x : α) (W : World) (K : Act → World → Prop), K (a1 x) W →
      assign.wpIn (Fence.wide.inRound l) n Try.prog (Exit.then K (fun _ _ _ => False)) { tmps := (ps.zip (encs x)).foldl (fun t (p, v) => t.setIfInBounds p v) a.tmps, defers := [] } W)
    (hbody : ∀ (l : Nat) (pre : List α) (x : α) (W : World), I pre W → pre.length < N → w.heap.size + c ≤ W.heap.size → body.wpIn (Fence.wide.inRound l) n Try.prog (recPost w.heap.size Kp I Ix (pre ++ [x]) W) (a1 x) W)
    (hdone : ∀ (D : Nat) (xs : List α) (W : World), w.heap.size ≤ D → S xs → I xs W → W.heap[D]? = some (.deferred (some [])) → Q .normal { a with defers := { target := .collected D, args := #[] } :: a.defers } W)
    (hstop : ∀ (D : Nat) (pre : List α) (W : World), w.heap.size ≤ D → Sp pre → Ix pre W → W.heap[D]? = some (.deferred (some [])) → Code.ret.wpIn Fence.wide n Try.prog Q { a with defers := { target := .collected D, args := #[] } :: a.defers } W) :
    (Code.rangeFunc g ps assign body).wpIn Fence.wide n Try.prog Q a w :=
  range_go hg eg hseq hKt hKb hps I Ix hI hIx h0 (fun l pre x W => hassign l x W _ ⟨rfl, fun W2 h1 h2 h3 => hbody l pre x W2 h1 h2 h3⟩) hdone hstop

end Go.Proofs.Ytanifbofjecpmaa
