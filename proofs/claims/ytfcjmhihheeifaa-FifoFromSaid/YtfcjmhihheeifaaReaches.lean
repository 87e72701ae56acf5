/- Layer 4: the search, From, To. -/
import Derived.Test.YtfcjmhihheeifaaCuts
import Derived.Test.YtfcjmhihheeifaaFacts
import Derived.Test.YtfcjmhihheeifaaCsrm
import Derived.Test.YtfcjmhihheeifaaCsrr
import Derived.Test.YtfcjmhihheeifaaFlows
/-! Layer 4: what the closure 'keep' of a search does. -/
namespace Go.Proofs.Ytfcjmhihheeifaa
open Go.RowKit
set_option maxRecDepth 100000

/-- A search's side and row, where they lie. -/
structure Seek (w : World) (n0 bs gs bf N : Nat) (K : List Bool) (xs : List Int) : Prop where
  kS : Blk w bs 26 #[.slice (some ⟨gs, 0, none⟩) N N]
  kK : Blk w gs 4 (bvs K)
  row : ∃ (A : Option Addr) (n c : Nat), Blk w bf 43 #[.slice A n c] ∧ w.ownsRow n0 3 1 (.slice A n c) n (xs.flatMap intCells) ∧ xs.length = n
  le : n0 ≤ gs ∧ n0 ≤ bf ∧ n0 ≤ w.heap.size

theorem row_below {w w' : World} {base n B : Nat} {e : TypeId} {size : Nat} {v : Value} {xs : List Value} (h : w.ownsRow base e size v n xs) (hb : Below B w w') (hB : w.heap.size ≤ B) : w'.ownsRow base e size v n xs := by
  refine h.kept (row := some w.heap.size) ⟨hb.os, hb.tape, hb.output, hb.size, fun i hi _ => hb.block i (by omega)⟩ ?_
  rcases h.2 with ⟨h0, _⟩ | ⟨g, cap, cur, hv, _, hh, _⟩
  · subst h0; exact .inl rfl
  · subst hv
    refine .inr fun e => ?_
    injection e with e
    have : g < w.heap.size := (Array.getElem?_eq_some_iff.1 hh).1
    simp only at e
    omega
theorem Seek.on {w w' : World} {n0 bs gs bf N : Nat} {K : List Bool} {xs : List Int} (h : Seek w n0 bs gs bf N K xs) (hb : Below w.heap.size w w') : Seek w' n0 bs gs bf N K xs := by
  obtain ⟨A, n, c, kF, hO, hl⟩ := h.row
  exact ⟨h.kS.below hb h.kS.lt, h.kK.below hb h.kK.lt, ⟨A, n, c, kF.below hb kF.lt, row_below hO hb (Nat.le_refl _), hl⟩, ⟨h.le.1, h.le.2.1, Nat.le_trans h.le.2.2 hb.size⟩⟩

set_option maxHeartbeats 4000000 in
theorem keep_any (n0 bs gs bf N v : Nat) (K : List Bool) (xs : List Int) (w : World) (hv : v < N) (hl : K.length = N) (hx : xs.length ≤ 100000) (hS : Seek w n0 bs gs bf N K xs) :
    Calls Try.prog 92 #[.int .i64 (v : Int), .pointer (some ⟨bs, 0, none⟩), .pointer (some ⟨bf, 0, none⟩)] w fun e w' =>
      (∃ u, e = .returned u) ∧ Seek w' n0 bs gs bf N (K.set v true) (if inS K (v : Int) then xs else xs ++ [(v : Int)]) ∧ Below n0 w w' ∧
        (∀ g t cs, Blk w g t cs → t ≠ 4 → t ≠ 3 → t ≠ 43 → Blk w' g t cs) := by
  have hS0 := hS
  obtain ⟨kS, kK, ⟨A, n, c, kF, hO, hln⟩, le⟩ := hS
  have s0 := kS.cell 0
  simp only [List.getElem?_toArray, List.getElem?_cons_zero] at s0
  have k0 := kK.bat (at_inS (K := K) (v := v) (by omega))
  have kf := kK.frozen v
  have hz1 := kS.lt; have hz2 := kK.lt; have hz3 := kF.lt
  cases hK : inS K (v : Int)
  · rw [hK] at k0
    have HK := Lib.hid hK
    clear hK
    have e1 := kS.ne kK (by decide)
    have e2 := kF.ne kK (by decide)
    have e3 := kF.ne kS (by decide)
    obtain ⟨i0, hi, hz0, hz1', hz2'⟩ := info_parts int_info
    have HI := Lib.hid hi; have HZ0 := Lib.hid hz0; have HZ1 := Lib.hid hz1'; have HZ2 := Lib.hid hz2'
    clear hi hz0 hz1' hz2'
    go_enter Try.func92, Try.ntmps92
    have f0 := kF.cell 0
    simp only [List.getElem?_toArray, List.getElem?_cons_zero] at f0
    have ff := kF.frozen 0
    have O1 : (w.setCell ⟨gs, v, none⟩ (.bool true)).ownsRow n0 3 1 (.slice A n c) n (xs.flatMap intCells) := own_far hO (own_ne hO kK (by decide)) _
    have F1 := kF.far (p := ⟨gs, v, none⟩) e2 (.bool true)
    have S1 := kS.far (p := ⟨gs, v, none⟩) e1 (.bool true)
    have K1 := kK.bset v true
    have HO1 := Lib.hid O1
    clear O1
    go_wp2_with (at_builtin; refine wpList_append_row _ rfl (.tmp 12) (.tmp 14) _ rfl n0 3 i0 _ 1 8 Try.underlying43 HI.out HZ0.out HZ1.out HZ2.out rfl (by omega) A n c _ rfl (HO1.out.alloc _) (some ⟨w.heap.size, 0, none⟩) 1 1 ([(v : Int)].flatMap intCells) (by simp [go_sem]) rfl ?_ int_one ?_ ?_ ?_ ?_)
    · intro _
      refine ⟨_, rfl, fun j u hu => ?_⟩
      rw [addr_add, Nat.zero_add]
      exact ((Blk.new (by simp) : Blk ((w.setCell ⟨gs, v, none⟩ (.bool true)).alloc _) w.heap.size 3 #[.int .i64 (v : Int)]).cell j).trans (by simpa [intCells] using hu)
    · unfold maxLen; omega
    · omega
    · simp; omega
    · intro A3 c3 w3 HO3 hg3 HX3
      have F3 := (F1.alloc (.cells #[.int .i64 (v : Int)] 3)).grownO hg3 (HO1.out.alloc _) (by decide)
      have S3 := (S1.alloc (.cells #[.int .i64 (v : Int)] 3)).grownO hg3 (HO1.out.alloc _) (by decide)
      have K3 := (K1.alloc (.cells #[.int .i64 (v : Int)] 3)).grownO hg3 (HO1.out.alloc _) (by decide)
      have B3 := below_grown (((Below.refl n0 w).setCell (p := ⟨gs, v, none⟩) le.1 (.bool true)).alloc (by simp; exact le.2.2) (.cells #[.int .i64 (v : Int)] 3)) hg3 (HO1.out.alloc _) (Nat.le_refl _) (by simp; omega)
      have P3 : ∀ g t cs, Blk w g t cs → t ≠ 4 → t ≠ 3 → Blk w3 g t cs := fun g t cs h h1 h2 => ((h.far (p := ⟨gs, v, none⟩) (h.ne kK h1) (.bool true)).alloc (.cells #[.int .i64 (v : Int)] 3)).grownO hg3 (HO1.out.alloc _) (fun e => h2 e.symm)
      have hO3 : w3.ownsRow n0 3 1 (.slice A3 (n + 1) c3) (n + 1) ((xs ++ [(v : Int)]).flatMap intCells) := by rw [List.flatMap_append]; simpa using HO3.out
      have hz4 := B3.size
      have ff3 := F3.frozen 0
      have fc3 := F3.cell 0
      simp only [List.getElem?_toArray, List.getElem?_cons_zero] at fc3
      have hz5 := F3.lt
      have HP3 := Lib.hid P3; have HB3 := Lib.hid B3; have HR3 := Lib.hid hO3
      clear P3 B3 hO3 HO3 HX3 hg3
      go_wp2_with fail
      go_end0
      refine ⟨⟨_, rfl⟩, ⟨S3.far (S3.ne F3 (by decide)) _, K3.far (K3.ne F3 (by decide)) _, ⟨A3, n + 1, c3, F3.set 0 _, own_far HR3.out (own_ne HR3.out F3 (by decide)) _, by simp [hln]⟩, by simp; omega⟩, HB3.out.setCell le.2.1 _, fun g t cs h h1 h2 h3 => ?_⟩
      have h' := HP3.out g t cs h h1 h2
      exact h'.far (h'.ne F3 h3) _
  · rw [hK] at k0
    have HK := Lib.hid hK
    clear hK
    go_enter Try.func92, Try.ntmps92
    go_wp2_with fail
    go_end0
    rw [set_there HK.out]
    exact ⟨⟨_, rfl⟩, hS0, Below.refl _ _, fun g t cs h _ _ _ => h⟩

end Go.Proofs.Ytfcjmhihheeifaa

/-! Layer 4: reached: the search. -/
namespace Go.Proofs.Ytfcjmhihheeifaa
open Go.RowKit
set_option maxRecDepth 100000

/-- A side in new memory is answered. -/
def RetSide (N : Nat) (p : List Bool → Prop) (w : World) (e : Ending) (w' : World) : Prop :=
  ∃ g K, e = .returned (.slice (some ⟨g, 0, none⟩) N N) ∧ w.heap.size ≤ g ∧ Blk w' g 4 (bvs K) ∧ K.length = N ∧ p K ∧ Below w.heap.size w w'

theorem via_in {l : List ArcN} {p : Nat → Bool} {N : Nat} (hE : EndsIn N l) {v u : Int} (h : Via l p v u) : 0 ≤ u ∧ u < N := by
  obtain ⟨i, b, c, hI, _⟩ := h
  have := hI.ends hE
  omega

set_option maxHeartbeats 4000000 in
theorem reached_is (N M : Nat) (S T : Int) (gF gH gR gC gA gB : Nat) (l : List ArcN) (fn : Nat) (caps : Array Value) (p : Nat → Bool) (s : Nat) (w : World) (hC : CsrAt w w.heap.size N l gF gH gR gC gA gB) (hE : EndsIn N l) (hMe : firstOf l N = M) (hM : M ≤ 100000000) (hN : N ≤ 4096) (hs : s < N)
    (hcl : ∀ (k : Nat) (W : World), k < M → Below w.heap.size w W → Calls Try.prog fn (#[.int .i64 (k : Int)] ++ caps) W fun e w' => e = .returned (.bool (p k)) ∧ Below W.heap.size W w')
    (hcf : ∀ (xs : Array Value) (W : World), (callFunc fn xs).run Try.prog W = .ok (.enter fn xs) W) :
    Calls Try.prog 71 #[csrV N M S T gF gH gR gC gA gB, .int .i64 (s : Int), .func (.func fn) #[] caps] w (RetSide N (fun K => ∀ v : Int, 0 ≤ v → (inS K v = true ↔ Star (Via l p) (s : Int) v)) w) := by
  obtain ⟨i1, hi, hz0, hz1, hz2⟩ := info_parts bool_info
  have hml := fun W => run_make_lit (P := Try.prog) 26 4 i1 _ Try.underlying26 hi hz0 N (by rw [hz2]; omega) (by omega) W
  rw [hz1, bvs_made] at hml
  clear hi hz0 hz1 hz2
  have HCL := Lib.hid hcl; clear hcl
  go_enter Try.func71, Try.ntmps71
  go_wp2_with fail
  have KC : Blk ((((w.alloc (.cells #[.int .i64 N, .int .i64 S, .int .i64 T, .slice (some ⟨gF, 0, none⟩) (N + 1) (N + 1), .slice (some ⟨gH, 0, none⟩) M M, .slice (some ⟨gR, 0, none⟩) M M, .slice (some ⟨gC, 0, none⟩) M M, .slice (some ⟨gA, 0, none⟩) M M, .slice (some ⟨gB, 0, none⟩) M M] 45)).alloc (.cells (bvs (List.replicate N false)) 4)).alloc (.cells #[.slice (some ⟨w.heap.size + 1, 0, none⟩) N N] 26)).alloc (.cells #[.slice none 0 0] 43)) w.heap.size 45 #[.int .i64 N, .int .i64 S, .int .i64 T, .slice (some ⟨gF, 0, none⟩) (N + 1) (N + 1), .slice (some ⟨gH, 0, none⟩) M M, .slice (some ⟨gR, 0, none⟩) M M, .slice (some ⟨gC, 0, none⟩) M M, .slice (some ⟨gA, 0, none⟩) M M, .slice (some ⟨gB, 0, none⟩) M M] := (((Blk.new rfl).alloc _).alloc _).alloc _
  have SK : Seek ((((w.alloc (.cells #[.int .i64 N, .int .i64 S, .int .i64 T, .slice (some ⟨gF, 0, none⟩) (N + 1) (N + 1), .slice (some ⟨gH, 0, none⟩) M M, .slice (some ⟨gR, 0, none⟩) M M, .slice (some ⟨gC, 0, none⟩) M M, .slice (some ⟨gA, 0, none⟩) M M, .slice (some ⟨gB, 0, none⟩) M M] 45)).alloc (.cells (bvs (List.replicate N false)) 4)).alloc (.cells #[.slice (some ⟨w.heap.size + 1, 0, none⟩) N N] 26)).alloc (.cells #[.slice none 0 0] 43)) (w.heap.size + 1) (w.heap.size + 1 + 1) (w.heap.size + 1) (w.heap.size + 1 + 1 + 1) N (List.replicate N false) [] :=
    ⟨(Blk.new (by simp)).alloc _, ((Blk.new (by simp)).alloc _).alloc _, ⟨none, 0, 0, Blk.new (by simp), World.ownsRow_nil _ _ _ _, rfl⟩, by simp <;> omega⟩
  have Bw : Below w.heap.size w ((((w.alloc (.cells #[.int .i64 N, .int .i64 S, .int .i64 T, .slice (some ⟨gF, 0, none⟩) (N + 1) (N + 1), .slice (some ⟨gH, 0, none⟩) M M, .slice (some ⟨gR, 0, none⟩) M M, .slice (some ⟨gC, 0, none⟩) M M, .slice (some ⟨gA, 0, none⟩) M M, .slice (some ⟨gB, 0, none⟩) M M] 45)).alloc (.cells (bvs (List.replicate N false)) 4)).alloc (.cells #[.slice (some ⟨w.heap.size + 1, 0, none⟩) N N] 26)).alloc (.cells #[.slice none 0 0] 43)) := (((below_alloc _).alloc (by simp) _).alloc (by simp; omega) _).alloc (by simp; omega) _
  generalize ((((w.alloc (.cells #[.int .i64 N, .int .i64 S, .int .i64 T, .slice (some ⟨gF, 0, none⟩) (N + 1) (N + 1), .slice (some ⟨gH, 0, none⟩) M M, .slice (some ⟨gR, 0, none⟩) M M, .slice (some ⟨gC, 0, none⟩) M M, .slice (some ⟨gA, 0, none⟩) M M, .slice (some ⟨gB, 0, none⟩) M M] 45)).alloc (.cells (bvs (List.replicate N false)) 4)).alloc (.cells #[.slice (some ⟨w.heap.size + 1, 0, none⟩) N N] 26)).alloc (.cells #[.slice none 0 0] 43)) = w0 at *
  clear hml
  refine (keep_any (w.heap.size + 1) (w.heap.size + 1 + 1) (w.heap.size + 1) (w.heap.size + 1 + 1 + 1) N s (List.replicate N false) [] w0 hs (by simp) (by simp) SK).mono ?_
  rintro e w1 ⟨⟨u, rfl⟩, SK1, B1, -⟩
  have hfs : inS (List.replicate N false) (s : Int) = false := by simp [inS, hs]
  rw [hfs] at SK1
  simp only [Bool.false_eq_true, if_false, List.nil_append] at SK1
  have KC1 := KC.below B1 (by omega)
  have Bw1 : Below w.heap.size w w1 := Bw.trans (B1.mono (by omega))
  have I1 : SeekInv (Via l p) N (s : Int) 0 ((List.replicate N false).set s true) [(s : Int)] := SeekInv.start hs
  clear KC SK Bw B1 hfs
  go_wp2_with fail
  go_loopw [10] (fun i wr => ∃ (k : Nat) (K : List Bool) (xs : List Int), k ≤ xs.length ∧ i = .int .i64 k ∧ SeekInv (Via l p) N (s : Int) k K xs ∧ Seek wr (w.heap.size + 1) (w.heap.size + 1 + 1) (w.heap.size + 1) (w.heap.size + 1 + 1 + 1) N K xs ∧
      Blk wr w.heap.size 45 #[.int .i64 N, .int .i64 S, .int .i64 T, .slice (some ⟨gF, 0, none⟩) (N + 1) (N + 1), .slice (some ⟨gH, 0, none⟩) M M, .slice (some ⟨gR, 0, none⟩) M M, .slice (some ⟨gC, 0, none⟩) M M, .slice (some ⟨gA, 0, none⟩) M M, .slice (some ⟨gB, 0, none⟩) M M] ∧ Below w.heap.size w wr) (fun i _ => N - (intOf i).toNat)
  case atStart => exact ⟨0, _, _, Nat.zero_le _, rfl, I1, SK1, KC1, Bw1⟩
  case round =>
    clear KC1 SK1 I1 Bw1
    obtain ⟨k, K, xs, hk, rfl, I, SK, KC, Bw⟩ := hrel
    have hxl := I.le
    have hfl := SK.row.choose_spec.choose_spec.choose_spec.1.lt
    by_cases hlt : k < xs.length
    · obtain ⟨W0, hW0⟩ : ∃ W0, W0 = wr := ⟨_, rfl⟩
      subst hW0
      obtain ⟨A, n, c, kF, hO, hln⟩ := SK.row
      have f0 := kF.cell 0
      simp only [List.getElem?_toArray, List.getElem?_cons_zero] at f0
      obtain ⟨b, off, v, rfl, hb, hxk, cx⟩ := intl_at (ints_own hO hln) (k := k) (by omega)
      have hve := I.ent v (mem_at hxk)
      obtain ⟨v, rfl⟩ := Int.eq_ofNat_of_zero_le hve.1
      have hvN : v < N := by omega
      obtain ⟨a0, a1, a2, a3, a4, a5, a6, a7, a8⟩ := KC.at9
      have C0 := hC.below Bw
      have r0 := C0.first v (by omega)
      have hnk : (k : Int) < (n : Int) := by omega
      have HXK := Lib.hid hxk; have HVE := Lib.hid hve; clear hxk hve
      have hfm := firstOf_mono l (show v ≤ v + 1 by omega)
      have hfm2 := firstOf_mono l (show v + 1 ≤ N by omega)
      obtain ⟨fa, hfa⟩ : ∃ fa, firstOf l v = fa := ⟨_, rfl⟩
      rw [hfa] at r0 hfm
      obtain ⟨z, hz⟩ : ∃ z, firstOf l (v + 1) = z := ⟨_, rfl⟩
      rw [hz] at hfm hfm2
      rw [hMe] at hfm2
      have HFA := Lib.hid hfa; have HZ := Lib.hid hz
      clear hfa hz a0 a1 a2 a4 a5 a6 a7 a8
      go_wp2_with fail
      clear a3 r0 f0 cx C0 hnk hfl
      go_loopw [12] (fun j wr => ∃ (a : Nat) (K : List Bool) (xs : List Int), fa ≤ a ∧ a ≤ z ∧ j = .int .i64 a ∧ SeekInv (Via l p) N (s : Int) k K xs ∧ xs[k]? = some (v : Int) ∧ Seek wr (w.heap.size + 1) (w.heap.size + 1 + 1) (w.heap.size + 1) (w.heap.size + 1 + 1 + 1) N K xs ∧
        Blk wr w.heap.size 45 #[.int .i64 N, .int .i64 S, .int .i64 T, .slice (some ⟨gF, 0, none⟩) (N + 1) (N + 1), .slice (some ⟨gH, 0, none⟩) M M, .slice (some ⟨gR, 0, none⟩) M M, .slice (some ⟨gC, 0, none⟩) M M, .slice (some ⟨gA, 0, none⟩) M M, .slice (some ⟨gB, 0, none⟩) M M] ∧ Below w.heap.size w wr ∧
        (∀ (i' : Nat) (u : Int) (b : Bool) (c : Int), Inc l i' v u b c → p (posOf l i' v) = true → posOf l i' v < a → inS K u = true)) (fun j _ => z - (intOf j).toNat)
      case atStart => exact ⟨fa, K, xs, Nat.le_refl _, hfm, rfl, I, HXK.out, SK, KC, Bw, fun i' u b c hI _ hlt => by
        have := (pos_row hI (by omega)).1
        have e := HFA.out
        simp only [Int.toNat_natCast] at this
        omega⟩
      case round =>
        clear SK KC Bw I HXK hxl hlt hk HVE kF hO hln hb
        obtain ⟨a, K, xs, ha0, ha1, rfl, I, hxk, SK, KC, Bw, hpart⟩ := hrel
        have HXK := Lib.hid hxk; have HPT := Lib.hid hpart
        clear hxk hpart
        have hxl := I.le
        have hsz1 := SK.kS.lt
        obtain ⟨a0, a1, a2, a3, a4, a5, a6, a7, a8⟩ := KC.at9
        have C0 := hC.below Bw
        have r1 := C0.first (v + 1) (by omega)
        rw [HZ.out] at r1
        by_cases hlt : a < z
        · obtain ⟨i', u, b', c', hI, hpos⟩ := row_find (l := l) (k := v) (j := a) (by have := HFA.out; omega) (by have := HZ.out; omega)
          have hue := hI.ends hE
          obtain ⟨u, rfl⟩ := Int.eq_ofNat_of_zero_le hue.2.2.1
          have huN : u < N := by omega
          obtain ⟨e1, -, -, -, -⟩ := C0.ent _ _ _ _ _ hI
          rw [← hpos] at e1
          have hI2 := Lib.hid hI; have hPOS := Lib.hid hpos
          clear hue hI hpos
          have haM : a < M := by omega
          cases hpa : p a
          · have HPA := Lib.hid hpa
            go_wp2_with fail
            refine (HCL.out a _ haM Bw).mono ?_
            rintro e w2 ⟨rfl, B2⟩
            rw [hpa]
            clear hpa
            go_wp2_with fail
            go_roundw
            case rel =>
              refine ⟨a + 1, K, xs, by omega, by omega, by go_num, I, HXK.out, SK.on B2, KC.below B2 KC.lt, Bw.trans (B2.mono (by omega)), fun i1 u1 b1 c1 h1 h2 h3 => ?_⟩
              by_cases e : posOf l i1 v = a
              · rw [e, HPA.out] at h2
                cases h2
              · exact HPT.out i1 u1 b1 c1 h1 h2 (by omega)
            case measure => simp [intOf]; omega
          · have HPA := Lib.hid hpa
            go_wp2_with fail
            refine (HCL.out a _ haM Bw).mono ?_
            rintro e w2 ⟨rfl, B2⟩
            rw [hpa]
            clear hpa
            have SK2 := SK.on B2
            have KC2 := KC.below B2 KC.lt
            have Bw2 := Bw.trans (B2.mono (by omega))
            have e2 := ((hC.below Bw2).ent _ _ _ _ _ hI2.out).1
            rw [← hPOS.out] at e2
            have hsz2 := B2.size
            clear a0 a1 a2 a3 a4 a5 a6 a7 a8 r1 e1 C0 SK KC B2 Bw
            obtain ⟨a0, a1, a2, a3, a4, a5, a6, a7, a8⟩ := KC2.at9
            have hsz3 := KC2.lt
            go_wp2_with fail
            refine (keep_any (w.heap.size + 1) (w.heap.size + 1 + 1) (w.heap.size + 1) (w.heap.size + 1 + 1 + 1) N u K xs w2 huN I.len (by omega) SK2).mono ?_
            rintro e w3 ⟨⟨y, rfl⟩, SK3, B3, -⟩
            have KC3 := KC2.below B3 (by omega)
            have Bw3 := Bw2.trans (B3.mono (by omega))
            have hvia : Via l p (v : Int) (u : Int) := ⟨i', b', c', hI2.out, by rw [← hPOS.out]; exact HPA.out⟩
            have hxv := I.ent _ (mem_at HXK.out)
            have hstar : Star (Via l p) (s : Int) (u : Int) := .more hxv.2.2.2 hvia
            have hfit : ∃ K3 xs3, Seek w3 (w.heap.size + 1) (w.heap.size + 1 + 1) (w.heap.size + 1) (w.heap.size + 1 + 1 + 1) N K3 xs3 ∧ SeekInv (Via l p) N (s : Int) k K3 xs3 ∧ xs3[k]? = some (v : Int) ∧ (∀ x : Int, 0 ≤ x → inS K x = true → inS K3 x = true) ∧ inS K3 (u : Int) = true := by
              have hkx := (List.getElem?_eq_some_iff.1 HXK.out).1
              cases hku : inS K (u : Int)
              · rw [hku] at SK3
                simp only [Bool.false_eq_true, if_false] at SK3
                refine ⟨_, _, SK3, I.add (by omega) huN hstar hku (by omega), by rw [List.getElem?_append_left hkx]; exact HXK.out, fun x hx hk => ?_, ?_⟩
                · rw [inS_set hx (by rw [I.len]; exact huN), hk]; rfl
                · rw [inS_set (by omega) (by rw [I.len]; exact huN)]; simp
              · rw [hku] at SK3
                simp only [if_true] at SK3
                rw [set_there hku] at SK3
                exact ⟨_, _, SK3, I, HXK.out, fun x _ h => h, hku⟩
            obtain ⟨K3, xs3, hK1, hK2, hK3, hK4, hK5⟩ := hfit
            have HK1 := Lib.hid hK1; have HK2 := Lib.hid hK2; have HK3 := Lib.hid hK3; have HK4 := Lib.hid hK4; have HK5 := Lib.hid hK5
            clear hK1 hK2 hK3 hK4 hK5 SK3 hstar hvia hxv
            go_wp2_with fail
            go_roundw
            case rel =>
              refine ⟨a + 1, K3, xs3, by omega, by omega, by go_num, HK2.out, HK3.out, HK1.out, KC3, Bw3, fun i1 u1 b1 c1 h1 h2 h3 => ?_⟩
              by_cases e : posOf l i1 v = a
              · have hI' := hI2.out
                obtain ⟨-, e2⟩ := pos_inj h1 hI' (by omega) (by omega) (by rw [e, hPOS.out])
                subst e2
                rw [(h1.same hI').1]
                exact HK5.out
              · exact HK4.out _ (h1.ends hE).2.2.1 (HPT.out i1 u1 b1 c1 h1 h2 (by omega))
            case measure => simp [intOf]; omega
        · obtain rfl : a = z := by omega
          have hkx := (List.getElem?_eq_some_iff.1 HXK.out).1
          go_wp2_with fail
          go_roundw
          case rel =>
            refine ⟨k + 1, K, xs, by omega, by go_num, I.next HXK.out fun u hu hR => ?_, SK, KC, Bw⟩
            obtain ⟨i1, b1, c1, h1, h2⟩ := hR
            refine HPT.out i1 u b1 c1 h1 h2 ?_
            have := (pos_row h1 (by omega)).2
            simp only [Int.toNat_natCast] at this
            rw [HZ.out] at this
            exact this
          case measure => simp [intOf]; omega
    · have hl : k = xs.length := by omega
      obtain ⟨A, n, c, kF, hO, hln⟩ := SK.row
      have f0 := kF.cell 0
      have s0 := SK.kS.cell 0
      simp only [List.getElem?_toArray, List.getElem?_cons_zero] at f0 s0
      have hnk : ¬ (k : Int) < (n : Int) := by omega
      go_wp2_with fail
      go_ret
      exact ⟨_, K, rfl, by omega, SK.kK, I.len, fun v hv => I.all hlt (by omega) (fun a b h => (via_in hE h).1) hv, Bw⟩

end Go.Proofs.Ytfcjmhihheeifaa

/-! Layer 4: residual; the closures of From and To. -/
namespace Go.Proofs.Ytfcjmhihheeifaa
open Go.RowKit
set_option maxRecDepth 100000


set_option maxHeartbeats 1000000 in
theorem to1_any (k q br bc g gR M : Nat) (X : List Int) (v0 v1 v2 v3 v4 v6 v7 v8 : Value) (w : World) (hk : k < M) (hq : q < M) (hX : X.length = M) (K1 : Blk w br 25 #[.slice (some ⟨g, 0, none⟩) M M]) (K2 : Blk w g 2 (ivs X))
    (K3 : Blk w bc 45 #[v0, v1, v2, v3, v4, .slice (some ⟨gR, 0, none⟩) M M, v6, v7, v8]) (hR : w.cell? ⟨gR, k, none⟩ = some (.int .i64 (q : Int))) :
    Calls Try.prog 72 #[.int .i64 (k : Int), .pointer (some ⟨br, 0, none⟩), .pointer (some ⟨bc, 0, none⟩)] w fun e w' => e = .returned (.bool (decide (0 < (X[q]?).getD 0))) ∧ Below w.heap.size w w' := by
  have c1 := K1.cell 0
  have c3 := K3.cell 5
  simp only [List.getElem?_toArray, List.getElem?_cons_zero, List.getElem?_cons_succ] at c1 c3
  obtain ⟨x, hx⟩ : ∃ x, X[q]? = some x := ⟨_, List.getElem?_eq_getElem (by omega)⟩
  have c2 := K2.iat hx
  rw [hx]
  clear hx
  simp only [Option.getD_some]
  by_cases h0 : 0 < x
  · go_enter Try.func72, Try.ntmps72
    go_wp2_with fail
    go_quiet (fail)
    go_wp2_with fail
    go_ret
    exact ⟨retb (by simp <;> omega), below_drewN' (Below.refl _ _) _⟩
  · go_enter Try.func72, Try.ntmps72
    go_wp2_with fail
    go_quiet (fail)
    go_wp2_with fail
    go_ret
    exact ⟨retb (by simp <;> omega), below_drewN' (Below.refl _ _) _⟩

/-- A residual network and what is left, in new memory, are answered. -/
def RetRes (N : Nat) (S T : Int) (l : List ArcN) (F : List Int) (w : World) (e : Ending) (w' : World) : Prop :=
  ∃ gF gH gR gC gA gB g X, e = .returned (.tuple #[csrV N (firstOf l N) S T gF gH gR gC gA gB, .slice (some ⟨g, 0, none⟩) (firstOf l N) (firstOf l N), .int .i64 0]) ∧
    CsrAt w' w'.heap.size N l gF gH gR gC gA gB ∧ Blk w' g 2 (ivs X) ∧ ResOf l F (firstOf l N) X ∧ Below w.heap.size w w'

/-- A residual network stays while another block is written. -/
theorem CsrAt.farC {w : World} {n0 N : Nat} {l : List ArcN} {gF gH gR gC gA gB : Nat} (h : CsrAt w n0 N l gF gH gR gC gA gB) {p : Addr} (hf : gF ≠ p.block ∧ gH ≠ p.block ∧ gR ≠ p.block ∧ gC ≠ p.block ∧ gA ≠ p.block ∧ gB ≠ p.block) (u : Value) : CsrAt (w.setCell p u) n0 N l gF gH gR gC gA gB := by
  have hc : ∀ (b o : Nat), b ≠ p.block → (w.setCell p u).cell? ⟨b, o, none⟩ = w.cell? ⟨b, o, none⟩ := fun b o hb => World.cell?_of_block (Below.heap_setCell w p u b hb)
  obtain ⟨h1, h2, h3, h4, h5, h6⟩ := hf
  refine ⟨h.lt, fun v hv => (hc _ _ h1).trans (h.first v hv), fun i v u' b c hI => ?_⟩
  obtain ⟨e1, e2, e3, e4, e5⟩ := h.ent i v u' b c hI
  exact ⟨(hc _ _ h2).trans e1, (hc _ _ h3).trans e2, (hc _ _ h4).trans e3, (hc _ _ h5).trans e4, (hc _ _ h6).trans e5⟩

theorem ok_of_flow {l : List ArcN} {F : List Int} (h : FlowIn l F) : okB l F = true := okB_iff.2 fun i a x ha hx => .inr (h.ent i a x ha hx)

set_option maxHeartbeats 4000000 in
theorem residual_good (N : Nat) (S T : Int) (A : Option Addr) (n c : Nat) (l : List ArcN) (AF : Option Addr) (m cF : Nat) (F : List Int) (w : World) (hA : Arcs w w.heap.size A n l) (hck : checkF N S T l = 0)
    (hF : Ints w w.heap.size AF m F) (hfl : FlowIn l F) :
    Calls Try.prog 70 #[.agg #[.int .i64 N, .int .i64 S, .int .i64 T, .slice A n c], .slice AF m cF] w (RetRes N S T l F w) := by
  have hend := ends_in hck
  have hla := hA.len
  have hlf := hF.len
  obtain ⟨hN2, hN3, hn3, hE, -, -, -, -, -, hnn, htot⟩ := hend
  obtain rfl : m = n := by rw [← hlf, hfl.len, hla]
  have hcap : ∀ a ∈ l, a.cap ≤ 4611686018427387904 := fun a ha => by
    obtain ⟨i, hi⟩ := List.getElem?_of_mem ha
    have := total_at hnn hi
    unfold maxSum at htot
    omega
  have hcs := csr_size hN3 hn3
  have HC := Lib.hid hck; clear hck
  unfold RetRes
  obtain ⟨M, hMe⟩ : ∃ M, firstOf l N = M := ⟨_, rfl⟩
  rw [hMe] at hcs ⊢
  go_enter Try.func70, Try.ntmps70
  go_wp2_with fail
  refine (make_good N S T A m c l _ ((hA.onAlloc _).onAlloc _) HC.out).mono ?_
  rintro e w1 ⟨gF, gH, gR, gC, gA, gB, rfl, hg, C1, B1⟩
  rw [hMe]
  have HM := Lib.hid hMe; clear hMe
  have K1 : Blk w1 w.heap.size 24 #[.int .i64 N, .int .i64 S, .int .i64 T, .slice A m c] := ((Blk.new rfl).alloc _).below B1 (by simp <;> omega)
  have Z1 : Blk w1 (w.heap.size + 1) 45 #[.int .i64 0, .int .i64 0, .int .i64 0, .slice none 0 0, .slice none 0 0, .slice none 0 0, .slice none 0 0, .slice none 0 0, .slice none 0 0] := (Blk.new (by simp)).below B1 (by simp <;> omega)
  have a1 := ((hA.onAlloc (.cells #[.int .i64 N, .int .i64 S, .int .i64 T, .slice A m c] 24)).onAlloc (.cells #[.int .i64 0, .int .i64 0, .int .i64 0, .slice none 0 0, .slice none 0 0, .slice none 0 0, .slice none 0 0, .slice none 0 0, .slice none 0 0] 45)).on B1
  have F1 := ((hF.onAlloc (.cells #[.int .i64 N, .int .i64 S, .int .i64 T, .slice A m c] 24)).onAlloc (.cells #[.int .i64 0, .int .i64 0, .int .i64 0, .slice none 0 0, .slice none 0 0, .slice none 0 0, .slice none 0 0, .slice none 0 0, .slice none 0 0] 45)).on B1
  have Bw1 : Below w.heap.size w w1 := below_step ((below_alloc _).alloc (by simp) _) B1
  obtain ⟨x0, x1, x2, x3⟩ := K1.at4
  have hz1 := K1.lt
  have hz2 := Z1.lt
  have hzz := Z1.lt
  clear B1
  go_wp2_with fail
  refine (flowIn_any N S T A m c l AF m cF F true _ (a1.onAlloc _) (by omega) HC.out (F1.onAlloc _) (by omega) (by simp; exact hfl)).mono ?_
  rintro e w2 ⟨rfl, B2⟩
  have K2 := (K1.alloc (.cells #[.int .i64 N, .int .i64 S, .int .i64 T, .slice (some ⟨gF, 0, none⟩) (N + 1) (N + 1), .slice (some ⟨gH, 0, none⟩) M M, .slice (some ⟨gR, 0, none⟩) M M, .slice (some ⟨gC, 0, none⟩) M M, .slice (some ⟨gA, 0, none⟩) M M, .slice (some ⟨gB, 0, none⟩) M M] 45)).below B2 (by simp; omega)
  have Z2 := (Z1.alloc (.cells #[.int .i64 N, .int .i64 S, .int .i64 T, .slice (some ⟨gF, 0, none⟩) (N + 1) (N + 1), .slice (some ⟨gH, 0, none⟩) M M, .slice (some ⟨gR, 0, none⟩) M M, .slice (some ⟨gC, 0, none⟩) M M, .slice (some ⟨gA, 0, none⟩) M M, .slice (some ⟨gB, 0, none⟩) M M] 45)).below B2 (by simp; omega)
  have R2 : Blk w2 w1.heap.size 45 #[.int .i64 N, .int .i64 S, .int .i64 T, .slice (some ⟨gF, 0, none⟩) (N + 1) (N + 1), .slice (some ⟨gH, 0, none⟩) M M, .slice (some ⟨gR, 0, none⟩) M M, .slice (some ⟨gC, 0, none⟩) M M, .slice (some ⟨gA, 0, none⟩) M M, .slice (some ⟨gB, 0, none⟩) M M] := (Blk.new rfl).below B2 (by simp)
  have C2 := (C1.onAlloc (.cells #[.int .i64 N, .int .i64 S, .int .i64 T, .slice (some ⟨gF, 0, none⟩) (N + 1) (N + 1), .slice (some ⟨gH, 0, none⟩) M M, .slice (some ⟨gR, 0, none⟩) M M, .slice (some ⟨gC, 0, none⟩) M M, .slice (some ⟨gA, 0, none⟩) M M, .slice (some ⟨gB, 0, none⟩) M M] 45)).on B2
  have F2 := (F1.onAlloc (.cells #[.int .i64 N, .int .i64 S, .int .i64 T, .slice (some ⟨gF, 0, none⟩) (N + 1) (N + 1), .slice (some ⟨gH, 0, none⟩) M M, .slice (some ⟨gR, 0, none⟩) M M, .slice (some ⟨gC, 0, none⟩) M M, .slice (some ⟨gA, 0, none⟩) M M, .slice (some ⟨gB, 0, none⟩) M M] 45)).on B2
  have Bw2 := below_step (Bw1.alloc Bw1.size (.cells #[.int .i64 N, .int .i64 S, .int .i64 T, .slice (some ⟨gF, 0, none⟩) (N + 1) (N + 1), .slice (some ⟨gH, 0, none⟩) M M, .slice (some ⟨gR, 0, none⟩) M M, .slice (some ⟨gC, 0, none⟩) M M, .slice (some ⟨gA, 0, none⟩) M M, .slice (some ⟨gB, 0, none⟩) M M] 45)) B2
  clear x0 x1 x2 x3 hz1 hz2 B2 K1 Z1 C1 F1 a1 Bw1
  obtain ⟨x0, x1, x2, x3, x4, x5, x6, x7, x8⟩ := R2.at9
  have hz2 := Z2.lt
  have hz3 := R2.lt
  go_wp2_with fail
  refine (res_good N M S T gF gH gR gC gA gB l AF m cF F _ C2 hE HM.out hcs F2 hla (ok_of_flow hfl) hcap).mono ?_
  rintro e w3 ⟨g, X, rfl, hgX, X3, hXl, hX, B3⟩
  have Z3 := Z2.below B3 Z2.lt
  have R3 := R2.below B3 R2.lt
  have C3 := C2.on B3
  have Bw3 := below_step Bw2 B3
  simp only [World.size_alloc] at hg
  have hf : gF ≠ w.heap.size + 1 ∧ gH ≠ w.heap.size + 1 ∧ gR ≠ w.heap.size + 1 ∧ gC ≠ w.heap.size + 1 ∧ gA ≠ w.heap.size + 1 ∧ gB ≠ w.heap.size + 1 := by omega
  have hgX' : g ≠ w.heap.size + 1 := by omega
  clear x0 x1 x2 x3 x4 x5 x6 x7 x8 hz2 hz3 Z2 R2 C2 F2 Bw2 B3 K2
  obtain ⟨a0, a1, a2, a3, a4, a5, a6, a7, a8⟩ := R3.at9
  obtain ⟨b0, b1, b2, b3, b4, b5, b6, b7, b8⟩ := Z3.at9
  obtain ⟨f0, f1, f2, f3, f4, f5, f6, f7, f8⟩ := Z3.free9
  have hz2 := Z3.lt
  have hz3 := R3.lt
  have KQ := Z3.set9 (.int .i64 N) (.int .i64 S) (.int .i64 T) (.slice (some ⟨gF, 0, none⟩) (N + 1) (N + 1)) (.slice (some ⟨gH, 0, none⟩) M M) (.slice (some ⟨gR, 0, none⟩) M M) (.slice (some ⟨gC, 0, none⟩) M M) (.slice (some ⟨gA, 0, none⟩) M M) (.slice (some ⟨gB, 0, none⟩) M M)
  have HC3 := Lib.hid C3; have HK := Lib.hid KQ; have HB := Lib.hid Bw3; have HX3 := Lib.hid X3; have HHF := Lib.hid hf
  clear C3 KQ R3 Z3 Bw3 X3 hf hg hgX hzz
  go_wp2_with fail
  obtain ⟨q0, q1, q2, q3, q4, q5, q6, q7, q8⟩ := HK.out.at9
  refine bodyPost_ret (v := .tuple #[csrV N M S T gF gH gR gC gA gB, .slice (some ⟨g, 0, none⟩) M M, .int .i64 0]) (by simp [results, Try.results70, go_sem, q0, q1, q2, q3, q4, q5, q6, q7, q8]) rfl ?_
  have hf := HHF.out
  refine ⟨gF, gH, gR, gC, gA, gB, g, X, rfl, ?_, ?_, hX, ?_⟩
  · have e : ∀ (W : World) (a : Addr) (v : Value), (W.setCell a v).heap.size = W.heap.size := fun W a v => by simp
    rw [e, e, e, e, e, e, e, e, e]
    exact ((((((((HC3.out.farC hf _).farC hf _).farC hf _).farC hf _).farC hf _).farC hf _).farC hf _).farC hf _).farC hf _
  · exact ((((((((HX3.out.far hgX' _).far hgX' _).far hgX' _).far hgX' _).far hgX' _).far hgX' _).far hgX' _).far hgX' _).far hgX' _
  · exact ((((((((HB.out.setCell (by simp) _).setCell (by simp) _).setCell (by simp) _).setCell (by simp) _).setCell (by simp) _).setCell (by simp) _).setCell (by simp) _).setCell (by simp) _).setCell (by simp) _

end Go.Proofs.Ytfcjmhihheeifaa

/-! Plain facts: open arcs; what the closures of From and To ask. -/
namespace Go.Proofs.Ytfcjmhihheeifaa

/-- Something more can be sent from v to u along one arc. -/
def Opn (l : List ArcN) (F : List Int) (v u : Int) : Prop :=
  ∃ (i : Nat) (a : ArcN) (x : Int), l[i]? = some a ∧ F[i]? = some x ∧ a.frm ≠ a.to ∧ ((a.frm = v ∧ a.to = u ∧ x < a.cap) ∨ (a.to = v ∧ a.frm = u ∧ 0 < x))
section
variable {l : List ArcN} {F X : List Int} {M N : Nat} {v u : Int}
theorem opn_of {i : Nat} {b : Bool} {c x : Int} (hI : Inc l i v u b c) (hx : F[i]? = some x) (h : 0 < (if b then x else capAt l i - x)) : Opn l F v u := by
  obtain ⟨hne, a, ha, hh⟩ := hI
  refine ⟨i, a, x, ha, hx, ?_, ?_⟩
  · rcases hh with ⟨_, h1, h2, _⟩ | ⟨_, h1, h2, _⟩
    · rw [h1, h2]; exact hne
    · rw [h1, h2]; exact fun e => hne e.symm
  · have hc : capAt l i = a.cap := by unfold capAt; rw [ha]
    rcases hh with ⟨h0, h1, h2, _⟩ | ⟨h0, h1, h2, _⟩
    · subst h0
      rw [hc] at h
      exact .inl ⟨h1, h2, by simpa using h⟩
    · subst h0
      exact .inr ⟨h1, h2, by simpa using h⟩
theorem of_opn (h : Opn l F v u) : ∃ (i : Nat) (b : Bool) (c x : Int), Inc l i v u b c ∧ F[i]? = some x ∧ 0 < (if b then x else capAt l i - x) := by
  obtain ⟨i, a, x, ha, hx, hne, hh⟩ := h
  have hc : capAt l i = a.cap := by unfold capAt; rw [ha]
  rcases hh with ⟨h1, h2, h3⟩ | ⟨h1, h2, h3⟩
  · subst h1; subst h2
    exact ⟨i, false, _, x, inc_fwd ha hne, hx, by rw [hc]; simp; exact h3⟩
  · subst h1; subst h2
    exact ⟨i, true, _, x, inc_bwd ha hne, hx, by simp; exact h3⟩
def leftB (X : List Int) (k : Nat) : Bool := decide (0 < (X[k]?).getD 0)
theorem via_from (hl : F.length = l.length) (hX : ResOf l F M X) : Via l (leftB X) v u ↔ Opn l F v u := by
  constructor
  · rintro ⟨i, b, c, hI, hp⟩
    have hx : F[i]? = some (F[i]'(by rw [hl]; exact hI.lt)) := List.getElem?_eq_getElem _
    have := hX.ent i v u b c _ hI hx
    simp only [leftB, this, Option.getD_some, decide_eq_true_eq] at hp
    exact opn_of hI hx hp
  · intro h
    obtain ⟨i, b, c, x, hI, hx, hp⟩ := of_opn h
    refine ⟨i, b, c, hI, ?_⟩
    have := hX.ent i v u b c _ hI hx
    simp only [leftB, this, Option.getD_some, decide_eq_true_eq]
    exact hp
open Classical in
/-- What is left of the other one of residual arc k. -/
noncomputable def revB (l : List ArcN) (X : List Int) (k : Nat) : Bool := decide (∃ (i : Nat) (v u : Int) (b : Bool) (c : Int), Inc l i v u b c ∧ 0 ≤ v ∧ posOf l i v = k ∧ leftB X (posOf l i u) = true)
open Classical in
theorem revB_at {i : Nat} {b : Bool} {c : Int} (hI : Inc l i v u b c) (hv : 0 ≤ v) : revB l X (posOf l i v) = leftB X (posOf l i u) := by
  rw [Bool.eq_iff_iff]
  unfold revB
  rw [decide_eq_true_eq]
  constructor
  · rintro ⟨i', v', u', b', c', hI', hv', hp, h⟩
    obtain ⟨rfl, rfl⟩ := pos_inj hI' hI hv' hv hp
    rwa [(hI'.same hI).1] at h
  · intro h
    exact ⟨i, v, u, b, c, hI, hv, rfl, h⟩
theorem via_to (hE : EndsIn N l) (hl : F.length = l.length) (hX : ResOf l F M X) : Via l (revB l X) v u ↔ Opn l F u v := by
  rw [← via_from hl hX]
  constructor
  · rintro ⟨i, b, c, hI, hp⟩
    rw [revB_at hI (hI.ends hE).1] at hp
    obtain ⟨c', hI'⟩ := hI.flip
    exact ⟨i, _, c', hI', hp⟩
  · rintro ⟨i, b, c, hI, hp⟩
    obtain ⟨c', hI'⟩ := hI.flip
    exact ⟨i, _, c', hI', by rw [revB_at hI' (hI.ends hE).2.2.1]; exact hp⟩
end

end Go.Proofs.Ytfcjmhihheeifaa

/-! Layer 4: From, To. -/
namespace Go.Proofs.Ytfcjmhihheeifaa
open Go.RowKit
set_option maxRecDepth 100000

/-- A side in new memory is answered, and no error. -/
def RetSideE (N : Nat) (p : List Bool → Prop) (w : World) (e : Ending) (w' : World) : Prop :=
  ∃ g K, e = .returned (.tuple #[.slice (some ⟨g, 0, none⟩) N N, .int .i64 0]) ∧ w.heap.size ≤ g ∧ Blk w' g 4 (bvs K) ∧ K.length = N ∧ p K ∧ Below w.heap.size w w'

set_option maxHeartbeats 4000000 in
theorem residual_bad (N : Nat) (S T : Int) (A : Option Addr) (n c : Nat) (l : List ArcN) (AF : Option Addr) (m cF : Nat) (F : List Int) (w : World) (hA : Arcs w w.heap.size A n l) (hck : checkF N S T l = 0)
    (hF : Ints w w.heap.size AF m F) (hm : m ≤ 1000000) (hfl : ¬ FlowIn l F) :
    Calls Try.prog 70 #[.agg #[.int .i64 N, .int .i64 S, .int .i64 T, .slice A n c], .slice AF m cF] w fun e w' =>
      e = .returned (.tuple #[.agg #[.int .i64 0, .int .i64 0, .int .i64 0, .slice none 0 0, .slice none 0 0, .slice none 0 0, .slice none 0 0, .slice none 0 0, .slice none 0 0], .slice none 0 0, .int .i64 20]) ∧ Below w.heap.size w w' := by
  have hend := ends_in hck
  have hla := hA.len
  obtain ⟨hN2, hN3, hn3, -, -, -, -, -, -, -, -⟩ := hend
  have HC := Lib.hid hck; clear hck
  go_enter Try.func70, Try.ntmps70
  go_wp2_with fail
  refine (make_good N S T A n c l _ ((hA.onAlloc _).onAlloc _) HC.out).mono ?_
  rintro e w1 ⟨gF, gH, gR, gC, gA, gB, rfl, hg, C1, B1⟩
  generalize firstOf l N = M at *
  have K1 : Blk w1 w.heap.size 24 #[.int .i64 N, .int .i64 S, .int .i64 T, .slice A n c] := ((Blk.new rfl).alloc _).below B1 (by simp <;> omega)
  have Z1 : Blk w1 (w.heap.size + 1) 45 #[.int .i64 0, .int .i64 0, .int .i64 0, .slice none 0 0, .slice none 0 0, .slice none 0 0, .slice none 0 0, .slice none 0 0, .slice none 0 0] := (Blk.new (by simp)).below B1 (by simp <;> omega)
  have a1 := ((hA.onAlloc (.cells #[.int .i64 N, .int .i64 S, .int .i64 T, .slice A n c] 24)).onAlloc (.cells #[.int .i64 0, .int .i64 0, .int .i64 0, .slice none 0 0, .slice none 0 0, .slice none 0 0, .slice none 0 0, .slice none 0 0, .slice none 0 0] 45)).on B1
  have F1 := ((hF.onAlloc (.cells #[.int .i64 N, .int .i64 S, .int .i64 T, .slice A n c] 24)).onAlloc (.cells #[.int .i64 0, .int .i64 0, .int .i64 0, .slice none 0 0, .slice none 0 0, .slice none 0 0, .slice none 0 0, .slice none 0 0, .slice none 0 0] 45)).on B1
  have Bw1 : Below w.heap.size w w1 := below_step ((below_alloc _).alloc (by simp) _) B1
  obtain ⟨x0, x1, x2, x3⟩ := K1.at4
  have hz1 := K1.lt
  have hz2 := Z1.lt
  clear B1
  go_wp2_with fail
  refine (flowIn_any N S T A n c l AF m cF F false _ (a1.onAlloc _) (by omega) HC.out (F1.onAlloc _) (by omega) (by simp; exact hfl)).mono ?_
  rintro e w2 ⟨rfl, B2⟩
  have Z2 := (Z1.alloc (.cells #[.int .i64 N, .int .i64 S, .int .i64 T, .slice (some ⟨gF, 0, none⟩) (N + 1) (N + 1), .slice (some ⟨gH, 0, none⟩) M M, .slice (some ⟨gR, 0, none⟩) M M, .slice (some ⟨gC, 0, none⟩) M M, .slice (some ⟨gA, 0, none⟩) M M, .slice (some ⟨gB, 0, none⟩) M M] 45)).below B2 (by simp; omega)
  have Bw2 := below_step (Bw1.alloc Bw1.size (.cells #[.int .i64 N, .int .i64 S, .int .i64 T, .slice (some ⟨gF, 0, none⟩) (N + 1) (N + 1), .slice (some ⟨gH, 0, none⟩) M M, .slice (some ⟨gR, 0, none⟩) M M, .slice (some ⟨gC, 0, none⟩) M M, .slice (some ⟨gA, 0, none⟩) M M, .slice (some ⟨gB, 0, none⟩) M M] 45)) B2
  clear x0 x1 x2 x3 hz1 hz2 B2 K1 Z1 C1 F1 a1 Bw1
  obtain ⟨b0, b1, b2, b3, b4, b5, b6, b7, b8⟩ := Z2.at9
  obtain ⟨f0, f1, f2, f3, f4, f5, f6, f7, f8⟩ := Z2.free9
  have hz2 := Z2.lt
  have KQ := Z2.set9 (.int .i64 0) (.int .i64 0) (.int .i64 0) (.slice none 0 0) (.slice none 0 0) (.slice none 0 0) (.slice none 0 0) (.slice none 0 0) (.slice none 0 0)
  have HK := Lib.hid KQ; have HB := Lib.hid Bw2
  clear KQ Z2 Bw2
  go_wp2_with fail
  obtain ⟨q0, q1, q2, q3, q4, q5, q6, q7, q8⟩ := HK.out.at9
  refine bodyPost_ret (v := .tuple #[.agg #[.int .i64 0, .int .i64 0, .int .i64 0, .slice none 0 0, .slice none 0 0, .slice none 0 0, .slice none 0 0, .slice none 0 0, .slice none 0 0], .slice none 0 0, .int .i64 20]) (by simp [results, Try.results70, go_sem, q0, q1, q2, q3, q4, q5, q6, q7, q8]) rfl ?_
  exact ⟨rfl, ((((((((HB.out.setCell (by simp) _).setCell (by simp) _).setCell (by simp) _).setCell (by simp) _).setCell (by simp) _).setCell (by simp) _).setCell (by simp) _).setCell (by simp) _).setCell (by simp) _⟩


set_option maxHeartbeats 4000000 in
theorem to_bad (N : Nat) (S T : Int) (A : Option Addr) (n c : Nat) (l : List ArcN) (AF : Option Addr) (m cF : Nat) (F : List Int) (w : World) (hA : Arcs w w.heap.size A n l) (hck : checkF N S T l = 0)
    (hF : Ints w w.heap.size AF m F) (hm : m ≤ 1000000) (hfl : ¬ FlowIn l F) :
    Calls Try.prog 31 #[.agg #[.int .i64 N, .int .i64 S, .int .i64 T, .slice A n c], .slice AF m cF] w fun e w' => e = .returned (.tuple #[.slice none 0 0, .int .i64 20]) ∧ Below w.heap.size w w' := by
  go_enter Try.func31, Try.ntmps31
  go_wp2_with fail
  refine (residual_bad N S T A n c l AF m cF F _ (hA.onAlloc _) hck (hF.onAlloc _) hm hfl).mono ?_
  rintro e w1 ⟨rfl, B1⟩
  have Bw := below_step (below_alloc _) B1
  go_wp2_with fail
  go_ret2
  exact ⟨rfl, (Bw.alloc Bw.size _).alloc (by have := Bw.size; simp; omega) _⟩


theorem mapTo_at {α : Type} (f : α → α) {l : List α} {k : Nat} {a : α} (h : l[k]? = some a) : (mapTo f l k)[k]? = some a := by
  have hk := (List.getElem?_eq_some_iff.1 h).1
  unfold mapTo
  rw [List.getElem?_append_right (by simp; omega)]
  have e : ((l.take k).map f).length = k := by simp; omega
  rw [e, Nat.sub_self, List.getElem?_drop]
  simpa using h
theorem inS_not {K : List Bool} {v : Nat} (h : v < K.length) : inS (K.map (! ·)) (v : Int) = !inS K (v : Int) := by
  simp [inS, h]

set_option maxHeartbeats 4000000 in
theorem to_good (N : Nat) (S T : Int) (A : Option Addr) (n c : Nat) (l : List ArcN) (AF : Option Addr) (m cF : Nat) (F : List Int) (w : World) (hA : Arcs w w.heap.size A n l) (hck : checkF N S T l = 0)
    (hF : Ints w w.heap.size AF m F) (hfl : FlowIn l F) :
    Calls Try.prog 31 #[.agg #[.int .i64 N, .int .i64 S, .int .i64 T, .slice A n c], .slice AF m cF] w (RetSideE N (fun K => ∀ v : Nat, v < N → (inS K (v : Int) = true ↔ ¬ Star (Opn l F) (v : Int) T)) w) := by
  have hend := ends_in hck
  obtain ⟨hN2, hN3, hn3, hE, -, -, hT0, hT1, -, -, -⟩ := hend
  obtain ⟨s, rfl⟩ := Int.eq_ofNat_of_zero_le hT0
  have hcs := csr_size hN3 hn3
  go_enter Try.func31, Try.ntmps31
  go_wp2_with fail
  refine (residual_good N S s A n c l AF m cF F _ (hA.onAlloc _) hck (hF.onAlloc _) hfl).mono ?_
  rintro e w1 ⟨gF, gH, gR, gC, gA, gB, g, X, rfl, C1, X1, hX, B1⟩
  obtain ⟨M, hMe⟩ : ∃ M, firstOf l N = M := ⟨_, rfl⟩
  rw [hMe] at hcs hX ⊢
  have HM := Lib.hid hMe; clear hMe
  have Bw := below_step (below_alloc _) B1
  clear B1
  go_wp2_with fail
  have R2 : Blk ((w1.alloc (.cells #[.int .i64 N, .int .i64 S, .int .i64 s, .slice (some ⟨gF, 0, none⟩) (N + 1) (N + 1), .slice (some ⟨gH, 0, none⟩) M M, .slice (some ⟨gR, 0, none⟩) M M, .slice (some ⟨gC, 0, none⟩) M M, .slice (some ⟨gA, 0, none⟩) M M, .slice (some ⟨gB, 0, none⟩) M M] 45)).alloc (.cells #[.slice (some ⟨g, 0, none⟩) M M] 25)) (w1.heap.size + 1) 25 #[.slice (some ⟨g, 0, none⟩) M M] := Blk.new (by simp)
  have S2 : Blk ((w1.alloc (.cells #[.int .i64 N, .int .i64 S, .int .i64 s, .slice (some ⟨gF, 0, none⟩) (N + 1) (N + 1), .slice (some ⟨gH, 0, none⟩) M M, .slice (some ⟨gR, 0, none⟩) M M, .slice (some ⟨gC, 0, none⟩) M M, .slice (some ⟨gA, 0, none⟩) M M, .slice (some ⟨gB, 0, none⟩) M M] 45)).alloc (.cells #[.slice (some ⟨g, 0, none⟩) M M] 25)) w1.heap.size 45 #[.int .i64 N, .int .i64 S, .int .i64 s, .slice (some ⟨gF, 0, none⟩) (N + 1) (N + 1), .slice (some ⟨gH, 0, none⟩) M M, .slice (some ⟨gR, 0, none⟩) M M, .slice (some ⟨gC, 0, none⟩) M M, .slice (some ⟨gA, 0, none⟩) M M, .slice (some ⟨gB, 0, none⟩) M M] := (Blk.new rfl).alloc _
  have X2 : Blk ((w1.alloc (.cells #[.int .i64 N, .int .i64 S, .int .i64 s, .slice (some ⟨gF, 0, none⟩) (N + 1) (N + 1), .slice (some ⟨gH, 0, none⟩) M M, .slice (some ⟨gR, 0, none⟩) M M, .slice (some ⟨gC, 0, none⟩) M M, .slice (some ⟨gA, 0, none⟩) M M, .slice (some ⟨gB, 0, none⟩) M M] 45)).alloc (.cells #[.slice (some ⟨g, 0, none⟩) M M] 25)) g 2 (ivs X) := (X1.alloc _).alloc _
  have C2 := (C1.onAlloc (.cells #[.int .i64 N, .int .i64 S, .int .i64 s, .slice (some ⟨gF, 0, none⟩) (N + 1) (N + 1), .slice (some ⟨gH, 0, none⟩) M M, .slice (some ⟨gR, 0, none⟩) M M, .slice (some ⟨gC, 0, none⟩) M M, .slice (some ⟨gA, 0, none⟩) M M, .slice (some ⟨gB, 0, none⟩) M M] 45)).onAlloc (.cells #[.slice (some ⟨g, 0, none⟩) M M] 25)
  have Bw2 : Below w.heap.size w ((w1.alloc (.cells #[.int .i64 N, .int .i64 S, .int .i64 s, .slice (some ⟨gF, 0, none⟩) (N + 1) (N + 1), .slice (some ⟨gH, 0, none⟩) M M, .slice (some ⟨gR, 0, none⟩) M M, .slice (some ⟨gC, 0, none⟩) M M, .slice (some ⟨gA, 0, none⟩) M M, .slice (some ⟨gB, 0, none⟩) M M] 45)).alloc (.cells #[.slice (some ⟨g, 0, none⟩) M M] 25)) := (Bw.alloc Bw.size _).alloc (by have := Bw.size; simp; omega) _
  generalize ((w1.alloc (.cells #[.int .i64 N, .int .i64 S, .int .i64 s, .slice (some ⟨gF, 0, none⟩) (N + 1) (N + 1), .slice (some ⟨gH, 0, none⟩) M M, .slice (some ⟨gR, 0, none⟩) M M, .slice (some ⟨gC, 0, none⟩) M M, .slice (some ⟨gA, 0, none⟩) M M, .slice (some ⟨gB, 0, none⟩) M M] 45)).alloc (.cells #[.slice (some ⟨g, 0, none⟩) M M] 25)) = w2 at *
  clear C1 X1 Bw
  refine (reached_is N M S s gF gH gR gC gA gB l 72 #[.pointer (some ⟨w1.heap.size + 1, 0, none⟩), .pointer (some ⟨w1.heap.size, 0, none⟩)] (revB l X) s w2 C2 hE HM.out hcs hN3 (by omega) (fun k W hk hB => by
    obtain ⟨i, q, v, u, b, cc, hI, hp, hq, hqM, -, er, -, -, -⟩ := (C2.below hB).at hE (k := k) (by rw [HM.out]; exact hk)
    have := to1_any k q (w1.heap.size + 1) w1.heap.size g gR M X _ _ _ _ _ _ _ _ W hk (by rw [← HM.out]; exact hqM) hX.len (R2.below hB R2.lt) (X2.below hB X2.lt) (S2.below hB S2.lt) er
    have hrv := revB_at (X := X) hI (hI.ends hE).1
    rw [hp, hq] at hrv
    rw [hrv]
    simpa [leftB] using this) (fun _ _ => by kernel_rfl)).mono ?_
  rintro e w3 ⟨gk, K, rfl, hgk, K3, hKl, hK, B3⟩
  have Bw3 := below_step Bw2 B3
  have hgk' := Nat.le_trans Bw2.size hgk
  clear R2 S2 X2 C2 B3
  have HK := Lib.hid hK; clear hK
  go_wp2_with fail
  go_loopw [29] (fun i wr => ∃ k : Nat, k ≤ N ∧ i = .int .i64 k ∧ Blk wr gk 4 (bvs (mapTo (! ·) K k)) ∧ Below w.heap.size w wr) (fun i _ => N - (intOf i).toNat)
  case atStart => exact ⟨0, Nat.zero_le _, rfl, by rw [mapTo_zero]; exact K3, Bw3⟩
  case round =>
    clear K3 Bw3
    obtain ⟨k, hk, rfl, K3, Bw3⟩ := hrel
    by_cases hlt : k < N
    · have hat := at_inS (K := K) (v := k) (by omega)
      have b0 := K3.bat (mapTo_at (! ·) hat)
      have bf := K3.frozen k
      have bz := K3.lt
      have hset := mapTo_set (! ·) hat
      have K4 := K3.bset k (!inS K (k : Int))
      rw [hset] at K4
      have HK4 := Lib.hid K4
      clear hset K4 hat
      go_wp2_with fail
      go_roundw
      case rel => exact ⟨k + 1, by omega, by go_num, HK4.out, Bw3.setCell (by simp; omega) _⟩
      case measure => simp [intOf]; omega
    · go_wp2_with fail
      go_ret2
      rw [mapTo_end _ _ hKl hlt] at K3
      refine ⟨gk, _, rfl, hgk', K3, by simp [hKl], fun v hv => ?_, Bw3⟩
      rw [inS_not (by omega)]
      have := HK.out (v : Int) (by omega)
      have e : Star (Via l (revB l X)) (s : Int) (v : Int) ↔ Star (Opn l F) (v : Int) (s : Int) :=
        ⟨fun h => (Star.mono (fun a b h => (via_to hE hfl.len hX).1 h) h).flip, fun h => Star.mono (fun a b h => (via_to hE hfl.len hX).2 h) h.flip⟩
      rw [e] at this
      rw [← this]
      cases inS K (v : Int) <;> simp

end Go.Proofs.Ytfcjmhihheeifaa
