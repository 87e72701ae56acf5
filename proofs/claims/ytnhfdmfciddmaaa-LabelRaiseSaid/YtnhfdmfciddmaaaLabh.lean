/- Layer 6: the statements' heights. -/
import Derived.Test.YtnhfdmfciddmaaaLabc
import Derived.Test.YtnhfdmfciddmaaaSomes
namespace Go.Proofs.Ytnhfdmfciddmaaa
open Go.RowKit
set_option maxRecDepth 100000

/-! Plain facts. -/
def htTo (N : Nat) (L : List Int) (k : Nat) : List Int := tab N fun v => if v < k ∧ v < L.length then hOf L v % ((N : Int) + 1) else 0
def htAll (N s t : Nat) (L : List Int) : List Int := ((htTo N L N).set t 0).set s N
theorem ht_zero {N : Nat} {L : List Int} : htTo N L 0 = List.replicate N 0 := by
  unfold htTo
  refine (tab_ext (by simp) fun i hi => ?_).symm
  rw [List.getElem?_replicate, if_pos hi, if_neg (by omega)]
theorem ht_put {N k : Nat} {L : List Int} (hl : k < L.length) : (htTo N L k).set k (hOf L k % ((N : Int) + 1)) = htTo N L (k + 1) := by
  unfold htTo
  rw [tab_set]
  refine tab_congr fun i hi => ?_
  by_cases e : i = k
  · subst e
    rw [if_pos rfl, if_pos ⟨by omega, hl⟩]
  · rw [if_neg e]
    by_cases h : i < k ∧ i < L.length
    · rw [if_pos h, if_pos ⟨by omega, h.2⟩]
    · rw [if_neg h, if_neg (fun h' => h ⟨by omega, h'.2⟩)]
theorem ht_skip {N k : Nat} {L : List Int} (hl : ¬ k < L.length) : htTo N L k = htTo N L (k + 1) := by
  unfold htTo
  refine tab_congr fun i hi => ?_
  by_cases h : i < k ∧ i < L.length
  · rw [if_pos h, if_pos ⟨by omega, h.2⟩]
  · rw [if_neg h, if_neg (fun h' => by
      by_cases e : i = k
      · subst e; exact hl h'.2
      · exact h ⟨by omega, h'.2⟩)]
theorem hOf_set {H : List Int} {v u : Nat} {x : Int} (hv : v < H.length) : hOf (H.set v x) u = if u = v then x else hOf H u := by
  unfold hOf
  rw [List.getElem?_set]
  by_cases e : v = u
  · subst e; simp [hv]
  · rw [if_neg e, if_neg (fun h => e h.symm)]
theorem ht_len {N s t : Nat} {L : List Int} : (htAll N s t L).length = N := by simp [htAll, htTo, tab_len]
theorem ht_is {N s t : Nat} {L : List Int} (hs : s < N) (ht : t < N) (hst : s ≠ t) : HtIs N s t (htAll N s t L) := by
  have hl : (htTo N L N).length = N := tab_len _ _
  have hl2 : ((htTo N L N).set t 0).length = N := by simp [hl]
  have hb : ∀ v, v < N → 0 ≤ hOf (htTo N L N) v ∧ hOf (htTo N L N) v ≤ N := by
    intro v hv
    unfold htTo
    rw [hOf_at (tab_at hv)]
    split
    · have h1 := Int.emod_nonneg (hOf L v) (show ((N : Int) + 1) ≠ 0 by omega)
      have h2 := Int.emod_lt_of_pos (hOf L v) (show 0 < ((N : Int) + 1) by omega)
      omega
    · omega
  unfold htAll
  refine ⟨by simp [hl], ?_, ?_, fun v hv => ?_⟩
  · rw [hOf_set (by omega), if_pos rfl]
  · rw [hOf_set (by omega), if_neg (fun e => hst e.symm), hOf_set (by omega), if_pos rfl]
  · rw [hOf_set (by omega)]
    split
    · omega
    · rw [hOf_set (by omega)]
      split
      · omega
      · exact hb v hv

/-- Heights are answered, in a block of the call's own. -/
def RetHts (N s t : Nat) (L : List Int) (w : World) (e : Ending) (w' : World) : Prop :=
  ∃ g, e = .returned (.slice (some ⟨g, 0, none⟩) N N) ∧ w.heap.size ≤ g ∧ Blk w' g 3 (ivs (htAll N s t L)) ∧ Below w.heap.size w w'

set_option maxHeartbeats 4000000 in
theorem heights_is (N M s t : Nat) (K : CsrS) (A : Option Addr) (n c : Nat) (L : List Int) (w : World) (hA : Ints w w.heap.size A n L) (hs : s < N) (ht : t < N) (hst : s ≠ t) (hN : N ≤ 4096) :
    Calls Try.prog 10 #[csrW N M s t K, .slice A n c] w (RetHts N s t L w) := by
  have hl : L.length = n := hA.len
  obtain ⟨i1, hi, hz0, hz1, hz2⟩ := info_parts int_info
  have hml := fun W => run_make_lit (P := Try.prog) 26 3 i1 _ Try.underlying26 hi hz0 N (by rw [hz2]; omega) (by omega) W
  rw [hz1, ivs_made] at hml
  obtain ⟨AF, cF, AH, cH, AR, cR, AC, cC, AA, cA, AB, cB⟩ := K
  dsimp only [csrW]
  have K1 : Blk (w.alloc (.cells #[.int .i64 (N : Int), .int .i64 (s : Int), .int .i64 (t : Int), .slice AF (N + 1) cF, .slice AH M cH, .slice AR M cR, .slice AC M cC, .slice AA M cA, .slice AB M cB] 29)) w.heap.size 29 #[.int .i64 (N : Int), .int .i64 (s : Int), .int .i64 (t : Int), .slice AF (N + 1) cF, .slice AH M cH, .slice AR M cR, .slice AC M cC, .slice AA M cA, .slice AB M cB] := Blk.new rfl
  have A1 := (hA.onAlloc (.cells #[.int .i64 (N : Int), .int .i64 (s : Int), .int .i64 (t : Int), .slice AF (N + 1) cF, .slice AH M cH, .slice AR M cR, .slice AC M cC, .slice AA M cA, .slice AB M cB] 29)).onAlloc (.cells (ivs (List.replicate N 0)) 3)
  have K2 := K1.alloc (.cells (ivs (List.replicate N 0)) 3)
  have G2 : Blk ((w.alloc (.cells #[.int .i64 (N : Int), .int .i64 (s : Int), .int .i64 (t : Int), .slice AF (N + 1) cF, .slice AH M cH, .slice AR M cR, .slice AC M cC, .slice AA M cA, .slice AB M cB] 29)).alloc (.cells (ivs (List.replicate N 0)) 3)) (w.heap.size + 1) 3 (ivs (htTo N L 0)) := by
    rw [ht_zero]
    exact Blk.new (by simp)
  have B2 := (below_alloc (w := w) (.cells #[.int .i64 (N : Int), .int .i64 (s : Int), .int .i64 (t : Int), .slice AF (N + 1) cF, .slice AH M cH, .slice AR M cR, .slice AC M cC, .slice AA M cA, .slice AB M cB] 29)).alloc (by simp) (.cells (ivs (List.replicate N 0)) 3)
  obtain ⟨w2, hw2⟩ : ∃ w2, ((w.alloc (.cells #[.int .i64 (N : Int), .int .i64 (s : Int), .int .i64 (t : Int), .slice AF (N + 1) cF, .slice AH M cH, .slice AR M cR, .slice AC M cC, .slice AA M cA, .slice AB M cB] 29)).alloc (.cells (ivs (List.replicate N 0)) 3)) = w2 := ⟨_, rfl⟩
  have hz := B2.size
  have hz2' : w2.heap.size = w.heap.size + 1 + 1 := by rw [← hw2]; simp
  rw [hw2] at A1 K2 G2 B2
  have HA2 := Lib.hid A1; have HK2 := Lib.hid K2; have HG2 := Lib.hid G2; have HB2 := Lib.hid B2; have HW2 := Lib.hid hw2; have HL := Lib.hid hl; have HZ2 := Lib.hid hz2'
  have HST := Lib.hid hst; have HA0 := Lib.hid hA
  clear A1 K1 K2 G2 B2 hA hw2 hi hz0 hz1 hz2 hl hz2' hz hst
  go_enter Try.func10, Try.ntmps10
  go_wp2_with fail
  rw [HW2.out]
  clear hml
  go_loopw [6, 12] (fun _ i wr => ∃ k : Nat, k ≤ N ∧ i = .int .i64 k ∧ Blk wr (w.heap.size + 1) 3 (ivs (htTo N L k)) ∧ Below w.heap.size w wr ∧ Below (w.heap.size + 1) w2 wr) (fun _ i _ => N - (intOf i).toNat)
  case atStart => exact ⟨0, Nat.zero_le _, rfl, HG2.out, HB2.out, Below.refl _ _⟩
  case round =>
    obtain ⟨k, hk, rfl, G, Bw, Bx⟩ := hrel
    have HG := Lib.hid G; have HBW := Lib.hid Bw; have HBX := Lib.hid Bx
    have K := HK2.out.below Bx (by simp)
    obtain ⟨a0, a1, a2, a3, a4, a5, a6, a7, a8⟩ := K.at9
    have hzk := K.lt
    have hzg := G.lt
    by_cases hlt : k < N
    · by_cases hkn : k < n
      · have hA' : Ints wr w.heap.size A n L := HA0.out.below Bw
        obtain ⟨b, off, x, hAe, hb, hx, cx⟩ := intl_at hA' hkn
        subst hAe
        have hxk := hOf_at hx
        have HXK := Lib.hid hxk
        have hfz : wr.frozen? ⟨w.heap.size + 1, k, none⟩ = false := G.frozen k
        obtain ⟨y0, hy0⟩ : ∃ y, (htTo N L k)[k]? = some y := ⟨_, List.getElem?_eq_getElem (by unfold htTo; rw [tab_len]; exact hlt)⟩
        have c1 := G.iat hy0
        have n1 : w.heap.size + 1 ≠ w.heap.size := by omega
        have n2 : w.heap.size + 1 ≠ b := by omega
        have hwn : IntKind.i64.wrap ((N : Int) + 1) = (N : Int) + 1 := wrap_any (by omega) (by omega)
        clear hx hxk hA' G Bw Bx K hy0
        go_wp2_with fail
        go_region_held3 (fun W => W.cell? ⟨w.heap.size, 0, none⟩ = some (.int .i64 (N : Int)) ∧ W.cell? ⟨b, off + k, none⟩ = some (.int .i64 x)) (go_keep) (first | (go_at_call 30; refine (among_any _ _ _ (by omega) (by omega)).mono ?_; rintro e W ⟨rfl, rfl⟩))
        go_wp2_with fail
        go_roundw
        case rel =>
          have hg2 : (htTo N L k).set k (x % ((N : Int) + 1)) = htTo N L (k + 1) := by
            rw [← HXK.out]
            exact ht_put (by rw [HL.out]; exact hkn)
          refine ⟨k + 1, by omega, by go_num, ?_, (HBW.out.setCell (by simp) _).drew, (HBX.out.setCell (by simp) _).drew⟩
          rw [← hg2]
          exact (HG.out.iset k _).drew
        case measure => simp [intOf]; omega
      · clear G Bw Bx K
        go_wp2_with fail
        go_roundw
        case rel => exact ⟨k + 1, by omega, by go_num, by rw [← ht_skip (by rw [HL.out]; exact hkn)]; exact HG.out, HBW.out, HBX.out⟩
        case measure => simp [intOf]; omega
    · obtain rfl : k = N := by omega
      have hf1 : wr.frozen? ⟨w.heap.size + 1, t, none⟩ = false := G.frozen t
      have hf2 : wr.frozen? ⟨w.heap.size + 1, s, none⟩ = false := G.frozen s
      have hlk : (htTo k L k).length = k := tab_len _ _
      have c1 := G.iat (List.getElem?_eq_getElem (show t < (htTo k L k).length by omega))
      have c2 := G.iat (List.getElem?_eq_getElem (show s < (htTo k L k).length by omega))
      have n1 : w.heap.size + 1 ≠ w.heap.size := by omega
      have n2 : s ≠ t := HST.out
      have n3 : t ≠ s := fun e => HST.out e.symm
      generalize (htTo k L k)[t] = y1 at *
      generalize (htTo k L k)[s] = y2 at *
      clear G Bw Bx K hlk
      go_wp2_with fail
      go_region_held3 (fun W => W.cell? ⟨w.heap.size, 0, none⟩ = some (.int .i64 (k : Int)) ∧ W.cell? ⟨w.heap.size, 1, none⟩ = some (.int .i64 (s : Int)) ∧ W.cell? ⟨w.heap.size, 2, none⟩ = some (.int .i64 (t : Int))) (go_keep) (first | fail)
      go_wp2_with fail
      go_ret
      refine ⟨w.heap.size + 1, rfl, by omega, ?_, ((HBW.out.setCell (by simp) _).setCell (by simp) _).drew⟩
      exact ((HG.out.iset t 0).iset s k).drew

end Go.Proofs.Ytnhfdmfciddmaaa
