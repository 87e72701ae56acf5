/- Layer 3: Excess. -/
import Derived.Test.YtmmafibeciaghaaFlowa
namespace Go.Proofs.Ytmmafibeciaghaa
open Go.RowKit

theorem exList_zero (N : Nat) (l : List ArcN) (F : List Int) : exList N (l.take 0) (F.take 0) = List.replicate N 0 := by
  apply List.ext_getElem?
  intro i
  by_cases h : i < N
  · rw [exList_at _ _ h]; simp [exOf, h]
  · rw [List.getElem?_eq_none (by rw [exList_len]; omega), List.getElem?_eq_none (by simp; omega)]
theorem ex_set {N k f t : Nat} {l : List ArcN} {F : List Int} {c x : Int} (hl : F.length = l.length) (ha : l[k]? = some ⟨(f : Int), (t : Int), c⟩) (hx : F[k]? = some x) (hf : f < N) (ht : t < N) :
    ((exList N (l.take k) (F.take k)).set t (exOf (l.take k) (F.take k) t + x)).set f (exOf (l.take k) (F.take k) f + (if f = t then x else 0) - x) = exList N (l.take (k + 1)) (F.take (k + 1)) := by
  apply List.ext_getElem?
  intro i
  by_cases h : i < N
  · rw [exList_at _ _ h, exOf_take hl ha hx]
    have hlen := exList_len N (l.take k) (F.take k)
    have e0 := exList_at (l.take k) (F.take k) h
    by_cases ei : f = i
    · subst ei
      rw [List.getElem?_set_self (by simp; omega)]
      congr 1
      simp only [dlt]
      split
      · rename_i e; subst e; simp
      · rw [if_neg (by omega), if_pos trivial]; omega
    · rw [List.getElem?_set_ne ei]
      by_cases et : t = i
      · subst et
        rw [List.getElem?_set_self (by omega)]
        congr 1
        simp only [dlt]
        rw [if_pos trivial, if_neg (by omega)]; omega
      · rw [List.getElem?_set_ne et, e0]
        congr 1
        simp only [dlt]
        rw [if_neg (by omega), if_neg (by omega)]; omega
  · rw [List.getElem?_eq_none (by simp [exList_len]; omega), List.getElem?_eq_none (by rw [exList_len]; omega)]
theorem ex_set_at {N k f t : Nat} {l : List ArcN} {F : List Int} {x : Int} (hf : f < N) :
    ((exList N (l.take k) (F.take k)).set t (exOf (l.take k) (F.take k) t + x))[f]? = some (exOf (l.take k) (F.take k) f + (if f = t then x else 0)) := by
  by_cases e : t = f
  · subst e
    rw [List.getElem?_set_self (by rw [exList_len]; omega), if_pos rfl]
  · rw [List.getElem?_set_ne e, exList_at _ _ hf, if_neg (fun h => e h.symm), Int.add_zero]
theorem ex_end {N k n : Nat} {l : List ArcN} {F : List Int} (hl : l.length = n) (hF : F.length = l.length) (hk : ¬ k < n) : exList N (l.take k) (F.take k) = exList N l F := by
  rw [List.take_of_length_le (by omega), List.take_of_length_le (by omega)]
/-- No number on the way is too great. -/
theorem ex_small {l : List ArcN} {F : List Int} {k : Nat} {a : ArcN} {x : Int} (h : FlowIn l F) (ht : total l ≤ maxSum) (ha : l[k]? = some a) (hx : F[k]? = some x) (u : Int) :
    -4611686018427387904 ≤ exOf (l.take k) (F.take k) u ∧ exOf (l.take k) (F.take k) u ≤ 4611686018427387904 - x ∧ 0 ≤ x ∧ x ≤ 4611686018427387904 := by
  have h1 := exOf_bound (h.take k) u
  have h2 := h.ent k a x ha hx
  have h3 := total_take h.nonneg k
  have h4 := total_take h.nonneg (k + 1)
  rw [take_at ha, total_append] at h4
  simp only [total] at h4
  unfold maxSum at ht
  have h5 := total_nonneg (l := l.take k) fun a ha => h.nonneg a (List.mem_of_mem_take ha)
  omega

/-- Numbers in new memory are answered. -/
def RetLongs (n : Nat) (X : List Int) (w : World) (e : Ending) (w' : World) : Prop :=
  ∃ g, e = .returned (.tuple #[.slice (some ⟨g, 0, none⟩) n n, .int .i64 0]) ∧ w.heap.size ≤ g ∧ Blk w' g 2 (ivs X) ∧ X.length = n ∧ Below w.heap.size w w'

set_option maxHeartbeats 2000000 in
theorem excess_good (N : Nat) (S T : Int) (A : Option Addr) (n c : Nat) (l : List ArcN) (AF : Option Addr) (m cF : Nat) (F : List Int) (w : World) (hA : Arcs w w.heap.size A n l) (hck : checkF N S T l = 0)
    (hF : Ints w w.heap.size AF m F) (hr : FlowIn l F) :
    Calls Try.prog 10 #[.agg #[.int .i64 N, .int .i64 S, .int .i64 T, .slice A n c], .slice AF m cF] w (RetLongs N (exList N l F) w) := by
  have hend := ends_in hck
  have hla0 := hA.len
  have hlf0 := hF.len
  obtain ⟨hN2, hN3, hn3, hE, -, -, -, -, -, -, htot⟩ := hend
  have HE := Lib.hid hE; have HTOT := Lib.hid htot; clear hE htot
  have HC := Lib.hid hck; clear hck
  have HRL := Lib.hid hr.len
  obtain rfl : m = n := by have := hr.len; omega
  obtain ⟨i0, hi, hz0, hz1, hz2⟩ := info_parts long_info
  have hmk := fun W => run_make_lit (P := Try.prog) 25 2 i0 _ Try.underlying25 hi hz0 N (by rw [hz2]; omega) (by omega) W
  rw [hz1, ivs_made] at hmk
  clear hi hz0 hz1 hz2
  go_enter Try.func10, Try.ntmps10
  go_wp2_with fail
  refine (flowIn_any N S T A m c l AF m cF F true _ (hA.onAlloc _) (by omega) HC.out (hF.onAlloc _) (by omega) (by simp; exact hr)).mono ?_
  rintro e w1 ⟨rfl, B1⟩
  have K1 : Blk w1 w.heap.size 24 #[.int .i64 N, .int .i64 S, .int .i64 T, .slice A m c] := (Blk.new rfl).below B1 (by simp)
  have a1 := (hA.onAlloc (.cells #[.int .i64 N, .int .i64 S, .int .i64 T, .slice A m c] 24)).on B1
  have F1 := (hF.onAlloc (.cells #[.int .i64 N, .int .i64 S, .int .i64 T, .slice A m c] 24)).on B1
  have Bw := below_step (below_alloc _) B1
  have HR := Lib.hid hr; clear hr
  clear B1
  obtain ⟨x0, x1, x2, x3⟩ := K1.at4
  have hz1 := K1.lt
  go_wp2_with fail
  go_loopw [7, 8, 19] (fun _ _ i wr => ∃ k : Nat, k ≤ m ∧ i = .int .i64 k ∧ Blk wr w1.heap.size 2 (ivs (exList N (l.take k) (F.take k))) ∧ Below w1.heap.size w1 wr) (fun _ _ i _ => m - (intOf i).toNat)
  case atStart => exact ⟨0, Nat.zero_le _, rfl, by rw [exList_zero]; exact Blk.new rfl, below_alloc _⟩
  case round =>
    obtain ⟨k, hk, rfl, KX, hb⟩ := hrel
    clear hmk
    have hzX := KX.lt
    by_cases hlt : k < m
    · obtain ⟨b, off, ⟨x, y, z⟩, rfl, hbl, hla, c0, c1, c2⟩ := arcs_at (a1.below hb) hlt
      obtain ⟨bf, of, v, rfl, hbf, hx, cx⟩ := intl_at (F1.below hb) hlt
      have he := HE.out _ (mem_at hla)
      simp only at he c0 c1 c2
      obtain ⟨f, rfl⟩ := Int.eq_ofNat_of_zero_le he.1
      obtain ⟨t, rfl⟩ := Int.eq_ofNat_of_zero_le he.2.2.1
      have hfN : f < N := by omega
      have htN : t < N := by omega
      have hs1 := ex_small HR.out HTOT.out hla hx (t : Int)
      have hs2 := ex_small HR.out HTOT.out hla hx (f : Int)
      have st := ex_set HRL.out hla hx hfN htN
      have sa := ex_set_at (l := l) (F := F) (k := k) (t := t) (x := v) hfN
      have m0 := KX.iat (exList_at (l.take k) (F.take k) htN)
      have ST := Lib.hid st; have SA := Lib.hid sa; have HL := Lib.hid hla; have HX := Lib.hid hx; clear st sa hla hx he
      generalize exOf (l.take k) (F.take k) (t : Int) = et at *
      generalize exOf (l.take k) (F.take k) (f : Int) = ef at *
      have n0 := KX.frozen t
      have hz := hb.size
      have hbf2 : bf < wr.heap.size := by omega
      go_wp2_with fail
      go_region
      have KX1 := ((KX.iset t (et + v)).alloc (.cells #[.int .i64 (f : Int), .int .i64 (t : Int), .int .i64 z] 50)).drew
      have E1 : Blk (((wr.setCell ⟨w1.heap.size, t, none⟩ (.int .i64 (et + v))).alloc (.cells #[.int .i64 (f : Int), .int .i64 (t : Int), .int .i64 z] 50)).drew) wr.heap.size 50 #[.int .i64 (f : Int), .int .i64 (t : Int), .int .i64 z] := (Blk.new (by simp)).drew
      have B1 : Below w1.heap.size w1 (((wr.setCell ⟨w1.heap.size, t, none⟩ (.int .i64 (et + v))).alloc (.cells #[.int .i64 (f : Int), .int .i64 (t : Int), .int .i64 z] 50)).drew) := ((hb.setCell (by simp) _).alloc (by simp; exact hb.size) _).drew
      generalize ((wr.setCell ⟨w1.heap.size, t, none⟩ (.int .i64 (et + v))).alloc (.cells #[.int .i64 (f : Int), .int .i64 (t : Int), .int .i64 z] 50)).drew = w2 at *
      clear m0 n0 c0 c1 c2 cx
      obtain ⟨_, _, v', hA2, _, hx', cx⟩ := intl_at (F1.below B1) hlt
      injection hA2 with hA2
      injection hA2 with hA2 hA3 _
      subst hA2; subst hA3
      obtain rfl : v' = v := by have := hx'.symm.trans HX.out; injection this
      clear hx'
      have m0 := KX1.iat SA.out
      have n0 := KX1.frozen f
      have e0 := E1.cell 0; have e1 := E1.cell 1; have e2 := E1.cell 2
      simp only [List.getElem?_toArray, List.getElem?_cons_zero, List.getElem?_cons_succ] at e0 e1 e2
      have hbz := B1.size
      have hez := E1.lt
      have hxz := KX1.lt
      obtain ⟨ef', hef⟩ : ∃ y, ef + (if f = t then v' else 0) = y := ⟨_, rfl⟩
      have hef1 : -4611686018427387904 ≤ ef' ∧ ef' ≤ 4611686018427387904 := by rw [← hef]; split <;> omega
      rw [hef] at m0
      have HEF := Lib.hid hef; clear hef
      go_wp2_with fail
      go_region
      go_wp2_with fail
      go_roundw
      case rel =>
        refine ⟨k + 1, by omega, by go_num, ?_, (B1.setCell (by simp) _).drew⟩
        rw [← ST.out, HEF.out]
        exact (KX1.iset _ _).drew
      case measure => simp [intOf]; omega
    · go_wp2_with fail
      go_ret2
      rw [ex_end hla0 HRL.out hlt] at KX
      exact ⟨_, rfl, by omega, KX, exList_len _ _ _, Bw.trans (hb.mono Bw.size)⟩

set_option maxHeartbeats 1000000 in
theorem excess_bad (N : Nat) (S T : Int) (A : Option Addr) (n c : Nat) (l : List ArcN) (AF : Option Addr) (m cF : Nat) (F : List Int) (w : World) (hA : Arcs w w.heap.size A n l) (hck : checkF N S T l = 0)
    (hF : Ints w w.heap.size AF m F) (hm : m ≤ 1000000000000) (hr : ¬ FlowIn l F) :
    Calls Try.prog 10 #[.agg #[.int .i64 N, .int .i64 S, .int .i64 T, .slice A n c], .slice AF m cF] w fun e w' => e = .returned (.tuple #[.slice none 0 0, .int .i64 20]) ∧ Below w.heap.size w w' := by
  have hend := ends_in hck
  have hla0 := hA.len
  obtain ⟨-, -, hn3, -, -, -, -, -, -, -, -⟩ := hend
  go_enter Try.func10, Try.ntmps10
  go_wp2_with fail
  refine (flowIn_any N S T A n c l AF m cF F false _ (hA.onAlloc _) (by omega) hck (hF.onAlloc _) hm (by simp; exact hr)).mono ?_
  rintro e w1 ⟨rfl, B1⟩
  go_wp2_with fail
  go_ret2
  exact ⟨rfl, below_step (below_alloc _) B1⟩

end Go.Proofs.Ytmmafibeciaghaa
