/- Layer 3: Within, Excess, Right, Value. -/
import Derived.Test.YtfcjmhihheeifaaCells
import Derived.Test.YtfcjmhihheeifaaFacts
import Derived.RegionTactic
import Derived.BigQuiet
import Derived.Deep.RegionHeld3
/-! Layer 3: Within, Excess. -/
namespace Go.Proofs.Ytfcjmhihheeifaa
open Go.RowKit

theorem retb {b r : Bool} (h : b = r) : Ending.returned (.bool b) = .returned (.bool r) := by rw [h]

set_option maxHeartbeats 1000000 in
theorem flowIn_any (N : Nat) (S T : Int) (A : Option Addr) (n c : Nat) (l : List ArcN) (AF : Option Addr) (m cF : Nat) (F : List Int) (r : Bool) (w : World) (hA : Arcs w w.heap.size A n l) (hn : n ≤ 1000000) (hck : checkF N S T l = 0)
    (hF : Ints w w.heap.size AF m F) (hm : m ≤ 1000000000000) (hr : r = true ↔ FlowIn l F) :
    Calls Try.prog 36 #[.agg #[.int .i64 N, .int .i64 S, .int .i64 T, .slice A n c], .slice AF m cF] w fun e w' => e = .returned (.bool r) ∧ Below w.heap.size w w' := by
  have hfalse : ¬ FlowIn l F → false = r := fun h => by
    cases r with
    | false => rfl
    | true => exact absurd (hr.1 rfl) h
  have HF := Lib.hid hfalse; clear hfalse
  have HT := Lib.hid hr.2; clear hr
  go_enter Try.func36, Try.ntmps36
  go_wp2_with fail
  refine (check_is _ (hA.onAlloc _) (by omega) hck).mono ?_
  rintro e w1 ⟨rfl, B1⟩
  have K1 : Blk w1 w.heap.size 24 #[.int .i64 N, .int .i64 S, .int .i64 T, .slice A n c] := (Blk.new rfl).below B1 (by simp)
  have a1 := (hA.onAlloc (.cells #[.int .i64 N, .int .i64 S, .int .i64 T, .slice A n c] 24)).on B1
  have F1 := (hF.onAlloc (.cells #[.int .i64 N, .int .i64 S, .int .i64 T, .slice A n c] 24)).on B1
  have Bw := below_step (below_alloc _) B1
  clear B1
  obtain ⟨x0, x1, x2, x3⟩ := K1.at4
  by_cases hmn : m = n
  · subst hmn
    go_wp2_with fail
    go_loopw [5, 6, 21] (fun _ _ i wr => ∃ k : Nat, k ≤ m ∧ i = .int .i64 k ∧ (∀ (j : Nat) (a : ArcN) (x : Int), j < k → l[j]? = some a → F[j]? = some x → 0 ≤ x ∧ x ≤ a.cap) ∧ Below w1.heap.size w1 wr) (fun _ _ i _ => m - (intOf i).toNat)
    case atStart => exact ⟨0, Nat.zero_le _, rfl, fun j a x h => absurd h (by omega), Below.refl _ _⟩
    case round =>
      obtain ⟨k, hk, rfl, hp, hb⟩ := hrel
      have HP := Lib.hid hp; clear hp
      by_cases hlt : k < m
      · obtain ⟨b, off, a, rfl, hbl, hla, c0, c1, c2⟩ := arcs_at (a1.below hb) hlt
        obtain ⟨bf, of, x, rfl, hbf, hx, cx⟩ := intl_at (F1.below hb) hlt
        have HL := Lib.hid hla; have HX := Lib.hid hx; clear hla hx
        have hz := hb.size
        have hbf2 : bf < wr.heap.size := by omega
        by_cases h0 : x < 0
        · go_wp2_with fail
          go_quiet (fail)
          go_wp2_with fail
          go_ret
          exact ⟨retb (HF.out fun h => by have := h.ent k a x HL.out HX.out; omega), below_drewN' ((Bw.trans (hb.mono Bw.size)).alloc (by have := Bw.size; omega) _) _⟩
        · by_cases h1 : a.cap < x
          · go_wp2_with fail
            go_quiet (fail)
            go_wp2_with fail
            go_ret
            exact ⟨retb (HF.out fun h => by have := h.ent k a x HL.out HX.out; omega), below_drewN' ((Bw.trans (hb.mono Bw.size)).alloc (by have := Bw.size; omega) _) _⟩
          · go_wp2_with fail
            go_quiet (fail)
            go_wp2_with fail
            go_roundw
            case rel =>
              refine ⟨k + 1, by omega, by go_num, fun j a' x' hj ha' hx' => ?_, below_drewN' (hb.alloc hb.size _) _⟩
              by_cases e : j = k
              · subst e
                rw [HL.out] at ha'; rw [HX.out] at hx'
                injection ha' with ha'; injection hx' with hx'
                subst ha'; subst hx'
                omega
              · exact HP.out j a' x' (by omega) ha' hx'
            case measure => simp [intOf]; omega
      · go_wp2_with fail
        go_ret
        refine ⟨retb (HT.out ⟨by rw [hF.len, hA.len], fun i a x ha hx => HP.out i a x ?_ ha hx⟩).symm, Bw.trans (hb.mono Bw.size)⟩
        have := (List.getElem?_eq_some_iff.1 ha).1
        have := hA.len
        omega
  · have hne : ((m : Int) != (n : Int)) = true := by simp; omega
    go_wp2_with fail
    go_ret
    exact ⟨retb (HF.out fun h => hmn (by rw [← hF.len, ← hA.len]; exact h.len)), Bw⟩

end Go.Proofs.Ytfcjmhihheeifaa

/-! Layer 3: Excess. -/
namespace Go.Proofs.Ytfcjmhihheeifaa
open Go.RowKit

theorem exList_zero (N : Nat) (l : List ArcN) (F : List Int) : exList N (l.take 0) (F.take 0) = List.replicate N 0 := by
  apply List.ext_getElem?
  intro i
  by_cases h : i < N
  · rw [exList_at _ _ h]; simp [exOf, h]
  · rw [List.getElem?_eq_none (by rw [exList_len]; omega), List.getElem?_eq_none (by simp; omega)]
theorem ex_set {N k f t : Nat} {l : List ArcN} {F : List Int} {c x : Int} (hl : F.length = l.length) (ha : l[k]? = some ⟨(f : Int), (t : Int), c⟩) (hx : F[k]? = some x) (hf : f < N) (ht : t < N) :
    ((exList N (l.take k) (F.take k)).set t (exOf (l.take k) (F.take k) t + x)).set f (exOf (l.take k) (F.take k) f + (if f = t then x else 0) - x) = exList N (l.take (k + 1)) (F.take (k + 1)) := by
  apply List.ext_getElem?
  intro i
  by_cases h : i < N
  · rw [exList_at _ _ h, exOf_take hl ha hx]
    have hlen := exList_len N (l.take k) (F.take k)
    have e0 := exList_at (l.take k) (F.take k) h
    by_cases ei : f = i
    · subst ei
      rw [List.getElem?_set_self (by simp; omega)]
      congr 1
      simp only [dlt]
      split
      · rename_i e; subst e; simp
      · rw [if_neg (by omega), if_pos trivial]; omega
    · rw [List.getElem?_set_ne ei]
      by_cases et : t = i
      · subst et
        rw [List.getElem?_set_self (by omega)]
        congr 1
        simp only [dlt]
        rw [if_pos trivial, if_neg (by omega)]; omega
      · rw [List.getElem?_set_ne et, e0]
        congr 1
        simp only [dlt]
        rw [if_neg (by omega), if_neg (by omega)]; omega
  · rw [List.getElem?_eq_none (by simp [exList_len]; omega), List.getElem?_eq_none (by rw [exList_len]; omega)]
theorem ex_set_at {N k f t : Nat} {l : List ArcN} {F : List Int} {x : Int} (hf : f < N) :
    ((exList N (l.take k) (F.take k)).set t (exOf (l.take k) (F.take k) t + x))[f]? = some (exOf (l.take k) (F.take k) f + (if f = t then x else 0)) := by
  by_cases e : t = f
  · subst e
    rw [List.getElem?_set_self (by rw [exList_len]; omega), if_pos rfl]
  · rw [List.getElem?_set_ne e, exList_at _ _ hf, if_neg (fun h => e h.symm), Int.add_zero]
theorem ex_end {N k n : Nat} {l : List ArcN} {F : List Int} (hl : l.length = n) (hF : F.length = l.length) (hk : ¬ k < n) : exList N (l.take k) (F.take k) = exList N l F := by
  rw [List.take_of_length_le (by omega), List.take_of_length_le (by omega)]
/-- No number on the way is too great. -/
theorem ex_small {l : List ArcN} {F : List Int} {k : Nat} {a : ArcN} {x : Int} (h : FlowIn l F) (ht : total l ≤ maxSum) (ha : l[k]? = some a) (hx : F[k]? = some x) (u : Int) :
    -4611686018427387904 ≤ exOf (l.take k) (F.take k) u ∧ exOf (l.take k) (F.take k) u ≤ 4611686018427387904 - x ∧ 0 ≤ x ∧ x ≤ 4611686018427387904 := by
  have h1 := exOf_bound (h.take k) u
  have h2 := h.ent k a x ha hx
  have h3 := total_take h.nonneg k
  have h4 := total_take h.nonneg (k + 1)
  rw [take_at ha, total_append] at h4
  simp only [total] at h4
  unfold maxSum at ht
  have h5 := total_nonneg (l := l.take k) fun a ha => h.nonneg a (List.mem_of_mem_take ha)
  omega

/-- Numbers in new memory are answered. -/
def RetLongs (n : Nat) (X : List Int) (w : World) (e : Ending) (w' : World) : Prop :=
  ∃ g, e = .returned (.tuple #[.slice (some ⟨g, 0, none⟩) n n, .int .i64 0]) ∧ w.heap.size ≤ g ∧ Blk w' g 2 (ivs X) ∧ X.length = n ∧ Below w.heap.size w w'

set_option maxHeartbeats 2000000 in
theorem excess_good (N : Nat) (S T : Int) (A : Option Addr) (n c : Nat) (l : List ArcN) (AF : Option Addr) (m cF : Nat) (F : List Int) (w : World) (hA : Arcs w w.heap.size A n l) (hck : checkF N S T l = 0)
    (hF : Ints w w.heap.size AF m F) (hr : FlowIn l F) :
    Calls Try.prog 33 #[.agg #[.int .i64 N, .int .i64 S, .int .i64 T, .slice A n c], .slice AF m cF] w (RetLongs N (exList N l F) w) := by
  have hend := ends_in hck
  have hla0 := hA.len
  have hlf0 := hF.len
  obtain ⟨hN2, hN3, hn3, hE, -, -, -, -, -, -, htot⟩ := hend
  have HE := Lib.hid hE; have HTOT := Lib.hid htot; clear hE htot
  have HC := Lib.hid hck; clear hck
  have HRL := Lib.hid hr.len
  obtain rfl : m = n := by have := hr.len; omega
  obtain ⟨i0, hi, hz0, hz1, hz2⟩ := info_parts long_info
  have hmk := fun W => run_make_lit (P := Try.prog) 25 2 i0 _ Try.underlying25 hi hz0 N (by rw [hz2]; omega) (by omega) W
  rw [hz1, ivs_made] at hmk
  clear hi hz0 hz1 hz2
  go_enter Try.func33, Try.ntmps33
  go_wp2_with fail
  refine (flowIn_any N S T A m c l AF m cF F true _ (hA.onAlloc _) (by omega) HC.out (hF.onAlloc _) (by omega) (by simp; exact hr)).mono ?_
  rintro e w1 ⟨rfl, B1⟩
  have K1 : Blk w1 w.heap.size 24 #[.int .i64 N, .int .i64 S, .int .i64 T, .slice A m c] := (Blk.new rfl).below B1 (by simp)
  have a1 := (hA.onAlloc (.cells #[.int .i64 N, .int .i64 S, .int .i64 T, .slice A m c] 24)).on B1
  have F1 := (hF.onAlloc (.cells #[.int .i64 N, .int .i64 S, .int .i64 T, .slice A m c] 24)).on B1
  have Bw := below_step (below_alloc _) B1
  have HR := Lib.hid hr; clear hr
  clear B1
  obtain ⟨x0, x1, x2, x3⟩ := K1.at4
  have hz1 := K1.lt
  go_wp2_with fail
  go_loopw [7, 8, 19] (fun _ _ i wr => ∃ k : Nat, k ≤ m ∧ i = .int .i64 k ∧ Blk wr w1.heap.size 2 (ivs (exList N (l.take k) (F.take k))) ∧ Below w1.heap.size w1 wr) (fun _ _ i _ => m - (intOf i).toNat)
  case atStart => exact ⟨0, Nat.zero_le _, rfl, by rw [exList_zero]; exact Blk.new rfl, below_alloc _⟩
  case round =>
    obtain ⟨k, hk, rfl, KX, hb⟩ := hrel
    clear hmk
    have hzX := KX.lt
    by_cases hlt : k < m
    · obtain ⟨b, off, ⟨x, y, z⟩, rfl, hbl, hla, c0, c1, c2⟩ := arcs_at (a1.below hb) hlt
      obtain ⟨bf, of, v, rfl, hbf, hx, cx⟩ := intl_at (F1.below hb) hlt
      have he := HE.out _ (mem_at hla)
      simp only at he c0 c1 c2
      obtain ⟨f, rfl⟩ := Int.eq_ofNat_of_zero_le he.1
      obtain ⟨t, rfl⟩ := Int.eq_ofNat_of_zero_le he.2.2.1
      have hfN : f < N := by omega
      have htN : t < N := by omega
      have hs1 := ex_small HR.out HTOT.out hla hx (t : Int)
      have hs2 := ex_small HR.out HTOT.out hla hx (f : Int)
      have st := ex_set HRL.out hla hx hfN htN
      have sa := ex_set_at (l := l) (F := F) (k := k) (t := t) (x := v) hfN
      have m0 := KX.iat (exList_at (l.take k) (F.take k) htN)
      have ST := Lib.hid st; have SA := Lib.hid sa; have HL := Lib.hid hla; have HX := Lib.hid hx; clear st sa hla hx he
      generalize exOf (l.take k) (F.take k) (t : Int) = et at *
      generalize exOf (l.take k) (F.take k) (f : Int) = ef at *
      have n0 := KX.frozen t
      have hz := hb.size
      have hbf2 : bf < wr.heap.size := by omega
      go_wp2_with fail
      go_region
      have KX1 := ((KX.iset t (et + v)).alloc (.cells #[.int .i64 (f : Int), .int .i64 (t : Int), .int .i64 z] 64)).drew
      have E1 : Blk (((wr.setCell ⟨w1.heap.size, t, none⟩ (.int .i64 (et + v))).alloc (.cells #[.int .i64 (f : Int), .int .i64 (t : Int), .int .i64 z] 64)).drew) wr.heap.size 64 #[.int .i64 (f : Int), .int .i64 (t : Int), .int .i64 z] := (Blk.new (by simp)).drew
      have B1 : Below w1.heap.size w1 (((wr.setCell ⟨w1.heap.size, t, none⟩ (.int .i64 (et + v))).alloc (.cells #[.int .i64 (f : Int), .int .i64 (t : Int), .int .i64 z] 64)).drew) := ((hb.setCell (by simp) _).alloc (by simp; exact hb.size) _).drew
      generalize ((wr.setCell ⟨w1.heap.size, t, none⟩ (.int .i64 (et + v))).alloc (.cells #[.int .i64 (f : Int), .int .i64 (t : Int), .int .i64 z] 64)).drew = w2 at *
      clear m0 n0 c0 c1 c2 cx
      obtain ⟨_, _, v', hA2, _, hx', cx⟩ := intl_at (F1.below B1) hlt
      injection hA2 with hA2
      injection hA2 with hA2 hA3 _
      subst hA2; subst hA3
      obtain rfl : v' = v := by have := hx'.symm.trans HX.out; injection this
      clear hx'
      have m0 := KX1.iat SA.out
      have n0 := KX1.frozen f
      have e0 := E1.cell 0; have e1 := E1.cell 1; have e2 := E1.cell 2
      simp only [List.getElem?_toArray, List.getElem?_cons_zero, List.getElem?_cons_succ] at e0 e1 e2
      have hbz := B1.size
      have hez := E1.lt
      have hxz := KX1.lt
      obtain ⟨ef', hef⟩ : ∃ y, ef + (if f = t then v' else 0) = y := ⟨_, rfl⟩
      have hef1 : -4611686018427387904 ≤ ef' ∧ ef' ≤ 4611686018427387904 := by rw [← hef]; split <;> omega
      rw [hef] at m0
      have HEF := Lib.hid hef; clear hef
      go_wp2_with fail
      go_region
      go_wp2_with fail
      go_roundw
      case rel =>
        refine ⟨k + 1, by omega, by go_num, ?_, (B1.setCell (by simp) _).drew⟩
        rw [← ST.out, HEF.out]
        exact (KX1.iset _ _).drew
      case measure => simp [intOf]; omega
    · go_wp2_with fail
      go_ret2
      rw [ex_end hla0 HRL.out hlt] at KX
      exact ⟨_, rfl, by omega, KX, exList_len _ _ _, Bw.trans (hb.mono Bw.size)⟩

set_option maxHeartbeats 1000000 in
theorem excess_bad (N : Nat) (S T : Int) (A : Option Addr) (n c : Nat) (l : List ArcN) (AF : Option Addr) (m cF : Nat) (F : List Int) (w : World) (hA : Arcs w w.heap.size A n l) (hck : checkF N S T l = 0)
    (hF : Ints w w.heap.size AF m F) (hm : m ≤ 1000000000000) (hr : ¬ FlowIn l F) :
    Calls Try.prog 33 #[.agg #[.int .i64 N, .int .i64 S, .int .i64 T, .slice A n c], .slice AF m cF] w fun e w' => e = .returned (.tuple #[.slice none 0 0, .int .i64 20]) ∧ Below w.heap.size w w' := by
  have hend := ends_in hck
  have hla0 := hA.len
  obtain ⟨-, -, hn3, -, -, -, -, -, -, -, -⟩ := hend
  go_enter Try.func33, Try.ntmps33
  go_wp2_with fail
  refine (flowIn_any N S T A n c l AF m cF F false _ (hA.onAlloc _) (by omega) hck (hF.onAlloc _) hm (by simp; exact hr)).mono ?_
  rintro e w1 ⟨rfl, B1⟩
  go_wp2_with fail
  go_ret2
  exact ⟨rfl, below_step (below_alloc _) B1⟩

end Go.Proofs.Ytfcjmhihheeifaa

/-! Layer 3: everyExcess, Right, Value. -/
namespace Go.Proofs.Ytfcjmhihheeifaa
open Go.RowKit

def rightB (S T : Int) (v : Nat) (x : Int) : Bool := decide ((v : Int) = S ∨ (v : Int) = T ∨ x = 0)

set_option maxHeartbeats 1000000 in
theorem right1_any (N S T : Int) (A : Option Addr) (n c g v : Nat) (x : Int) (w : World) (hK : Blk w g 24 #[.int .i64 N, .int .i64 S, .int .i64 T, .slice A n c]) :
    Calls Try.prog 74 #[.int .i64 v, .int .i64 x, .pointer (some ⟨g, 0, none⟩)] w fun e w' => e = .returned (.bool (rightB S T v x)) ∧ Below w.heap.size w w' := by
  obtain ⟨x0, x1, x2, x3⟩ := hK.at4
  by_cases h : (v : Int) = S
  · go_enter Try.func74, Try.ntmps74
    go_wp2
    all_goals go_ret
    all_goals refine ⟨retb ?_, Below.refl _ _⟩
    all_goals simp [rightB, h]
  · by_cases h2 : (v : Int) = T
    all_goals
      go_enter Try.func74, Try.ntmps74
      go_wp2
      all_goals go_ret
      all_goals refine ⟨retb ?_, Below.refl _ _⟩
      all_goals (try simp [rightB, h, h2]; done)
      all_goals (rw [Bool.eq_iff_iff]; simp [rightB, h, h2])

set_option maxHeartbeats 2000000 in
theorem every_good (fn : Nat) (p : Nat → Int → Bool) (N : Nat) (S T : Int) (A : Option Addr) (n c : Nat) (l : List ArcN) (AF : Option Addr) (m cF : Nat) (F : List Int) (g : Nat) (r : Bool) (w : World) (hA : Arcs w w.heap.size A n l) (hck : checkF N S T l = 0)
    (hF : Ints w w.heap.size AF m F) (hfl : FlowIn l F) (hK : Blk w g 24 #[.int .i64 N, .int .i64 S, .int .i64 T, .slice A n c])
    (hcl : ∀ (v : Nat) (x : Int) (W : World), Blk W g 24 #[.int .i64 N, .int .i64 S, .int .i64 T, .slice A n c] → Calls Try.prog fn #[.int .i64 v, .int .i64 x, .pointer (some ⟨g, 0, none⟩)] W fun e w' => e = .returned (.bool (p v x)) ∧ Below W.heap.size W w')
    (hcf : ∀ (xs : Array Value) (W : World), (callFunc fn xs).run Try.prog W = .ok (.enter fn xs) W) (hr : r = true ↔ ∀ u, u < N → p u (exOf l F u) = true) :
    Calls Try.prog 73 #[.agg #[.int .i64 N, .int .i64 S, .int .i64 T, .slice A n c], .slice AF m cF, .func (.func fn) #[] #[.pointer (some ⟨g, 0, none⟩)]] w fun e w' => e = .returned (.bool r) ∧ Below w.heap.size w w' := by
  have hfalse : (¬ ∀ u, u < N → p u (exOf l F u) = true) → false = r := fun h => by
    cases r with
    | false => rfl
    | true => exact absurd (hr.1 rfl) h
  have HF := Lib.hid hfalse; clear hfalse
  have HT := Lib.hid hr.2; clear hr
  have HCL := Lib.hid hcl; clear hcl
  have hN := (ends_in hck).2.1
  go_enter Try.func73, Try.ntmps73
  go_wp2_with fail
  refine (excess_good N S T A n c l AF m cF F _ (hA.onAlloc _) hck (hF.onAlloc _) hfl).mono ?_
  rintro e w1 ⟨gx, rfl, hgx, KX, hXl, B1⟩
  have K1 := (hK.alloc (.cells #[.int .i64 (N : Int), .int .i64 S, .int .i64 T, .slice A n c] 24)).below B1 (hK.alloc _).lt
  have Bw := below_step (below_alloc _) B1
  have HC := Lib.hid hck; clear hck
  clear B1
  go_wp2_with fail
  go_loopw [9, 10, 21] (fun _ _ i wr => ∃ k : Nat, k ≤ N ∧ i = .int .i64 k ∧ (∀ u : Nat, u < k → p u (exOf l F u) = true) ∧ Below w1.heap.size w1 wr) (fun _ _ i _ => N - (intOf i).toNat)
  case atStart => exact ⟨0, Nat.zero_le _, rfl, fun u h => absurd h (by omega), Below.refl _ _⟩
  case round =>
    obtain ⟨k, hk, rfl, hp, hb⟩ := hrel
    have HP := Lib.hid hp; clear hp
    by_cases hlt : k < N
    · have KXr := KX.below hb KX.lt
      have Kr := K1.below hb K1.lt
      have m0 := KXr.iat (exList_at l F hlt)
      cases hpk : p k (exOf l F k)
      · have HK := Lib.hid hpk
        go_wp2_with fail
        refine (HCL.out _ _ _ Kr).mono ?_
        rintro e w2 ⟨rfl, B2⟩
        rw [hpk]
        clear hpk
        go_wp2_with fail
        go_ret
        exact ⟨retb (HF.out fun h => by have := h k hlt; rw [HK.out] at this; cases this), Bw.trans ((hb.trans (B2.mono hb.size)).mono Bw.size)⟩
      · have HK := Lib.hid hpk
        go_wp2_with fail
        refine (HCL.out _ _ _ Kr).mono ?_
        rintro e w2 ⟨rfl, B2⟩
        rw [hpk]
        clear hpk
        go_wp2_with fail
        go_roundw
        case rel =>
          refine ⟨k + 1, by omega, by go_num, fun u hu => ?_, hb.trans (B2.mono hb.size)⟩
          by_cases e : u = k
          · subst e; exact HK.out
          · exact HP.out u (by omega)
        case measure => simp [intOf]; omega
    · go_wp2_with fail
      go_ret
      exact ⟨retb (HT.out fun u hu => HP.out u (by omega)).symm, Bw.trans (hb.mono Bw.size)⟩

set_option maxHeartbeats 1000000 in
theorem every_bad (cl : Value) (N : Nat) (S T : Int) (A : Option Addr) (n c : Nat) (l : List ArcN) (AF : Option Addr) (m cF : Nat) (F : List Int) (w : World) (hA : Arcs w w.heap.size A n l) (hck : checkF N S T l = 0)
    (hF : Ints w w.heap.size AF m F) (hm : m ≤ 1000000000000) (hfl : ¬ FlowIn l F) :
    Calls Try.prog 73 #[.agg #[.int .i64 N, .int .i64 S, .int .i64 T, .slice A n c], .slice AF m cF, cl] w fun e w' => e = .returned (.bool false) ∧ Below w.heap.size w w' := by
  go_enter Try.func73, Try.ntmps73
  go_wp2_with fail
  refine (excess_bad N S T A n c l AF m cF F _ (hA.onAlloc _) hck (hF.onAlloc _) hm hfl).mono ?_
  rintro e w1 ⟨rfl, B1⟩
  go_wp2_with fail
  go_ret
  exact ⟨rfl, below_step (below_alloc _) B1⟩

set_option maxHeartbeats 1000000 in
theorem right_any (N : Nat) (S T : Int) (A : Option Addr) (n c : Nat) (l : List ArcN) (AF : Option Addr) (m cF : Nat) (F : List Int) (r : Bool) (w : World) (hA : Arcs w w.heap.size A n l) (hck : checkF N S T l = 0)
    (hF : Ints w w.heap.size AF m F) (hm : m ≤ 1000000000000) (hr : r = true ↔ FlowIn l F ∧ RightIn N S T l F) :
    Calls Try.prog 32 #[.agg #[.int .i64 N, .int .i64 S, .int .i64 T, .slice A n c], .slice AF m cF] w fun e w' => e = .returned (.bool r) ∧ Below w.heap.size w w' := by
  by_cases hfl : FlowIn l F
  · have hr' : r = true ↔ ∀ u, u < N → rightB S T u (exOf l F u) = true := by
      rw [hr]
      simp only [hfl, true_and, RightIn, rightB, decide_eq_true_eq]
    go_enter Try.func32, Try.ntmps32
    go_wp2_with fail
    refine (every_good 74 (rightB S T) N S T A n c l AF m cF F w.heap.size r _ (hA.onAlloc _) hck (hF.onAlloc _) hfl (Blk.new rfl) (fun v x W hW => right1_any _ _ _ _ _ _ _ _ _ _ hW) (fun _ _ => by kernel_rfl) hr').mono ?_
    rintro e w1 ⟨rfl, B1⟩
    go_wp2_with fail
    go_ret
    exact ⟨rfl, below_step (below_alloc _) B1⟩
  · obtain rfl : r = false := by
      cases r with
      | false => rfl
      | true => exact absurd (hr.1 rfl).1 hfl
    go_enter Try.func32, Try.ntmps32
    go_wp2_with fail
    refine (every_bad _ N S T A n c l AF m cF F _ (hA.onAlloc _) hck (hF.onAlloc _) hm hfl).mono ?_
    rintro e w1 ⟨rfl, B1⟩
    go_wp2_with fail
    go_ret
    exact ⟨rfl, below_step (below_alloc _) B1⟩

set_option maxHeartbeats 1000000 in
theorem value_good (N : Nat) (S T : Int) (A : Option Addr) (n c : Nat) (l : List ArcN) (AF : Option Addr) (m cF : Nat) (F : List Int) (w : World) (hA : Arcs w w.heap.size A n l) (hck : checkF N S T l = 0)
    (hF : Ints w w.heap.size AF m F) (hm : m ≤ 1000000000000) (hfl : FlowIn l F) (hR : RightIn N S T l F) :
    Calls Try.prog 11 #[.agg #[.int .i64 N, .int .i64 S, .int .i64 T, .slice A n c], .slice AF m cF] w fun e w' => e = .returned (.tuple #[.int .i64 (exOf l F T), .int .i64 0]) ∧ Below w.heap.size w w' := by
  have hend := ends_in hck
  obtain ⟨-, -, -, -, -, -, hT0, hT1, -, -, -⟩ := hend
  obtain ⟨t, rfl⟩ := Int.eq_ofNat_of_zero_le hT0
  have htN : t < N := by omega
  go_enter Try.func11, Try.ntmps11
  go_wp2_with fail
  refine (right_any N S t A n c l AF m cF F true _ (hA.onAlloc _) hck (hF.onAlloc _) hm (by simp; exact ⟨hfl, hR⟩)).mono ?_
  rintro e w1 ⟨rfl, B1⟩
  have K1 : Blk w1 w.heap.size 24 #[.int .i64 N, .int .i64 S, .int .i64 t, .slice A n c] := (Blk.new rfl).below B1 (by simp)
  have a1 := (hA.onAlloc (.cells #[.int .i64 N, .int .i64 S, .int .i64 t, .slice A n c] 24)).on B1
  have F1 := (hF.onAlloc (.cells #[.int .i64 N, .int .i64 S, .int .i64 t, .slice A n c] 24)).on B1
  have Bw := below_step (below_alloc _) B1
  clear B1
  obtain ⟨x0, x1, x2, x3⟩ := K1.at4
  have hz1 := K1.lt
  go_wp2_with fail
  refine (excess_good N S t A n c l AF m cF F _ a1 hck F1 hfl).mono ?_
  rintro e w2 ⟨gx, rfl, hgx, KX, hXl, B2⟩
  have K2 := K1.below B2 K1.lt
  obtain ⟨y0, y1, y2, y3⟩ := K2.at4
  clear x0 x1 x2 x3 K1
  have m0 := KX.iat (exList_at l F htN)
  go_wp2_with fail
  first
    | go_ret2
    | (go_quiet (fail); go_wp2_with fail; go_ret2)
  exact ⟨rfl, below_step Bw B2⟩

set_option maxHeartbeats 1000000 in
theorem value_bad (N : Nat) (S T : Int) (A : Option Addr) (n c : Nat) (l : List ArcN) (AF : Option Addr) (m cF : Nat) (F : List Int) (w : World) (hA : Arcs w w.heap.size A n l) (hck : checkF N S T l = 0)
    (hF : Ints w w.heap.size AF m F) (hm : m ≤ 1000000000000) (hfl : ¬ (FlowIn l F ∧ RightIn N S T l F)) :
    Calls Try.prog 11 #[.agg #[.int .i64 N, .int .i64 S, .int .i64 T, .slice A n c], .slice AF m cF] w fun e w' => e = .returned (.tuple #[.int .i64 0, .int .i64 20]) ∧ Below w.heap.size w w' := by
  go_enter Try.func11, Try.ntmps11
  go_wp2_with fail
  refine (right_any N S T A n c l AF m cF F false _ (hA.onAlloc _) hck (hF.onAlloc _) hm (by simp only [Bool.false_eq_true, false_iff]; exact hfl)).mono ?_
  rintro e w1 ⟨rfl, B1⟩
  go_wp2_with fail
  go_ret2
  exact ⟨rfl, below_step (below_alloc _) B1⟩

end Go.Proofs.Ytfcjmhihheeifaa
