/- Layer 4: And, Or; the statements' own helpers: side, awake. -/
import Derived.Test.YthpmappcfgiggaaReaches
import Derived.Test.YthpmappcfgiggaaCuts
import Derived.Test.YthpmappcfgiggaaFour
import Derived.Laws.IdiomCopy
import Derived.Laws.CopyRow
/-! Layer 4: And, Or. -/
namespace Go.Proofs.Ythpmappcfgiggaa
open Go.RowKit
set_option maxRecDepth 100000

set_option maxHeartbeats 1000000 in
theorem has_is (A : Option Addr) (n c v : Nat) (K : List Bool) (w : World) (hK : Bools w w.heap.size A n K) :
    Calls Try.prog 50 #[.slice A n c, .int .i64 (v : Int)] w fun e w' => e = .returned (.bool (inS K (v : Int))) ∧ w' = w := by
  have hl := hK.len
  by_cases h : v < n
  · obtain ⟨b, off, rfl, hb, cx⟩ := side_at hK h
    generalize inS K (v : Int) = x at *
    cases x
    all_goals
      go_enter Try.func50, Try.ntmps50
      go_wp2_with fail
      go_ret
      exact ⟨rfl, rfl⟩
  · have e : inS K (v : Int) = false := by
      unfold inS
      rw [Int.toNat_natCast, List.getElem?_eq_none (by omega)]
      rfl
    rw [e]
    clear e
    go_enter Try.func50, Try.ntmps50
    go_wp2_with fail
    go_ret
    exact ⟨rfl, rfl⟩

set_option maxHeartbeats 1000000 in
theorem and1_any (x y : Bool) (w : World) : Calls Try.prog 38 #[.bool x, .bool y] w fun e w' => e = .returned (.bool (x && y)) ∧ w' = w := by
  cases x <;> cases y
  all_goals
    go_enter Try.func38, Try.ntmps38
    go_wp2_with fail
    go_ret
    exact ⟨rfl, rfl⟩
set_option maxHeartbeats 1000000 in
theorem or1_any (x y : Bool) (w : World) : Calls Try.prog 39 #[.bool x, .bool y] w fun e w' => e = .returned (.bool (x || y)) ∧ w' = w := by
  cases x <;> cases y
  all_goals
    go_enter Try.func39, Try.ntmps39
    go_wp2_with fail
    go_ret
    exact ⟨rfl, rfl⟩

/-- Two sides, as far as the first k vertices. -/
def partOf (f : Bool → Bool → Bool) (K L : List Bool) (k : Nat) : List Bool := tab (max K.length L.length) fun v => if v < k then f (inS K (v : Int)) (inS L (v : Int)) else false
theorem partOf_zero (f : Bool → Bool → Bool) (K L : List Bool) : partOf f K L 0 = List.replicate (max K.length L.length) false := by
  apply List.ext_getElem?
  intro i
  by_cases h : i < max K.length L.length
  · unfold partOf
    rw [tab_at h]
    simp [h]
  · unfold partOf
    rw [List.getElem?_eq_none (by rw [tab_len]; omega), List.getElem?_eq_none (by simp; omega)]
theorem partOf_set (f : Bool → Bool → Bool) (K L : List Bool) (k : Nat) : (partOf f K L k).set k (f (inS K (k : Int)) (inS L (k : Int))) = partOf f K L (k + 1) := by
  unfold partOf
  rw [tab_set]
  refine tab_congr fun i _ => ?_
  by_cases e : i = k
  · subst e; simp
  · rw [if_neg e]
    by_cases h : i < k
    · rw [if_pos h, if_pos (by omega)]
    · rw [if_neg h, if_neg (by omega)]
theorem partOf_end (f : Bool → Bool → Bool) (K L : List Bool) {k : Nat} (h : ¬ k < max K.length L.length) : partOf f K L k = sideOf f K L :=
  tab_congr fun i hi => by rw [if_pos (by omega)]

set_option maxHeartbeats 4000000 in
theorem merged_is (fn : Nat) (f : Bool → Bool → Bool) (A1 : Option Addr) (n1 c1 : Nat) (K : List Bool) (A2 : Option Addr) (n2 c2 : Nat) (L : List Bool) (w : World) (hK : Bools w w.heap.size A1 n1 K) (hL : Bools w w.heap.size A2 n2 L) (hn1 : n1 ≤ 1000000) (hn2 : n2 ≤ 1000000)
    (hcl : ∀ (x y : Bool) (W : World), Calls Try.prog fn #[.bool x, .bool y] W fun e w' => e = .returned (.bool (f x y)) ∧ w' = W)
    (hcf : ∀ (xs : Array Value) (W : World), (callFunc fn xs).run Try.prog W = .ok (.enter fn xs) W) :
    Calls Try.prog 37 #[.slice A1 n1 c1, .slice A2 n2 c2, .func (.func fn) #[] #[]] w (RetSide (max n1 n2) (fun M => M = sideOf f K L) w) := by
  have hl1 := hK.len
  have hl2 := hL.len
  obtain ⟨i1, hi, hz0, hz1, hz2⟩ := info_parts bool_info
  have hml := fun (N : Nat) (hN : N ≤ 1000000) W => run_make_lit (P := Try.prog) 26 4 i1 _ Try.underlying26 hi hz0 N (by rw [hz2]; omega) (by omega) W
  rw [hz1] at hml
  clear hi hz0 hz1 hz2
  have HCL := Lib.hid hcl; clear hcl
  rcases Nat.lt_or_ge n1 n2 with hlt | hge
  case inl =>
    have hmx : max n1 n2 = n2 := by omega
    have hni : (n1 : Int) < (n2 : Int) := by omega
    have hm := hml n2 hn2
    rw [bvs_made] at hm
    clear hml
    rw [hmx]
    have HM := Lib.hid hmx; clear hmx
    go_enter Try.func37, Try.ntmps37
    go_wp2_with fail
    go_loopw [17] (fun i wr => ∃ k : Nat, k ≤ n2 ∧ i = .int .i64 k ∧ Blk wr w.heap.size 4 (bvs (partOf f K L k)) ∧ Below w.heap.size w wr) (fun i _ => n2 - (intOf i).toNat)
    case atStart => exact ⟨0, Nat.zero_le _, rfl, by rw [partOf_zero, hl1, hl2, HM.out]; exact Blk.new rfl, below_alloc _⟩
    case round =>
      clear hm
      obtain ⟨k, hk, rfl, K3, B3⟩ := hrel
      by_cases hlt2 : k < n2
      · have hlen : (partOf f K L k).length = n2 := by unfold partOf; rw [tab_len, hl1, hl2, HM.out]
        have b0 := K3.bat (i := k) (List.getElem?_eq_getElem (by omega))
        have bf := K3.frozen k
        have bz := K3.lt
        have K4 := K3.bset k (f (inS K (k : Int)) (inS L (k : Int)))
        rw [partOf_set] at K4
        have HK4 := Lib.hid K4
        clear K4
        have k1 := (hK.below B3).more B3.size
        have k2 := (hL.below B3).more B3.size
        go_wp2_with fail
        refine (has_is A1 n1 c1 k K _ k1).mono ?_
        rintro e w1 ⟨rfl, rfl⟩
        go_wp2_with fail
        refine (has_is A2 n2 c2 k L _ k2).mono ?_
        rintro e w1 ⟨rfl, rfl⟩
        go_wp2_with fail
        refine (HCL.out _ _ _).mono ?_
        rintro e w1 ⟨rfl, rfl⟩
        go_wp2_with fail
        go_roundw
        case rel => exact ⟨k + 1, by omega, by go_num, HK4.out, B3.setCell (by simp) _⟩
        case measure => simp [intOf]; omega
      · rw [partOf_end f K L (by rw [hl1, hl2, HM.out]; exact hlt2)] at K3
        go_wp2_with fail
        go_ret
        exact ⟨_, _, rfl, Nat.le_refl _, K3, by rw [sideOf_len, hl1, hl2, HM.out], rfl, B3⟩
  case inr =>
    have hmx : max n1 n2 = n1 := by omega
    have hni : ¬ (n1 : Int) < (n2 : Int) := by omega
    have hm := hml n1 hn1
    rw [bvs_made] at hm
    clear hml
    rw [hmx]
    have HM := Lib.hid hmx; clear hmx
    go_enter Try.func37, Try.ntmps37
    go_wp2_with fail
    go_loopw [17] (fun i wr => ∃ k : Nat, k ≤ n1 ∧ i = .int .i64 k ∧ Blk wr w.heap.size 4 (bvs (partOf f K L k)) ∧ Below w.heap.size w wr) (fun i _ => n1 - (intOf i).toNat)
    case atStart => exact ⟨0, Nat.zero_le _, rfl, by rw [partOf_zero, hl1, hl2, HM.out]; exact Blk.new rfl, below_alloc _⟩
    case round =>
      clear hm
      obtain ⟨k, hk, rfl, K3, B3⟩ := hrel
      by_cases hlt2 : k < n1
      · have hlen : (partOf f K L k).length = n1 := by unfold partOf; rw [tab_len, hl1, hl2, HM.out]
        have b0 := K3.bat (i := k) (List.getElem?_eq_getElem (by omega))
        have bf := K3.frozen k
        have bz := K3.lt
        have K4 := K3.bset k (f (inS K (k : Int)) (inS L (k : Int)))
        rw [partOf_set] at K4
        have HK4 := Lib.hid K4
        clear K4
        have k1 := (hK.below B3).more B3.size
        have k2 := (hL.below B3).more B3.size
        go_wp2_with fail
        refine (has_is A1 n1 c1 k K _ k1).mono ?_
        rintro e w1 ⟨rfl, rfl⟩
        go_wp2_with fail
        refine (has_is A2 n2 c2 k L _ k2).mono ?_
        rintro e w1 ⟨rfl, rfl⟩
        go_wp2_with fail
        refine (HCL.out _ _ _).mono ?_
        rintro e w1 ⟨rfl, rfl⟩
        go_wp2_with fail
        go_roundw
        case rel => exact ⟨k + 1, by omega, by go_num, HK4.out, B3.setCell (by simp) _⟩
        case measure => simp [intOf]; omega
      · rw [partOf_end f K L (by rw [hl1, hl2, HM.out]; exact hlt2)] at K3
        go_wp2_with fail
        go_ret
        exact ⟨_, _, rfl, Nat.le_refl _, K3, by rw [sideOf_len, hl1, hl2, HM.out], rfl, B3⟩

set_option maxHeartbeats 1000000 in
theorem and_is (A1 : Option Addr) (n1 c1 : Nat) (K : List Bool) (A2 : Option Addr) (n2 c2 : Nat) (L : List Bool) (w : World) (hK : Bools w w.heap.size A1 n1 K) (hL : Bools w w.heap.size A2 n2 L) (hn1 : n1 ≤ 1000000) (hn2 : n2 ≤ 1000000) :
    Calls Try.prog 21 #[.slice A1 n1 c1, .slice A2 n2 c2] w (RetSide (max n1 n2) (fun M => M = sideOf (· && ·) K L) w) := by
  go_enter Try.func21, Try.ntmps21
  go_wp2_with fail
  refine (merged_is 38 (· && ·) A1 n1 c1 K A2 n2 c2 L w hK hL hn1 hn2 and1_any (fun _ _ => by kernel_rfl)).mono ?_
  rintro e w1 ⟨g, M, rfl, h1, h2, h3, h4, h5⟩
  go_wp2_with fail
  go_ret
  exact ⟨g, M, rfl, h1, h2, h3, h4, h5⟩
set_option maxHeartbeats 1000000 in
theorem or_is (A1 : Option Addr) (n1 c1 : Nat) (K : List Bool) (A2 : Option Addr) (n2 c2 : Nat) (L : List Bool) (w : World) (hK : Bools w w.heap.size A1 n1 K) (hL : Bools w w.heap.size A2 n2 L) (hn1 : n1 ≤ 1000000) (hn2 : n2 ≤ 1000000) :
    Calls Try.prog 22 #[.slice A1 n1 c1, .slice A2 n2 c2] w (RetSide (max n1 n2) (fun M => M = sideOf (· || ·) K L) w) := by
  go_enter Try.func22, Try.ntmps22
  go_wp2_with fail
  refine (merged_is 39 (· || ·) A1 n1 c1 K A2 n2 c2 L w hK hL hn1 hn2 or1_any (fun _ _ => by kernel_rfl)).mono ?_
  rintro e w1 ⟨g, M, rfl, h1, h2, h3, h4, h5⟩
  go_wp2_with fail
  go_ret
  exact ⟨g, M, rfl, h1, h2, h3, h4, h5⟩

end Go.Proofs.Ythpmappcfgiggaa

/-! The statements' own helpers of layer 4: side. -/
namespace Go.Proofs.Ythpmappcfgiggaa
open Go.RowKit
set_option maxRecDepth 100000

theorem inS_put {K : List Bool} {v : Nat} {b : Bool} (u : Nat) (hv : v < K.length) : inS (K.set v b) (u : Int) = if u = v then b else inS K (u : Int) := by
  unfold inS
  simp only [Int.toNat_natCast, List.getElem?_set]
  by_cases e : v = u
  · subst e; simp [hv]
  · rw [if_neg e, if_neg (fun e' => e e'.symm)]

theorem wpList_copy_bools {P : Program} {w : World} {ops : Array Oper} {rest : List Oper} {o : Oper} {a : Act} {Q : Exit → Act → World → Prop} (hgd : o.guard = none) (d s : Operand) (dT sT : TypeId)
    (ho : o.op = .call { callee := .builtin .copy, args := #[d, s], argTypes := #[dT, sT] }) (elem : TypeId) (hu : P.underlying dT = some (.slice elem)) (hi : (P.info? elem).map (·.size) = some 1)
    (g n dc m sc B : Nat) (A : Option Addr) (hd : a.eval d = .slice (some ⟨g, 0, none⟩) n dc) (hsv : a.eval s = .slice A m sc) (t : TypeId) (L K : List Bool) (hg : Blk w g t (bvs L)) (hL : L.length = n) (hK : Bools w B A m K)
    (h : ∀ (w' : World) (M : List Bool) (v : Value), M.length = n → Blk w' g t (bvs M) → w.grownBy w' (some g) → w'.heap.size = w.heap.size → wpList P ops Q rest (a.put o.dst v) w') :
    wpList P ops Q (o :: rest) a w := by
  refine wpList_plain hgd fun Kq hKq => ?_
  by_cases h0 : Nat.min m n = 0
  · have hrun := run_copy_none (P := P) w dT sT o.type elem (some ⟨g, 0, none⟩) A n dc m sc hu hi h0
    unfold Oper.wp
    simp [execOp, ho, resolve, invoke, builtin, hd, hsv, hrun, Result.andThen]
    exact hKq _ _ (h w L _ hL hg ⟨rfl, rfl, rfl, Nat.le_refl _, fun _ _ _ => rfl⟩ rfl)
  · have hm : 0 < m := by
      rcases Nat.eq_zero_or_pos m with e | e
      · subst e; exact absurd (Nat.zero_min n) h0
      · exact e
    obtain ⟨b, off, rfl, _, hc⟩ := hK.2 hm
    have hkl := hK.len
    have hmin : Nat.min m n ≤ m ∧ Nat.min m n ≤ n := ⟨Nat.min_le_left m n, Nat.min_le_right m n⟩
    have hq : ∃ q, Nat.min m n = q := ⟨_, rfl⟩
    obtain ⟨q, hq⟩ := hq
    rw [hq] at hmin
    have hcl : ((K.take q).map Value.bool).length = q := by simp; omega
    have hrun := run_copy_row (P := P) w dT sT o.type elem g 0 n dc ⟨b, off, none⟩ m sc (bvs L) t ((K.take q).map Value.bool) hu hi hg (hcl.trans hq.symm) (fun j v hj => by
      rw [addr_add]
      simp only [List.getElem?_map, Option.map_eq_some_iff] at hj
      obtain ⟨x, hx, rfl⟩ := hj
      have hjl := (List.getElem?_eq_some_iff.1 hx).1
      simp at hjl
      rw [List.getElem?_take_of_lt (by omega)] at hx
      have := hc j x hx 0 _ rfl
      simpa using this) (by simp [bvs]; omega) (fun v hv => by
      obtain ⟨x, _, rfl⟩ := List.mem_map.1 hv
      rfl)
    unfold Oper.wp
    simp only [execOp, ho, resolve, invoke, builtin, Sem.run_bind, Sem.run_pure, Result.andThen_ok, List.map_toArray, List.map_cons, List.map_nil, hd, hsv, hrun]
    have e : ((bvs L).toList.take 0 ++ (K.take (q)).map Value.bool ++ (bvs L).toList.drop (0 + ((K.take (q)).map Value.bool).length)).toArray = bvs (K.take (q) ++ L.drop (q)) := by
      apply Array.ext'
      rw [hcl]
      simp [bvs, List.map_drop]
    rw [e]
    exact hKq _ _ (h _ (K.take (q) ++ L.drop (q)) _ (by simp; omega) (setRow_heap w g _ _ t _ hg) ⟨rfl, rfl, rfl, by simp [World.setRow], fun k _ hne => setRow_other w g k _ (fun e => hne (by rw [e]))⟩ (by simp [World.setRow]))

set_option maxHeartbeats 4000000 in
theorem side_is (N : Nat) (S T : Int) (A : Option Addr) (n c : Nat) (l : List ArcN) (AK : Option Addr) (m cK : Nat) (K : List Bool) (w : World) (hck : checkF N S T l = 0)
    (hK : Bools w w.heap.size AK m K) :
    Calls Try.prog 10 #[.agg #[.int .i64 N, .int .i64 S, .int .i64 T, .slice A n c], .slice AK m cK] w (RetSide N (IsCut N S T) w) := by
  have hend := ends_in hck
  obtain ⟨hN2, hN3, hn3, -, hS0, hS1, hT0, hT1, hST, -, -⟩ := hend
  obtain ⟨s, rfl⟩ := Int.eq_ofNat_of_zero_le hS0
  obtain ⟨t, rfl⟩ := Int.eq_ofNat_of_zero_le hT0
  obtain ⟨i1, hi, hz0, hz1, hz2⟩ := info_parts bool_info
  have hml := fun W => run_make_lit (P := Try.prog) 26 4 i1 _ Try.underlying26 hi hz0 N (by rw [hz2]; omega) (by omega) W
  rw [hz1, bvs_made] at hml
  have hsz : (Try.prog.info? 4).map (·.size) = some 1 := by kernel_rfl
  clear hi hz0 hz1 hz2
  go_enter Try.func10, Try.ntmps10
  go_wp2_with (with_reducible refine wpList_copy_bools rfl (.tmp 9) (.tmp 10) _ _ rfl 4 Try.underlying26 hsz (w.heap.size + 1) N N m cK _ AK rfl rfl 4 (List.replicate N false) K (Blk.new (by simp)) (by simp) ((hK.onAlloc _).onAlloc _) ?_)
  intro w1 M v hMl M1 hg1 hs1
  have K1 : Blk w1 w.heap.size 24 #[.int .i64 N, .int .i64 s, .int .i64 t, .slice A n c] := ((Blk.new rfl).alloc _).grown hg1 (by simp)
  have Bw1 : Below w.heap.size w w1 := ((below_alloc _).alloc (by simp) _).grown hg1 (by simp; omega) (fun k hk => by injection hk with hk; omega)
  clear hml hg1
  obtain ⟨x0, x1, x2, x3⟩ := K1.at4
  have hz1 := K1.lt
  have hz2 := M1.lt
  have c1 := M1.bat (at_inS (K := M) (v := s) (by omega))
  have c2 := M1.bat (at_inS (K := M) (v := t) (by omega))
  have f1 := M1.frozen s
  have f2 := M1.frozen t
  clear hs1
  go_wp2_with fail
  go_region_held3 (fun W' => W'.cell? ⟨w.heap.size, 1, none⟩ = some (.int .i64 (s : Int)) ∧ W'.cell? ⟨w.heap.size, 2, none⟩ = some (.int .i64 (t : Int))) (go_keep) (first | fail)
  have M2 := ((M1.bset s true).bset t false).drew
  have Bw2 := ((Bw1.setCell (p := ⟨w.heap.size + 1, s, none⟩) (by simp) (.bool true)).setCell (p := ⟨w.heap.size + 1, t, none⟩) (by simp) (.bool false)).drew
  go_wp2_with fail
  go_ret
  have hst : t ≠ s := by omega
  refine ⟨_, (M.set s true).set t false, rfl, by omega, M2, by simp [hMl], ⟨by simp [hMl], ?_, ?_⟩, Bw2⟩
  · rw [inS_put s (by simp; omega), if_neg (fun e => hst e.symm), inS_put s (by omega), if_pos rfl]
  · rw [inS_put t (by simp; omega), if_pos rfl]

end Go.Proofs.Ythpmappcfgiggaa

/-! Layer 4: the chapter's examples ('awake'). -/
namespace Go.Proofs.Ythpmappcfgiggaa
open Go.RowKit
set_option maxRecDepth 100000

theorem side_eq {K L : List Bool} {N : Nat} (h1 : K.length = N) (h2 : L.length = N) (h : ∀ v : Nat, v < N → (inS K (v : Int) = true ↔ inS L (v : Int) = true)) : K = L :=
  side_ext (by omega) fun v hv => by rw [Bool.eq_iff_iff]; exact h v (by omega)

theorem four_open {v u : Int} (h : Opn fourArcs [5, 4, 3, 6, 2] v u) : v ≠ 0 ∧ u ≠ 3 := by
  obtain ⟨i, a, x, ha, hx, hne, hh⟩ := h
  match i, ha, hx with
  | 0, ha, hx => simp [fourArcs] at ha hx; subst ha; subst hx; simp at hh; omega
  | 1, ha, hx => simp [fourArcs] at ha hx; subst ha; subst hx; simp at hh; omega
  | 2, ha, hx => simp [fourArcs] at ha hx; subst ha; subst hx; simp at hh; omega
  | 3, ha, hx => simp [fourArcs] at ha hx; subst ha; subst hx; simp at hh; omega
  | 4, ha, hx => simp [fourArcs] at ha hx; subst ha; subst hx; simp at hh; omega
  | i + 5, ha, hx => simp [fourArcs] at ha
theorem four_from {v : Int} : Star (Opn fourArcs [5, 4, 3, 6, 2]) 0 v ↔ v = 0 := by
  constructor
  · intro h
    exact h.shut (p := fun x => x = 0) rfl fun a b ha hR => absurd ha (four_open hR).1
  · rintro rfl; exact .here _
theorem four_to {v : Int} : Star (Opn fourArcs [5, 4, 3, 6, 2]) v 3 ↔ v = 3 := by
  constructor
  · intro h
    exact h.flip.shut (p := fun x => x = 3) rfl fun a b ha hR => absurd ha (four_open hR).2
  · rintro rfl; exact .here _
theorem four_fromK {K : List Bool} (hl : K.length = 4) (h : ∀ v : Int, 0 ≤ v → (inS K v = true ↔ Star (Opn fourArcs [5, 4, 3, 6, 2]) 0 v)) : K = [true, false, false, false] := by
  refine side_eq hl rfl fun v hv => ?_
  rw [h v (by omega), four_from]
  match v, hv with
  | 0, _ => decide
  | 1, _ => decide
  | 2, _ => decide
  | 3, _ => decide
theorem four_toK {K : List Bool} (hl : K.length = 4) (h : ∀ v : Nat, v < 4 → (inS K (v : Int) = true ↔ ¬ Star (Opn fourArcs [5, 4, 3, 6, 2]) (v : Int) 3)) : K = [true, true, true, false] := by
  refine side_eq hl rfl fun v hv => ?_
  rw [h v hv, four_to]
  match v, hv with
  | 0, _ => decide
  | 1, _ => decide
  | 2, _ => decide
  | 3, _ => decide
theorem four_cut1 : IsCut 4 0 3 [true, false, false, false] ∧ IsCut 4 0 3 [true, true, false, false] ∧ IsCut 4 0 3 [true, false, true, false] :=
  ⟨⟨rfl, rfl, rfl⟩, ⟨rfl, rfl, rfl⟩, ⟨rfl, rfl, rfl⟩⟩
theorem four_caps : capX [true, false, false, false] fourArcs = 9 ∧ capX [true, true, false, false] fourArcs = 9 ∧ capX [true, false, true, false] fourArcs = 11 ∧ accX [true, true, false, false] fourArcs [5, 4, 3, 6, 2] = 9 := by decide +kernel
theorem four_in : FlowIn fourArcs [5, 4, 3, 6, 2] := four_flow.2 (by omega)
theorem four_tight : TightFor [true, true, false, false] fourArcs [5, 4, 3, 6, 2] := (acc_cap four_in).2.1 (by rw [four_caps.2.2.2, four_caps.2.1])

set_option maxHeartbeats 1000000 in
theorem caps_is (want : Int) (AK : Option Addr) (m cK : Nat) (K : List Bool) (w : World) (hK : Bools w w.heap.size AK m K) (hk : IsCut 4 0 3 K) (hc : capX K fourArcs = want) :
    Calls Try.prog 30 #[.int .i64 want, .slice AK m cK] w fun e w' => e = .returned (.bool true) ∧ Below w.heap.size w w' := by
  have hcap := fun A n c W hA hK' => cap_good 4 0 3 A n c fourArcs AK m cK K W hA four_check' hK' hk
  rw [hc] at hcap
  have HCP := Lib.hid hcap; clear hcap hc
  go_enter Try.func30, Try.ntmps30
  go_wp2_with fail
  refine (four_any _).mono ?_
  rintro e w1 ⟨A1, n1, c1, rfl, o1, l1, B1⟩
  have a1 := arcs_own o1 l1
  go_wp2_with fail
  refine (HCP.out A1 n1 c1 _ a1 (hK.on B1)).mono ?_
  rintro e w2 ⟨rfl, B2⟩
  go_wp2_with fail
  go_ret
  exact ⟨rfl, below_step B1 B2⟩

theorem bools_new {w : World} {g : Nat} {K : List Bool} {n : Nat} (h : w.heap.size = g) (hl : K.length = n) : Bools (w.alloc (.cells (bvs K) 4)) (w.alloc (.cells (bvs K) 4)).heap.size (some ⟨g, 0, none⟩) n K := (Blk.new h).bools hl

set_option maxHeartbeats 8000000 in
theorem awake4_any (w : World) : Calls Try.prog 17 #[] w fun e w' => e = .returned (.bool true) ∧ Below w.heap.size w w' := by
  go_enter Try.func17, Try.ntmps17
  go_wp2_with fail
  refine (four_any _).mono ?_
  rintro e w1 ⟨A1, n1, c1, rfl, o1, l1, B1⟩
  obtain rfl : n1 = 5 := l1.symm
  have a1 := arcs_own o1 l1
  clear o1 l1
  go_wp2_with fail
  have N1 : Blk ((w1.alloc (.cells #[.int .i64 5, .int .i64 4, .int .i64 3, .int .i64 6, .int .i64 2] 2)).alloc (.cells #[.int .i64 4, .int .i64 0, .int .i64 3, .slice A1 5 c1] 24)) w1.heap.size 2 (ivs [5, 4, 3, 6, 2]) := (Blk.new rfl).alloc _
  have K1 : Blk ((w1.alloc (.cells #[.int .i64 5, .int .i64 4, .int .i64 3, .int .i64 6, .int .i64 2] 2)).alloc (.cells #[.int .i64 4, .int .i64 0, .int .i64 3, .slice A1 5 c1] 24)) (w1.heap.size + 1) 24 #[.int .i64 4, .int .i64 0, .int .i64 3, .slice A1 5 c1] := Blk.new (by simp)
  have a1' := (a1.onAlloc (.cells #[.int .i64 5, .int .i64 4, .int .i64 3, .int .i64 6, .int .i64 2] 2)).onAlloc (.cells #[.int .i64 4, .int .i64 0, .int .i64 3, .slice A1 5 c1] 24)
  have Bw1 := (B1.alloc B1.size (.cells #[.int .i64 5, .int .i64 4, .int .i64 3, .int .i64 6, .int .i64 2] 2)).alloc (by have := B1.size; simp; omega) (.cells #[.int .i64 4, .int .i64 0, .int .i64 3, .slice A1 5 c1] 24)
  have D1 := bools_new (w := (w1.alloc (.cells #[.int .i64 5, .int .i64 4, .int .i64 3, .int .i64 6, .int .i64 2] 2)).alloc (.cells #[.int .i64 4, .int .i64 0, .int .i64 3, .slice A1 5 c1] 24)) (K := [true, true, false, false]) (n := 4) rfl rfl
  rw [show ((w1.alloc (.cells #[.int .i64 5, .int .i64 4, .int .i64 3, .int .i64 6, .int .i64 2] 2)).alloc (.cells #[.int .i64 4, .int .i64 0, .int .i64 3, .slice A1 5 c1] 24)).heap.size = w1.heap.size + 1 + 1 by simp] at D1
  refine (across_good 4 0 3 A1 5 c1 fourArcs _ 5 _ [5, 4, 3, 6, 2] _ 4 _ [true, true, false, false] _ (a1'.onAlloc _) four_check' ((N1.alloc _).ints rfl) four_in D1 four_cut1.2.1).mono ?_
  rintro e w2 ⟨rfl, B2⟩
  rw [four_caps.2.2.2]
  have K2 := (K1.alloc _).below B2 (K1.alloc _).lt
  have N2 := (N1.alloc _).below B2 (N1.alloc _).lt
  have a2 := (a1'.onAlloc _).on B2
  have Bw2 := below_step (Bw1.alloc (by have := Bw1.size; simp at this; simp; omega) _) B2
  clear N1 K1 a1' Bw1 D1 B2 a1 B1
  obtain ⟨x0, x1, x2, x3⟩ := K2.at4
  have hz2 := K2.lt
  go_wp2_with fail
  refine (from_good 4 0 3 A1 5 c1 fourArcs _ 5 _ [5, 4, 3, 6, 2] _ a2 four_check' (N2.ints rfl) four_in).mono ?_
  rintro e w3 ⟨gA, KA, rfl, hgA, P3, hlA, hA, B3⟩
  obtain rfl := four_fromK hlA hA
  clear hA hlA
  have K3 := K2.below B3 K2.lt
  have N3 := N2.below B3 N2.lt
  have a3 := a2.on B3
  have Bw3 := below_step Bw2 B3
  clear x0 x1 x2 x3 hz2 K2 N2 a2 Bw2 B3
  obtain ⟨x0, x1, x2, x3⟩ := K3.at4
  have hz3 := K3.lt
  go_wp2_with fail
  refine (to_good 4 0 3 A1 5 c1 fourArcs _ 5 _ [5, 4, 3, 6, 2] _ a3 four_check' (N3.ints rfl) four_in).mono ?_
  rintro e w4 ⟨gB, KB, rfl, hgB, Q4, hlB, hB, B4⟩
  obtain rfl := four_toK hlB hB
  clear hB hlB
  have K4 := K3.below B4 K3.lt
  have N4 := N3.below B4 N3.lt
  have P4 := P3.below B4 P3.lt
  have a4 := a3.on B4
  have Bw4 := below_step Bw3 B4
  clear x0 x1 x2 x3 hz3 K3 N3 P3 a3 Bw3 B4
  obtain ⟨x0, x1, x2, x3⟩ := K4.at4
  have hz4 := K4.lt
  go_wp2_with fail
  refine (caps_is 9 _ 4 _ [true, false, false, false] _ (bools_new rfl rfl) four_cut1.1 four_caps.1).mono ?_
  rintro e w5 ⟨rfl, B5⟩
  have K5 := (K4.alloc _).below B5 (K4.alloc _).lt
  have N5 := (N4.alloc _).below B5 (N4.alloc _).lt
  have P5 := (P4.alloc _).below B5 (P4.alloc _).lt
  have Q5 := (Q4.alloc _).below B5 (Q4.alloc _).lt
  have a5 := (a4.onAlloc _).on B5
  have Bw5 := below_step (Bw4.alloc Bw4.size _) B5
  clear x0 x1 x2 x3 hz4 K4 N4 P4 Q4 a4 Bw4 B5
  obtain ⟨x0, x1, x2, x3⟩ := K5.at4
  have hz5 := K5.lt
  go_wp2_with fail
  refine (caps_is 9 _ 4 _ [true, true, false, false] _ (bools_new rfl rfl) four_cut1.2.1 four_caps.2.1).mono ?_
  rintro e w6 ⟨rfl, B6⟩
  have K6 := (K5.alloc _).below B6 (K5.alloc _).lt
  have N6 := (N5.alloc _).below B6 (N5.alloc _).lt
  have P6 := (P5.alloc _).below B6 (P5.alloc _).lt
  have Q6 := (Q5.alloc _).below B6 (Q5.alloc _).lt
  have a6 := (a5.onAlloc _).on B6
  have Bw6 := below_step (Bw5.alloc Bw5.size _) B6
  clear x0 x1 x2 x3 hz5 K5 N5 P5 Q5 a5 Bw5 B6
  obtain ⟨x0, x1, x2, x3⟩ := K6.at4
  have hz6 := K6.lt
  go_wp2_with fail
  refine (caps_is 11 _ 4 _ [true, false, true, false] _ (bools_new rfl rfl) four_cut1.2.2 four_caps.2.2.1).mono ?_
  rintro e w7 ⟨rfl, B7⟩
  have K7 := (K6.alloc _).below B7 (K6.alloc _).lt
  have N7 := (N6.alloc _).below B7 (N6.alloc _).lt
  have P7 := (P6.alloc _).below B7 (P6.alloc _).lt
  have Q7 := (Q6.alloc _).below B7 (Q6.alloc _).lt
  have a7 := (a6.onAlloc _).on B7
  have Bw7 := below_step (Bw6.alloc Bw6.size _) B7
  clear x0 x1 x2 x3 hz6 K6 N6 P6 Q6 a6 Bw6 B7
  obtain ⟨x0, x1, x2, x3⟩ := K7.at4
  have hz7 := K7.lt
  go_wp2_with fail
  refine (tight_is 4 0 3 A1 5 c1 fourArcs _ 5 _ [5, 4, 3, 6, 2] _ 4 _ [true, true, false, false] true _ (a7.onAlloc _) four_check' ((N7.alloc _).ints rfl) four_in (bools_new rfl rfl) four_cut1.2.1 (by simp only [true_iff]; exact four_tight)).mono ?_
  rintro e w8 ⟨rfl, B8⟩
  have K8 := (K7.alloc _).below B8 (K7.alloc _).lt
  have N8 := (N7.alloc _).below B8 (N7.alloc _).lt
  have P8 := (P7.alloc _).below B8 (P7.alloc _).lt
  have Q8 := (Q7.alloc _).below B8 (Q7.alloc _).lt
  have a8 := (a7.onAlloc _).on B8
  have Bw8 := below_step (Bw7.alloc Bw7.size _) B8
  clear x0 x1 x2 x3 hz7 K7 N7 P7 Q7 a7 Bw7 B8
  obtain ⟨x0, x1, x2, x3⟩ := K8.at4
  have hz8 := K8.lt
  go_wp2_with fail
  refine (bools_is (n := 4) (m := 4) (L := [true, false, false, false]) _ _ ((P8.alloc _).bools rfl) (bools_new rfl rfl) (by omega) (v := true) (by simp)).mono ?_
  rintro e w9 ⟨rfl, B9⟩
  have K9 := (K8.alloc _).below B9 (K8.alloc _).lt
  have N9 := (N8.alloc _).below B9 (N8.alloc _).lt
  have P9 := (P8.alloc _).below B9 (P8.alloc _).lt
  have Q9 := (Q8.alloc _).below B9 (Q8.alloc _).lt
  have a9 := (a8.onAlloc _).on B9
  have Bw9 := below_step (Bw8.alloc Bw8.size _) B9
  clear x0 x1 x2 x3 hz8 K8 N8 P8 Q8 a8 Bw8 B9
  obtain ⟨x0, x1, x2, x3⟩ := K9.at4
  have hz9 := K9.lt
  go_wp2_with fail
  refine (bools_is (n := 4) (m := 4) (L := [true, true, true, false]) _ _ ((Q9.alloc _).bools rfl) (bools_new rfl rfl) (by omega) (v := true) (by simp)).mono ?_
  rintro e w10 ⟨rfl, B10⟩
  go_wp2_with fail
  go_ret
  exact ⟨rfl, below_step (Bw9.alloc Bw9.size _) B10⟩

end Go.Proofs.Ythpmappcfgiggaa
