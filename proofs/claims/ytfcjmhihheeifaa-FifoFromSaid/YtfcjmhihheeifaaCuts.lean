/- Layer 4: Right, crossing, Cap, Across, Tight. -/
import Derived.Test.YtfcjmhihheeifaaCells
import Derived.Test.YtfcjmhihheeifaaGround
import Derived.Test.YtfcjmhihheeifaaFacts
import Derived.Test.YtfcjmhihheeifaaSomes
import Derived.Test.YtfcjmhihheeifaaFlows
import Derived.RangeFuncNested
import Derived.RangeFuncBound
import Derived.RangeFuncCalls
import Derived.RangeFuncLeaves
import Derived.RangeFuncBox
import Derived.Shelf.Abstract
import Derived.Shelf.RegionOpen
import Derived.WalkKit
import Derived.OwnWalkIn
import Derived.TacticsInMore
import Derived.LoopNIn
import Derived.LoopIn
import Derived.Sort.QuietIn
/-! Lists of Booleans in memory. -/
namespace Go.Proofs.Ytfcjmhihheeifaa
open Go.RowKit
set_option maxRecDepth 100000

set_option maxHeartbeats 1000000 in
theorem bools_is {A1 A2 : Option Addr} {n m : Nat} (c1 c2 : Nat) {K L : List Bool} {w : World} (h1 : Bools w w.heap.size A1 n K) (h2 : Bools w w.heap.size A2 m L) (hn : n ≤ 100000000) {v : Bool} (hv : v = true ↔ K = L) :
    Calls Try.prog 76 #[.slice A1 n c1, .slice A2 m c2] w fun e w' => e = .returned (.bool v) ∧ Below w.heap.size w w' := by
  have hno : K ≠ L → v = false := fun h => by
    cases v with
    | false => rfl
    | true => exact absurd (hv.1 rfl) h
  have HY := Lib.hid hv.2; have HN := Lib.hid hno; clear hv hno
  by_cases hnm : n = m
  · subst hnm
    go_enter Try.func76, Try.ntmps76
    go_wp2_with fail
    go_loopw [5, 13] (fun _ i wr => ∃ k : Nat, k ≤ n ∧ i = .int .i64 k ∧ K.take k = L.take k ∧ Below w.heap.size w wr) (fun _ i _ => n - (intOf i).toNat)
    case atStart => exact ⟨0, Nat.zero_le _, rfl, rfl, Below.refl _ _⟩
    case round =>
      obtain ⟨k, hk, rfl, hp, hb⟩ := hrel
      by_cases hlt : k < n
      · obtain ⟨b1, o1, x1, rfl, hb1, hx1, c1⟩ := bool_at (h1.below hb) hlt
        obtain ⟨b2, o2, x2, rfl, hb2, hx2, c2⟩ := bool_at (h2.below hb) hlt
        have HP := Lib.hid hp; have HX1 := Lib.hid hx1; have HX2 := Lib.hid hx2; clear hp hx1 hx2
        by_cases e : x1 = x2
        · subst e
          have hxx : (x1 != x1) = false := by simp
          go_wp2_with fail
          go_quiet (fail)
          go_wp2_with fail
          go_roundw
          case rel => exact ⟨k + 1, by omega, by go_num, eq_take_snoc HX1.out HX2.out HP.out, below_drewN' hb _⟩
          case measure => simp [intOf]; omega
        · have hf := HN.out (ne_at HX1.out HX2.out e)
          subst hf
          have HE := Lib.hid e; clear e
          cases x1 <;> cases x2
          · exact absurd rfl HE.out
          · go_wp2_with fail
            go_quiet (fail)
            go_wp2_with fail
            go_ret
            exact ⟨rfl, below_drewN' hb _⟩
          · go_wp2_with fail
            go_quiet (fail)
            go_wp2_with fail
            go_ret
            exact ⟨rfl, below_drewN' hb _⟩
          · exact absurd rfl HE.out
      · have e := HY.out (eq_take_end h1.1 (by have := h2.1; omega) hlt hp)
        subst e
        clear hp
        go_wp2_with fail
        go_ret
        exact ⟨rfl, hb⟩
  · have hf := HN.out (ne_len h1.1 h2.1 hnm)
    subst hf
    have hne : ((n : Int) != (m : Int)) = true := by simp; omega
    go_enter Try.func76, Try.ntmps76
    go_wp2_with fail
    go_ret
    exact ⟨rfl, Below.refl _ _⟩

end Go.Proofs.Ytfcjmhihheeifaa

/-! Layer 4: Right. -/
namespace Go.Proofs.Ytfcjmhihheeifaa
open Go.RowKit
set_option maxRecDepth 100000

theorem rets {b r : Bool} (h : b = r) : Ending.returned (.bool b) = .returned (.bool r) := by rw [h]

set_option maxHeartbeats 2000000 in
theorem right_is (N : Nat) (S T : Int) (A : Option Addr) (n c : Nat) (l : List ArcN) (AK : Option Addr) (m cK : Nat) (K : List Bool) (r : Bool) (w : World) (hA : Arcs w w.heap.size A n l) (hck : checkF N S T l = 0)
    (hK : Bools w w.heap.size AK m K) (hr : r = true ↔ IsCut N S T K) :
    Calls Try.prog 34 #[.agg #[.int .i64 N, .int .i64 S, .int .i64 T, .slice A n c], .slice AK m cK] w fun e w' => e = .returned (.bool r) ∧ Below w.heap.size w w' := by
  have hend := ends_in hck
  have hla := hA.len
  have hlk := hK.len
  obtain ⟨hN2, hN3, hn3, -, hS0, hS1, hT0, hT1, -, -, -⟩ := hend
  obtain ⟨s, rfl⟩ := Int.eq_ofNat_of_zero_le hS0
  obtain ⟨t, rfl⟩ := Int.eq_ofNat_of_zero_le hT0
  have hno : ¬ IsCut N s t K → false = r := fun h => by
    cases r with
    | false => rfl
    | true => exact absurd (hr.1 rfl) h
  have HY := Lib.hid hr.2; have HN := Lib.hid hno; have HC := Lib.hid hck; clear hr hno hck
  go_enter Try.func34, Try.ntmps34
  by_cases hm : m = N
  · subst hm
    obtain ⟨b, off, rfl, hb, c1⟩ := side_at (k := s) (hK.onAlloc (.cells #[.int .i64 m, .int .i64 s, .int .i64 t, .slice A n c] 24)) (by omega)
    have K0 : Bools w w.heap.size (some ⟨b, off, none⟩) m K := hK
    go_wp2_with fail
    refine (check_is _ (hA.onAlloc _) (by omega) HC.out).mono ?_
    rintro e w1 ⟨rfl, B1⟩
    have K1 : Blk w1 w.heap.size 24 #[.int .i64 m, .int .i64 s, .int .i64 t, .slice A n c] := (Blk.new rfl).below B1 (by simp)
    have KB := (hK.onAlloc (.cells #[.int .i64 m, .int .i64 s, .int .i64 t, .slice A n c] 24)).on B1
    have Bw := below_step (below_alloc _) B1
    clear B1 c1
    obtain ⟨x0, x1, x2, x3⟩ := K1.at4
    obtain ⟨_, _, hA1, _, c1⟩ := side_at KB (k := s) (by omega)
    injection hA1 with hA1
    injection hA1 with hA1 hA2 _
    subst hA1; subst hA2
    obtain ⟨_, _, hA1, _, c2⟩ := side_at KB (k := t) (by omega)
    injection hA1 with hA1
    injection hA1 with hA1 hA2 _
    subst hA1; subst hA2
    cases hs : inS K (s : Int)
    · have hf := HN.out fun h => by have := h.src; rw [hs] at this; cases this
      subst hf
      rw [hs] at c1
      clear hs
      go_wp2_with fail
      go_ret
      exact ⟨rfl, Bw⟩
    · cases ht : inS K (t : Int)
      · have hf := HY.out ⟨hlk, hs, ht⟩
        subst hf
        rw [hs] at c1
        rw [ht] at c2
        clear hs ht
        go_wp2_with fail
        go_ret
        exact ⟨rfl, Bw⟩
      · have hf := HN.out fun h => by have := h.snk; rw [ht] at this; cases this
        subst hf
        rw [hs] at c1
        rw [ht] at c2
        clear hs ht
        go_wp2_with fail
        go_ret
        exact ⟨rfl, Bw⟩
  · have hf := HN.out fun h => hm (by rw [← hlk, h.len])
    subst hf
    have hne : ((m : Int) == (N : Int)) = false := by simp; omega
    go_wp2_with fail
    refine (check_is _ (hA.onAlloc _) (by omega) HC.out).mono ?_
    rintro e w1 ⟨rfl, B1⟩
    have K1 : Blk w1 w.heap.size 24 #[.int .i64 N, .int .i64 s, .int .i64 t, .slice A n c] := (Blk.new rfl).below B1 (by simp)
    have Bw := below_step (below_alloc _) B1
    clear B1
    obtain ⟨x0, x1, x2, x3⟩ := K1.at4
    go_wp2_with fail
    go_ret
    exact ⟨rfl, Bw⟩

end Go.Proofs.Ytfcjmhihheeifaa

/-! Layer 4: crossing: the arcs across a side, one by one. -/
namespace Go.Proofs.Ytfcjmhihheeifaa
open Go.RowKit Go.Shelf
set_option maxRecDepth 100000
attribute [local go_sem] Oper.semAt_some

/-- Whatever lay below B lies as it lay, but for block x. -/
structure Spares (B x : Nat) (W W' : World) : Prop where
  size : W.heap.size ≤ W'.heap.size
  same : ∀ k, k < B → k ≠ x → W'.heap[k]? = W.heap[k]?
section
variable {B x : Nat} {W W' W'' : World}
theorem Spares.refl : Spares B x W W := ⟨Nat.le_refl _, fun _ _ _ => rfl⟩
theorem Spares.trans (h : Spares B x W W') (k : Spares B x W' W'') : Spares B x W W'' := ⟨Nat.le_trans h.size k.size, fun i h1 h2 => (k.same i h1 h2).trans (h.same i h1 h2)⟩
theorem Spares.below {B0 : Nat} (h : Below B0 W W') (hB : B ≤ B0) : Spares B x W W' := ⟨h.size, fun k hk _ => h.block k (by omega)⟩
theorem Spares.cell (h : Spares B x W W') {p : Addr} (hp : p.block < B) (hx : p.block ≠ x) : W'.cell? p = W.cell? p := World.cell?_of_block (h.same _ hp hx)
theorem Spares.b {w : World} (W : World) (l : Nat) (o o' : Obj) (hl : w.heap.size ≤ l) (_ : W.heap[l]? = some o) (_ : o.isCells = false) (_ : o.isWalk = false) : Spares w.heap.size x W (W.putObj l o') :=
  ⟨by simp, fun k hk _ => World.putObj_heap_other (by omega)⟩
theorem Spares.setCell {v : Value} {o : Nat} : Spares B x W (W.setCell ⟨x, o, none⟩ v) :=
  ⟨by simp, fun k _ hk => Below.heap_setCell W _ v k hk⟩
theorem Spares.arcs {n : Nat} {A : Option Addr} {l : List ArcN} (h : Spares B x W W') (hA : Arcs W x A n l) (hx : x ≤ B) : Arcs W' x A n l := hA.keep fun p hp => h.cell (by omega) (by omega)
end

/-- The arcs that cross the side, of the first k. -/
abbrev At (l : List ArcN) : Type := { i : Nat // i < l.length }
def crossTo (K : List Bool) (l : List ArcN) : Nat → List (At l)
  | 0 => []
  | k + 1 => crossTo K l k ++ (if h : k < l.length then (if inS K l[k].frm = inS K l[k].to then [] else [⟨k, h⟩]) else [])
theorem crossTo_len (K : List Bool) (l : List ArcN) : ∀ k, (crossTo K l k).length ≤ k
  | 0 => by simp [crossTo]
  | k + 1 => by
    have := crossTo_len K l k
    simp only [crossTo, List.length_append]
    split
    · split <;> simp <;> omega
    · simp; omega
theorem crossTo_skip {K : List Bool} {l : List ArcN} {k : Nat} {a : ArcN} (h : l[k]? = some a) (e : inS K a.frm = inS K a.to) : crossTo K l (k + 1) = crossTo K l k := by
  obtain ⟨hk, rfl⟩ := List.getElem?_eq_some_iff.1 h
  simp only [crossTo, dif_pos hk, if_pos e, List.append_nil]
theorem crossTo_take {K : List Bool} {l : List ArcN} {k : Nat} {a : ArcN} (h : l[k]? = some a) (e : inS K a.frm ≠ inS K a.to) : crossTo K l (k + 1) = crossTo K l k ++ [⟨k, (List.getElem?_eq_some_iff.1 h).1⟩] := by
  obtain ⟨hk, rfl⟩ := List.getElem?_eq_some_iff.1 h
  simp only [crossTo, dif_pos hk, if_neg e]
/-- What the loop is told: the arc's number, and whether it goes out. -/
def tell (K : List Bool) (l : List ArcN) (x : At l) : Array Value := #[.int .i64 (x.1 : Int), .bool (inS K (l[x.1]'x.2).frm)]
theorem tell_at {K : List Bool} {l : List ArcN} {k : Nat} {a : ArcN} (h : l[k]? = some a) : tell K l ⟨k, (List.getElem?_eq_some_iff.1 h).1⟩ = #[.int .i64 (k : Int), .bool (inS K a.frm)] := by
  obtain ⟨hk, rfl⟩ := List.getElem?_eq_some_iff.1 h
  rfl


set_option maxHeartbeats 4000000 in
theorem crossing_is (N S T : Int) (A : Option Addr) (n c : Nat) (AK : Option Addr) (m cK : Nat) (w : World) :
    Calls Try.prog 35 #[.agg #[.int .i64 N, .int .i64 S, .int .i64 T, .slice A n c], .slice AK m cK] w fun e w' =>
      e = .returned (.func (.func 75) #[] #[.pointer (some ⟨w.heap.size, 0, none⟩), .pointer (some ⟨w.heap.size + 1, 0, none⟩)]) ∧
        w' = (w.alloc (.cells #[.int .i64 N, .int .i64 S, .int .i64 T, .slice A n c] 24)).alloc (.cells #[.slice AK m cK] 26) := by
  go_enter Try.func35, Try.ntmps35
  go_wp2_with fail
  go_ret
  exact ⟨rfl, rfl⟩

set_option maxHeartbeats 4000000 in
theorem crossing1_in (d : Nat) (hd : 1 ≤ d) (z B x bN bS N : Nat) (S T : Int) (A : Option Addr) (n c : Nat) (l : List ArcN) (AK : Option Addr) (m cK : Nat) (K : List Bool)
    (J Jx : List (At l) → World → Prop) (W : World) (hJ : AbidesFrom W.heap.size J) (hB : B ≤ W.heap.size) (hxB : x ≤ B) (hn : n ≤ 1000000) (hmN : m = N) (hE : EndsIn N l)
    (hY : ∀ pre y W1, J pre W1 → pre.length < l.length → YieldAt Fence.wide (d - 1) Try.prog z (tell K l y) W1 fun e W' =>
      (e = .returned (.bool true) ∧ J (pre ++ [y]) W' ∧ Spares B x W1 W') ∨ (e = .returned (.bool false) ∧ Jx (pre ++ [y]) W'))
    (hN : Blk W bN 24 #[.int .i64 N, .int .i64 S, .int .i64 T, .slice A n c]) (hS : Blk W bS 26 #[.slice AK m cK]) (hSB : bS < B) (hSx : bS ≠ x)
    (hA : Arcs W x A n l) (hK : Bools W x AK m K) (h0 : J [] W) :
    CallsIn Fence.wide d Try.prog 75 #[.func (.yield z) #[] #[], .pointer (some ⟨bN, 0, none⟩), .pointer (some ⟨bS, 0, none⟩)] W fun e W' => (∃ v, e = .returned v) ∧
      ((∃ ys, ys = crossTo K l n ∧ J ys W') ∨ (∃ pre, (∃ k, k ≤ n ∧ pre = crossTo K l k) ∧ Jx pre W')) := by
  have hln := hA.len
  have hlk := hK.len
  refine callsIn_of_wp Try.func75 rfl trivial ?_ rfl
  simp only [Try.ntmps75, List.size_toArray, List.length_cons, List.length_nil, Nat.reduceAdd, Nat.reduceSub, Array.replicate_succ, Array.replicate_zero, List.push_toArray, List.append_toArray, List.nil_append, List.cons_append]
  obtain ⟨x0, x1, x2, x3⟩ := hN.at4
  have xs := hS.cell 0
  simp only [List.getElem?_toArray, List.getElem?_cons_zero] at xs
  gi_wp2
  gi_loopw [9] (fun i wr => ∃ k : Nat, k ≤ n ∧ i = .int .i64 k ∧ J (crossTo K l k) wr ∧ Spares B x W wr) (fun i _ => n - (intOf i).toNat)
  case atStart => exact ⟨0, Nat.zero_le _, rfl, h0, Spares.refl⟩
  case round =>
    obtain ⟨k, hk, rfl, hJs, hsp⟩ := hrel
    by_cases hlt : k < n
    · obtain ⟨ba, oa, ⟨f, t, z'⟩, rfl, hba, hla, c0, c1, c2⟩ := arcs_at (hsp.arcs hA hxB) hlt
      have he := hE _ (mem_at hla)
      simp only at he c0 c1 c2
      obtain ⟨f, rfl⟩ := Int.eq_ofNat_of_zero_le he.1
      obtain ⟨t, rfl⟩ := Int.eq_ofNat_of_zero_le he.2.2.1
      obtain ⟨bk, ok, rfl, hbk, -⟩ := side_at hK (k := f) (by omega)
      obtain ⟨_, _, hA1, _, s1⟩ := side_at hK (k := f) (by omega)
      injection hA1 with hA1
      injection hA1 with hA1 hA2 _
      subst hA1; subst hA2
      obtain ⟨_, _, hA1, _, s2⟩ := side_at hK (k := t) (by omega)
      injection hA1 with hA1
      injection hA1 with hA1 hA2 _
      subst hA1; subst hA2
      have s1' := (hsp.cell (p := ⟨bk, ok + f, none⟩) (by simp; omega) (by simp; omega)).trans s1
      have s2' := (hsp.cell (p := ⟨bk, ok + t, none⟩) (by simp; omega) (by simp; omega)).trans s2
      have xs' := (hsp.cell (p := ⟨bS, 0, none⟩) hSB hSx).trans xs
      have hsz := hsp.size
      have hSw : bS < wr.heap.size := by omega
      have hkw : bk < wr.heap.size := by omega
      have HL := Lib.hid hla
      clear hla
      gi_wp2
      have E1 : Blk (wr.alloc (.cells #[.int .i64 (f : Int), .int .i64 (t : Int), .int .i64 z'] 64)) wr.heap.size 64 #[.int .i64 (f : Int), .int .i64 (t : Int), .int .i64 z'] := Blk.new rfl
      have e0 := E1.cell 0; have e1 := E1.cell 1
      simp only [List.getElem?_toArray, List.getElem?_cons_zero, List.getElem?_cons_succ] at e0 e1
      have tl := tell_at (K := K) HL.out
      obtain ⟨vf, hvf⟩ : ∃ b, inS K (f : Int) = b := ⟨_, rfl⟩
      obtain ⟨vt, hvt⟩ : ∃ b, inS K (t : Int) = b := ⟨_, rfl⟩
      rw [hvf] at s1' tl
      rw [hvt] at s2'
      have HVF := Lib.hid hvf; have HVT := Lib.hid hvt; have TL := Lib.hid tl
      clear hvf hvt tl s1 s2
      by_cases hsame : vf = vt
      · subst hsame
        cases vf
        all_goals
          refine wpIn_region_split 19 rfl rfl (by kernel_rfl) (by kernel_rfl) (by kernel_rfl) ?_
          simp only [List.take_succ_cons, List.take_zero, List.drop_succ_cons, List.drop_zero]
          repeat (gi_big_quiet_step (fail))
          refine wpQuietIn_nil ?_
          rintro _ ⟨nq, rfl⟩
          gi_wp2
          refine ⟨fun _ _ => trivial, ?_⟩
          gi_wp2
          go_roundw
          case rel =>
            refine ⟨k + 1, by omega, by go_num, ?_, ?_⟩
            · rw [crossTo_skip HL.out (by rw [HVF.out, HVT.out])]
              exact hJ _ _ _ _ (hJ _ _ _ _ hJs (World.grownBy_alloc wr _ none) (by simp)) (grown_drewN _ _) (by simp)
            · exact hsp.trans (Spares.below (below_drewN' (below_alloc _) _) (by omega))
          case measure => simp [intOf]; omega
      · cases vf <;> cases vt
        case neg.false.false => exact absurd rfl hsame
        case neg.true.true => exact absurd rfl hsame
        all_goals
          refine wpIn_region_split 19 rfl rfl (by kernel_rfl) (by kernel_rfl) (by kernel_rfl) ?_
          simp only [List.take_succ_cons, List.take_zero, List.drop_succ_cons, List.drop_zero]
          repeat (gi_big_quiet_step (fail))
          refine wpQuietIn_nil ?_
          rintro _ ⟨nq, rfl⟩
          have J1 := hJ _ _ _ _ (hJ _ _ _ _ hJs (World.grownBy_alloc wr (.cells #[.int .i64 (f : Int), .int .i64 (t : Int), .int .i64 z'] 64) none) (by simp)) (grown_drewN _ nq) (by simp)
          obtain ⟨fn, tmps, assign, body, hy, hR⟩ := hY _ ⟨k, (List.getElem?_eq_some_iff.1 HL.out).1⟩ _ J1 (by have := crossTo_len K l k; omega)
          rw [TL.out] at hy
          gi_wp2
          refine hR.mono ?_
          rintro e W3 (⟨rfl, hJ3, hk3⟩ | ⟨rfl, hJx3⟩)
          · gi_wp2
            go_roundw
            case rel =>
              refine ⟨k + 1, by omega, by go_num, ?_, ?_⟩
              · rw [crossTo_take HL.out (by rw [HVF.out, HVT.out]; decide)]
                exact hJ3
              · exact hsp.trans ((Spares.below (below_drewN' (below_alloc _) _) (by omega)).trans hk3)
            case measure => simp [intOf]; omega
          · gi_wp2
            refine bodyPost_ret (results_none rfl _ _ _) rfl ?_
            exact ⟨⟨_, rfl⟩, .inr ⟨_, ⟨k + 1, by omega, (crossTo_take HL.out (by rw [HVF.out, HVT.out]; decide)).symm⟩, hJx3⟩⟩
    · obtain rfl : k = n := by omega
      gi_wp2
      go_end0
      exact ⟨⟨_, rfl⟩, .inl ⟨_, rfl, hJs⟩⟩

/-- The value that crossing answers, as a loop's. -/
theorem crossing_stops (d : Nat) (hd : 1 ≤ d) (x bN bS N : Nat) (S T : Int) (A : Option Addr) (n c : Nat) (l : List ArcN) (AK : Option Addr) (m cK : Nat) (K : List Bool) (w : World) (hn : n ≤ 1000000) (hmN : m = N) (hE : EndsIn N l)
    (hN : Blk w bN 24 #[.int .i64 N, .int .i64 S, .int .i64 T, .slice A n c]) (hS : Blk w bS 26 #[.slice AK m cK]) (hSx : bS ≠ x)
    (hx : x ≤ w.heap.size) (hA : Arcs w x A n l) (hK : Bools w x AK m K) :
    SeqStopsK Fence.wide d Try.prog 75 #[.pointer (some ⟨bN, 0, none⟩), .pointer (some ⟨bS, 0, none⟩)] (tell K l) (Spares w.heap.size x) (fun ys => ys = crossTo K l n) (fun pre => ∃ k, k ≤ n ∧ pre = crossTo K l k) l.length w :=
  fun z J Jx W hW hJ _ hY h0 => crossing1_in d hd z w.heap.size x bN bS N S T A n c l AK m cK K J Jx W hJ hW.size hx hn hmN hE hY (hN.below hW hN.lt) (hS.below hW hS.lt) hS.lt hSx (hA.below (hW.mono hx)) (hK.below (hW.mono hx)) h0


end Go.Proofs.Ytfcjmhihheeifaa

/-! Layer 4: Cap. -/
namespace Go.Proofs.Ytfcjmhihheeifaa
open Go.RowKit Go.Shelf
set_option maxRecDepth 100000
attribute [local go_sem] Oper.semAt_some

/-- The capacity so far. -/
def capW (K : List Bool) (l : List ArcN) (pre : List (At l)) : Int := pre.foldl (fun s x => if inS K (l[x.1]'x.2).frm then wrap64 (s + (l[x.1]'x.2).cap) else s) 0
theorem capW_snoc (K : List Bool) (l : List ArcN) (pre : List (At l)) (x : At l) : capW K l (pre ++ [x]) = if inS K (l[x.1]'x.2).frm then wrap64 (capW K l pre + (l[x.1]'x.2).cap) else capW K l pre := by simp [capW]
theorem capW_to {K : List Bool} {l : List ArcN} (h : NonNeg l) (ht : total l ≤ maxSum) : ∀ k, k ≤ l.length → capW K l (crossTo K l k) = capX K (l.take k)
  | 0, _ => by simp [crossTo, capW, capX]
  | k + 1, hk => by
    have ih := capW_to (K := K) h ht k (by omega)
    have ha : l[k]? = some l[k] := List.getElem?_eq_getElem (by omega)
    have hb := capX_bound (K := K) (l := l.take (k + 1)) fun b hb => h b (List.mem_of_mem_take hb)
    have h1 := total_take h (k + 1)
    rw [capX_take ha] at hb ⊢
    by_cases e : inS K l[k].frm = inS K l[k].to
    · rw [crossTo_skip ha e, ih]
      simp [outB, e]
    · rw [crossTo_take ha e, capW_snoc, ih]
      cases hf : inS K l[k].frm
      · simp [outB, hf]
      · have ho : outB K l[k] = true := by
          rw [hf] at e
          simp only [outB, hf, Bool.true_and]
          cases ht : inS K l[k].to
          · rfl
          · rw [ht] at e; exact absurd rfl e
        rw [ho] at hb ⊢
        simp only [if_true] at hb ⊢
        unfold maxSum at ht
        exact IntWalk.wrap64_in _ (by omega)

set_option maxHeartbeats 1000000 in
theorem cap_bad (N : Nat) (S T : Int) (A : Option Addr) (n c : Nat) (l : List ArcN) (AK : Option Addr) (m cK : Nat) (K : List Bool) (w : World) (hA : Arcs w w.heap.size A n l) (hck : checkF N S T l = 0)
    (hK : Bools w w.heap.size AK m K) (hk : ¬ IsCut N S T K) :
    Calls Try.prog 12 #[.agg #[.int .i64 N, .int .i64 S, .int .i64 T, .slice A n c], .slice AK m cK] w fun e w' => e = .returned (.tuple #[.int .i64 0, .int .i64 2]) ∧ Below w.heap.size w w' := by
  go_enter Try.func12, Try.ntmps12
  go_wp2_with fail
  refine (right_is N S T A n c l AK m cK K false _ (hA.onAlloc _) hck (hK.onAlloc _) (by simp; exact hk)).mono ?_
  rintro e w1 ⟨rfl, B1⟩
  go_wp2_with fail
  go_ret2
  exact ⟨rfl, below_step (below_alloc _) B1⟩

set_option maxHeartbeats 4000000 in
theorem cap_good (N : Nat) (S T : Int) (A : Option Addr) (n c : Nat) (l : List ArcN) (AK : Option Addr) (m cK : Nat) (K : List Bool) (w : World) (hA : Arcs w w.heap.size A n l) (hck : checkF N S T l = 0)
    (hK : Bools w w.heap.size AK m K) (hk : IsCut N S T K) :
    Calls Try.prog 12 #[.agg #[.int .i64 N, .int .i64 S, .int .i64 T, .slice A n c], .slice AK m cK] w fun e w' => e = .returned (.tuple #[.int .i64 (capX K l), .int .i64 0]) ∧ Below w.heap.size w w' := by
  have hend := ends_in hck
  have hla := hA.len
  have hlk := hK.len
  obtain ⟨hN2, hN3, hn3, hE, hS0, hS1, hT0, hT1, -, hnn, htot⟩ := hend
  obtain rfl : m = N := by rw [← hlk, hk.len]
  have HC := Lib.hid hck; clear hck hS0 hS1 hT0 hT1
  refine (callsIn_wide (n := 3)).1 ?_
  refine callsIn_of_wp_marks Try.func12 rfl trivial ?_ rfl
  simp only [Try.ntmps12, List.size_toArray, List.length_cons, List.length_nil, Nat.reduceAdd, Nat.reduceSub, Array.replicate_succ, Array.replicate_zero, List.push_toArray, List.append_toArray, List.nil_append, List.cons_append]
  gi_wp2
  refine ⟨trivial, (callsIn_wide.2 (right_is m S T A n c l AK m cK K true _ (hA.onAlloc _) HC.out (hK.onAlloc _) (by simp; exact hk))).mono ?_⟩
  rintro e w1 ⟨rfl, B1⟩
  have K1 : Blk w1 w.heap.size 24 #[.int .i64 m, .int .i64 S, .int .i64 T, .slice A n c] := (Blk.new rfl).below B1 (by simp)
  have Bw := below_step (below_alloc _) B1
  obtain ⟨x0, x1, x2, x3⟩ := K1.at4
  have hz1 := K1.lt
  clear B1
  gi_wp2
  refine ⟨trivial, (callsIn_wide.2 (crossing_is m S T A n c AK m cK _)).mono ?_⟩
  rintro e w2 ⟨rfl, rfl⟩
  gi_wp2
  have B2 : Below w1.heap.size w1 (((w1.alloc (.cells #[.int .i64 0] 2)).alloc (.cells #[.int .i64 m, .int .i64 S, .int .i64 T, .slice A n c] 24)).alloc (.cells #[.slice AK m cK] 26)) := ((below_alloc _).alloc (by simp) _).alloc (by simp; omega) _
  have X2 : Blk (((w1.alloc (.cells #[.int .i64 0] 2)).alloc (.cells #[.int .i64 m, .int .i64 S, .int .i64 T, .slice A n c] 24)).alloc (.cells #[.slice AK m cK] 26)) w1.heap.size 2 #[.int .i64 0] := ((Blk.new rfl).alloc _).alloc _
  have N2 : Blk (((w1.alloc (.cells #[.int .i64 0] 2)).alloc (.cells #[.int .i64 m, .int .i64 S, .int .i64 T, .slice A n c] 24)).alloc (.cells #[.slice AK m cK] 26)) (w1.heap.size + 1) 24 #[.int .i64 m, .int .i64 S, .int .i64 T, .slice A n c] := (Blk.new (by simp)).alloc _
  have S2 : Blk (((w1.alloc (.cells #[.int .i64 0] 2)).alloc (.cells #[.int .i64 m, .int .i64 S, .int .i64 T, .slice A n c] 24)).alloc (.cells #[.slice AK m cK] 26)) (w1.heap.size + 1 + 1) 26 #[.slice AK m cK] := Blk.new (by simp)
  have hsz2 : (((w1.alloc (.cells #[.int .i64 0] 2)).alloc (.cells #[.int .i64 m, .int .i64 S, .int .i64 T, .slice A n c] 24)).alloc (.cells #[.slice AK m cK] 26)).heap.size = w1.heap.size + 3 := by simp
  generalize (((w1.alloc (.cells #[.int .i64 0] 2)).alloc (.cells #[.int .i64 m, .int .i64 S, .int .i64 T, .slice A n c] 24)).alloc (.cells #[.slice AK m cK] 26)) = w2 at *
  have Bw2 := below_step Bw B2
  have HSZ := Lib.hid hsz2; clear hsz2
  have hBs := Bw.size
  have a2 : Arcs w2 w1.heap.size A n l := (hA.below Bw2).more hBs
  have k2 : Bools w2 w1.heap.size AK m K := (hK.below Bw2).more hBs
  have K2 := K1.below B2 K1.lt
  clear x0 x1 x2 x3
  refine wpIn_rangeFunc_ownG rfl (by omega) (gf := 75) (lb := #[.pointer (some ⟨w1.heap.size + 1, 0, none⟩), .pointer (some ⟨w1.heap.size + 1 + 1, 0, none⟩)]) rfl trivial (enters_of Try.func75 (by kernel_rfl) rfl)
    (crossing_stops 2 (by omega) w1.heap.size (w1.heap.size + 1) (w1.heap.size + 1 + 1) m S T A n c l AK m cK K w2 (by omega) rfl hE N2 S2 (by omega) B2.size a2 k2) Spares.trans Spares.b (Below.refl _ _) (fun _ => rfl)
    (fun pre W => (Blk W w1.heap.size 2 #[.int .i64 (capW K l pre)] ∧ Blk W w.heap.size 24 #[.int .i64 m, .int .i64 S, .int .i64 T, .slice A n c]) ∧ Below w.heap.size w W)
    (fun _ _ _ => False)
    (OwnFrom.and (OwnFrom.and (Own.from (blk_own fun pre => #[.int .i64 (capW K l pre)]) _) (Own.from (blk_own fun _ => #[.int .i64 m, .int .i64 S, .int .i64 T, .slice A n c]) _)) (ownFrom_below (Nat.le_refl _) Bw2.size))
    (fun _ _ _ _ _ hs _ _ => hs)
    ⟨⟨X2, K2⟩, Bw2⟩
    (fun x => { tmps := #[.agg #[.int .i64 m, .int .i64 S, .int .i64 T, .slice A n c], .slice AK m cK, .pointer (some ⟨w.heap.size, 0, none⟩), undef, .int .i64 0, .int .i64 0, .pointer (some ⟨w1.heap.size, 0, none⟩), .int .i64 (x.1 : Int), .bool (inS K (l[x.1]'x.2).frm),
      .agg #[.int .i64 m, .int .i64 S, .int .i64 T, .slice A n c], .slice AK m cK, .bool true, .bool false, .agg #[.int .i64 m, .int .i64 S, .int .i64 T, .slice A n c], .slice AK m cK,
      .func (.func 75) #[] #[.pointer (some ⟨w1.heap.size + 1, 0, none⟩), .pointer (some ⟨w1.heap.size + 1 + 1, 0, none⟩)], .int .i64 (x.1 : Int), .bool (inS K (l[x.1]'x.2).frm), undef, undef, undef, undef, undef, undef, undef, undef, undef, undef], defers := [] }) ?assign ?body ?done ?stop
  case assign =>
    intro z y W' Kq hKq
    unfold tell
    gi_wp2
    exact hKq
  case body =>
    rintro z pre ⟨k, hk'⟩ W ⟨⟨X3, K3⟩, B3⟩ _
    clear X2 N2 S2 K1 K2 a2 k2 B2 Bw Bw2
    obtain ⟨ba, oa, a, rfl, hba, hla', c0, c1, c2⟩ := arcs_at (hA.below B3) (k := k) (by omega)
    have hcs := capW_snoc K l pre ⟨k, hk'⟩
    have el : l[k] = a := (List.getElem?_eq_some_iff.1 hla').2
    simp only [el] at hcs ⊢
    have HCS := Lib.hid hcs
    clear hcs hla' el
    obtain ⟨x0, x1, x2, x3⟩ := K3.at4
    have v0 := X3.cell 0
    simp only [List.getElem?_toArray, List.getElem?_cons_zero] at v0
    have f0 := X3.frozen 0
    have hxl := X3.lt
    cases hv : inS K a.frm
    · rw [hv] at HCS
      gi_wp2
      refine ⟨KeepsFrom.refl _ _, Spares.refl, ⟨?_, K3⟩, B3⟩
      rw [HCS.out]
      exact X3
    · rw [hv] at HCS
      gi_wp2
      refine wpIn_region_split 8 rfl rfl (by kernel_rfl) (by kernel_rfl) (by kernel_rfl) ?_
      simp only [List.take_succ_cons, List.take_zero, List.drop_succ_cons, List.drop_zero]
      repeat (gi_big_quiet_step (fail))
      refine wpQuietIn_nil ?_
      rintro _ ⟨nq, rfl⟩
      gi_wp2
      refine ⟨((KeepsOthers.of_grownBy (grown_drewN W nq) (by simp)).trans (KeepsOthers.setCell _ _ _)).from _, (Spares.below (below_drewN' (Below.refl _ _) nq) (Nat.le_refl _)).trans Spares.setCell, ⟨?_, (K3.drewN nq).far (by simp; omega) _⟩, (below_drewN' B3 nq).setCell (by simp; omega) _⟩
      rw [HCS.out, if_pos trivial]
      exact (X3.drewN nq).set 0 _
  case done =>
    rintro D ys W hD rfl ⟨⟨X3, _⟩, B3⟩ hKD
    have v0 := X3.cell 0
    simp only [List.getElem?_toArray, List.getElem?_cons_zero] at v0
    gi_wp2
    refine ⟨by simp, .inl ⟨_, _, rfl, run_takeDeferred hKD, ?_⟩⟩
    refine ⟨_, results_tmp2 rfl _ _ _, ?_, B3.trans (belowK_b (w := w) (Nat.le_refl _) W D _ _ (by have := Bw2.size; omega) hKD rfl rfl)⟩
    rw [capW_to hnn htot n (by omega), List.take_of_length_le (by omega)]
    rfl
  case stop =>
    rintro D c pre W _ _ h _
    exact h.elim

end Go.Proofs.Ytfcjmhihheeifaa

/-! Layer 4: Across. -/
namespace Go.Proofs.Ytfcjmhihheeifaa
open Go.RowKit Go.Shelf
set_option maxRecDepth 100000
attribute [local go_sem] Oper.semAt_some

/-- What has gone across so far. -/
def accW (K : List Bool) (l : List ArcN) (F : List Int) (pre : List (At l)) : Int := pre.foldl (fun s x => if inS K (l[x.1]'x.2).frm then wrap64 (s + (F[x.1]?).getD 0) else wrap64 (s - (F[x.1]?).getD 0)) 0
theorem accW_snoc (K : List Bool) (l : List ArcN) (F : List Int) (pre : List (At l)) (x : At l) : accW K l F (pre ++ [x]) = if inS K (l[x.1]'x.2).frm then wrap64 (accW K l F pre + (F[x.1]?).getD 0) else wrap64 (accW K l F pre - (F[x.1]?).getD 0) := by simp [accW]
theorem accW_to {K : List Bool} {l : List ArcN} {F : List Int} (h : FlowIn l F) (ht : total l ≤ maxSum) : ∀ k, k ≤ l.length → accW K l F (crossTo K l k) = accX K (l.take k) (F.take k)
  | 0, _ => by simp [crossTo, accW, accX]
  | k + 1, hk => by
    have ih := accW_to (K := K) h ht k (by omega)
    have ha : l[k]? = some l[k] := List.getElem?_eq_getElem (by omega)
    have hx : F[k]? = some (F[k]'(by rw [h.len]; omega)) := List.getElem?_eq_getElem (by rw [h.len]; omega)
    have hb := accX_bound (K := K) (h.take (k + 1))
    have h1 := total_take h.nonneg (k + 1)
    have hg : (F[k]?).getD 0 = F[k]'(by rw [h.len]; omega) := by rw [hx]; rfl
    rw [accX_take h.len ha hx] at hb ⊢
    by_cases e : inS K l[k].frm = inS K l[k].to
    · rw [crossTo_skip ha e, ih]
      simp [outB, innB, e]
    · rw [crossTo_take ha e, accW_snoc, ih]
      unfold maxSum at ht
      cases hf : inS K l[k].frm
      · have ho : outB K l[k] = false ∧ innB K l[k] = true := by
          rw [hf] at e
          simp only [outB, innB, hf]
          cases ht : inS K l[k].to
          · rw [ht] at e; exact absurd rfl e
          · exact ⟨rfl, rfl⟩
        rw [ho.1, ho.2] at hb ⊢
        simp only [if_true, Bool.false_eq_true, if_false, hg] at hb ⊢
        rw [IntWalk.wrap64_in _ (by omega)]
        omega
      · have ho : outB K l[k] = true ∧ innB K l[k] = false := by
          rw [hf] at e
          simp only [outB, innB, hf]
          cases ht : inS K l[k].to
          · exact ⟨rfl, rfl⟩
          · rw [ht] at e; exact absurd rfl e
        rw [ho.1, ho.2] at hb ⊢
        simp only [if_true, Bool.false_eq_true, if_false, hg] at hb ⊢
        rw [IntWalk.wrap64_in _ (by omega)]
        omega



end Go.Proofs.Ytfcjmhihheeifaa

/-! Layer 4: Tight. -/
namespace Go.Proofs.Ytfcjmhihheeifaa
open Go.RowKit Go.Shelf
set_option maxRecDepth 100000
attribute [local go_sem] Oper.semAt_some

/-- Is an arc as tight cuts have it? -/
def Fine (K : List Bool) (l : List ArcN) (F : List Int) (y : At l) : Prop := if inS K (l[y.1]'y.2).frm then (F[y.1]?).getD 0 = (l[y.1]'y.2).cap else (F[y.1]?).getD 0 = 0
theorem mem_cross {K : List Bool} {l : List ArcN} {y : At l} : ∀ {k : Nat}, y ∈ crossTo K l k ↔ y.1 < k ∧ inS K (l[y.1]'y.2).frm ≠ inS K (l[y.1]'y.2).to
  | 0 => by simp [crossTo]
  | k + 1 => by
    have ih := mem_cross (K := K) (l := l) (y := y) (k := k)
    obtain ⟨i, hi⟩ := y
    simp only [crossTo, List.mem_append, ih]
    constructor
    · rintro (⟨h1, h2⟩ | h)
      · exact ⟨by omega, h2⟩
      · split at h
        · rename_i hk
          split at h
          · cases h
          · rename_i hne
            obtain h := List.mem_singleton.1 h
            injection h with h
            subst h
            exact ⟨by omega, hne⟩
        · cases h
    · rintro ⟨h1, h2⟩
      by_cases e : i = k
      · subst e
        right
        rw [dif_pos hi, if_neg h2]
        simp
      · exact .inl ⟨by omega, h2⟩
theorem tight_fine {K : List Bool} {l : List ArcN} {F : List Int} {n : Nat} (hn : l.length = n) (hl : F.length = l.length) : TightFor K l F ↔ ∀ y ∈ crossTo K l n, Fine K l F y := by
  constructor
  · rintro h ⟨i, hi⟩ hy
    have hne := (mem_cross.1 hy).2
    simp only at hne
    have ha : l[i]? = some l[i] := List.getElem?_eq_getElem hi
    have hx : F[i]? = some (F[i]'(by omega)) := List.getElem?_eq_getElem (by omega)
    have := h i _ _ ha hx
    unfold Fine
    simp only [hx, Option.getD_some]
    unfold outB innB at this
    split
    · rename_i hf
      rw [hf] at hne this
      exact this.1 (by cases ht : inS K l[i].to <;> simp_all)
    · rename_i hf
      rw [Bool.not_eq_true] at hf
      rw [hf] at hne this
      exact this.2 (by cases ht : inS K l[i].to <;> simp_all)
  · intro h i a x ha hx
    obtain ⟨hi, rfl⟩ := List.getElem?_eq_some_iff.1 ha
    have hc := fun hne => h ⟨i, hi⟩ (mem_cross.2 ⟨by show i < n; omega, hne⟩)
    unfold Fine at hc
    simp only [hx, Option.getD_some] at hc
    unfold outB innB
    constructor
    · intro ho
      simp only [Bool.and_eq_true, Bool.not_eq_true'] at ho
      have := hc (by rw [ho.1, ho.2]; decide)
      rwa [if_pos ho.1] at this
    · intro ho
      simp only [Bool.and_eq_true, Bool.not_eq_true'] at ho
      have := hc (by rw [ho.1, ho.2]; decide)
      rwa [if_neg (by rw [ho.1]; decide)] at this

set_option maxHeartbeats 1000000 in
theorem tight_bad (N : Nat) (S T : Int) (A : Option Addr) (n c : Nat) (l : List ArcN) (AF : Option Addr) (p cF : Nat) (AK : Option Addr) (m cK : Nat) (K : List Bool) (w : World) (hA : Arcs w w.heap.size A n l) (hck : checkF N S T l = 0)
    (hK : Bools w w.heap.size AK m K) (hk : ¬ IsCut N S T K) :
    Calls Try.prog 13 #[.agg #[.int .i64 N, .int .i64 S, .int .i64 T, .slice A n c], .slice AF p cF, .slice AK m cK] w fun e w' => e = .returned (.bool false) ∧ Below w.heap.size w w' := by
  go_enter Try.func13, Try.ntmps13
  go_wp2_with fail
  refine (right_is N S T A n c l AK m cK K false _ (((hA.onAlloc _).onAlloc _).onAlloc _) hck (((hK.onAlloc _).onAlloc _).onAlloc _) (by simp; exact hk)).mono ?_
  rintro e w1 ⟨rfl, B1⟩
  have R1 : Blk w1 (w.heap.size + 1 + 1) 4 #[.bool false] := (Blk.new (by simp)).below B1 (by simp)
  have Bw := below_step (((below_alloc _).alloc (by simp) _).alloc (by simp; omega) _) B1
  have rf := R1.frozen 0
  have r0 := R1.cell 0
  have hz := R1.lt
  go_wp2_with fail
  have r1 := (R1.set 0 (.bool false)).cell 0
  simp at r1
  refine bodyPost_ret (v := .bool false) (by simp [results, Try.results13, go_sem, r1]) rfl ?_
  exact ⟨rfl, Bw.setCell (by simp; omega) _⟩

set_option maxHeartbeats 4000000 in
theorem tight_is (N : Nat) (S T : Int) (A : Option Addr) (n c : Nat) (l : List ArcN) (AF : Option Addr) (p cF : Nat) (F : List Int) (AK : Option Addr) (m cK : Nat) (K : List Bool) (r : Bool) (w : World) (hA : Arcs w w.heap.size A n l) (hck : checkF N S T l = 0)
    (hF : Ints w w.heap.size AF p F) (hfl : FlowIn l F) (hK : Bools w w.heap.size AK m K) (hk : IsCut N S T K) (hr : r = true ↔ TightFor K l F) :
    Calls Try.prog 13 #[.agg #[.int .i64 N, .int .i64 S, .int .i64 T, .slice A n c], .slice AF p cF, .slice AK m cK] w fun e w' => e = .returned (.bool r) ∧ Below w.heap.size w w' := by
  have hend := ends_in hck
  have hla := hA.len
  have hlk := hK.len
  have hlf := hF.len
  obtain ⟨hN2, hN3, hn3, hE, hS0, hS1, hT0, hT1, -, hnn, htot⟩ := hend
  obtain rfl : m = N := by rw [← hlk, hk.len]
  obtain rfl : p = n := by rw [← hlf, hfl.len, hla]
  have hno : ¬ TightFor K l F → false = r := fun h => by
    cases r with
    | false => rfl
    | true => exact absurd (hr.1 rfl) h
  have HN := Lib.hid hno; have HY := Lib.hid hr.2
  have HC := Lib.hid hck; clear hck hS0 hS1 hT0 hT1 hr hno
  refine (callsIn_wide (n := 3)).1 ?_
  refine callsIn_of_wp_marks Try.func13 rfl trivial ?_ rfl
  simp only [Try.ntmps13, List.size_toArray, List.length_cons, List.length_nil, Nat.reduceAdd, Nat.reduceSub, Array.replicate_succ, Array.replicate_zero, List.push_toArray, List.append_toArray, List.nil_append, List.cons_append]
  gi_wp2
  refine ⟨trivial, (callsIn_wide.2 (right_is m S T A p c l AK m cK K true _ (((hA.onAlloc _).onAlloc _).onAlloc _) HC.out (((hK.onAlloc _).onAlloc _).onAlloc _) (by simp; exact hk))).mono ?_⟩
  rintro e w0 ⟨rfl, B0⟩
  have K0 : Blk w0 w.heap.size 24 #[.int .i64 m, .int .i64 S, .int .i64 T, .slice A p c] := (((Blk.new rfl).alloc _).alloc _).below B0 (by simp <;> omega)
  have G0 : Blk w0 (w.heap.size + 1) 25 #[.slice AF p cF] := ((Blk.new (by simp)).alloc _).below B0 (by simp <;> omega)
  have R0 : Blk w0 (w.heap.size + 1 + 1) 4 #[.bool false] := (Blk.new (by simp)).below B0 (by simp <;> omega)
  have Bw0 := below_step (((below_alloc _).alloc (by simp) _).alloc (by simp; omega) _) B0
  have a0 := (((hA.onAlloc (.cells #[.int .i64 m, .int .i64 S, .int .i64 T, .slice A p c] 24)).onAlloc (.cells #[.slice AF p cF] 25)).onAlloc (.cells #[.bool false] 4)).on B0
  have F0 := (((hF.onAlloc (.cells #[.int .i64 m, .int .i64 S, .int .i64 T, .slice A p c] 24)).onAlloc (.cells #[.slice AF p cF] 25)).onAlloc (.cells #[.bool false] 4)).on B0
  obtain ⟨x0, x1, x2, x3⟩ := K0.at4
  have g0 := G0.cell 0
  simp only [List.getElem?_toArray, List.getElem?_cons_zero] at g0
  have hz1 := K0.lt
  have hz2 := G0.lt
  clear B0
  gi_wp2
  refine ⟨trivial, (callsIn_wide.2 (flowIn_any m S T A p c l AF p cF F true _ a0 (by omega) HC.out F0 (by omega) (by simp; exact hfl))).mono ?_⟩
  rintro e w1 ⟨rfl, B1⟩
  have K1 := K0.below B1 K0.lt
  have G1 := G0.below B1 G0.lt
  have R1 := R0.below B1 R0.lt
  have Bw := below_step Bw0 B1
  clear x0 x1 x2 x3 g0 hz1 hz2 K0 G0 R0 Bw0 B1 a0 F0
  obtain ⟨x0, x1, x2, x3⟩ := K1.at4
  have g0 := G1.cell 0
  simp only [List.getElem?_toArray, List.getElem?_cons_zero] at g0
  have hz1 := K1.lt
  have hz2 := G1.lt
  have hz3 := R1.lt
  gi_wp2
  refine ⟨trivial, (callsIn_wide.2 (crossing_is m S T A p c AK m cK _)).mono ?_⟩
  rintro e w2 ⟨rfl, rfl⟩
  gi_wp2
  have B2 : Below w1.heap.size w1 ((w1.alloc (.cells #[.int .i64 m, .int .i64 S, .int .i64 T, .slice A p c] 24)).alloc (.cells #[.slice AK m cK] 26)) := (below_alloc _).alloc (by simp) _
  have N2 : Blk ((w1.alloc (.cells #[.int .i64 m, .int .i64 S, .int .i64 T, .slice A p c] 24)).alloc (.cells #[.slice AK m cK] 26)) w1.heap.size 24 #[.int .i64 m, .int .i64 S, .int .i64 T, .slice A p c] := (Blk.new rfl).alloc _
  have S2 : Blk ((w1.alloc (.cells #[.int .i64 m, .int .i64 S, .int .i64 T, .slice A p c] 24)).alloc (.cells #[.slice AK m cK] 26)) (w1.heap.size + 1) 26 #[.slice AK m cK] := Blk.new (by simp)
  generalize ((w1.alloc (.cells #[.int .i64 m, .int .i64 S, .int .i64 T, .slice A p c] 24)).alloc (.cells #[.slice AK m cK] 26)) = w2 at *
  have Bw2 := below_step Bw B2
  have hBs := Bw.size
  have a2 : Arcs w2 w1.heap.size A p l := (hA.below Bw2).more hBs
  have k2 : Bools w2 w1.heap.size AK m K := (hK.below Bw2).more hBs
  have G2 := G1.below B2 G1.lt
  have K2 := K1.below B2 K1.lt
  have R2 := R1.below B2 R1.lt
  clear x0 x1 x2 x3 g0
  refine wpIn_rangeFunc_ownG rfl (by omega) (gf := 75) (lb := #[.pointer (some ⟨w1.heap.size, 0, none⟩), .pointer (some ⟨w1.heap.size + 1, 0, none⟩)]) rfl trivial (enters_of Try.func75 (by kernel_rfl) rfl)
    (crossing_stops 2 (by omega) w1.heap.size w1.heap.size (w1.heap.size + 1) m S T A p c l AK m cK K w2 (by omega) rfl hE N2 S2 (by omega) B2.size a2 k2) Spares.trans Spares.b (Below.refl _ _) (fun _ => rfl)
    (fun pre W => ((∀ y ∈ pre, Fine K l F y) ∧ Blk W (w.heap.size + 1 + 1) 4 #[.bool false]) ∧ (Blk W w.heap.size 24 #[.int .i64 m, .int .i64 S, .int .i64 T, .slice A p c] ∧ Blk W (w.heap.size + 1) 25 #[.slice AF p cF]) ∧ Below w.heap.size w W)
    (fun cd pre W => ((cd = .ret ∧ ∃ y ∈ pre, ¬ Fine K l F y) ∧ Blk W (w.heap.size + 1 + 1) 4 #[.bool false]) ∧ Below w.heap.size w W)
    (OwnFrom.and (OwnFrom.and (ownFrom_pure _ _) (Own.from (blk_own fun _ => #[.bool false]) _)) (OwnFrom.and (OwnFrom.and (Own.from (blk_own fun _ => #[.int .i64 m, .int .i64 S, .int .i64 T, .slice A p c]) _) (Own.from (blk_own fun _ => #[.slice AF p cF]) _)) (ownFrom_below (Nat.le_refl _) Bw2.size)))
    (fun cd => OwnFrom.and (OwnFrom.and (ownFrom_pure _ _) (Own.from (blk_own fun _ => #[.bool false]) _)) (ownFrom_below (Nat.le_refl _) Bw2.size))
    ⟨⟨by simp, R2⟩, ⟨K2, G2⟩, Bw2⟩
    (fun x => { tmps := #[.agg #[.int .i64 m, .int .i64 S, .int .i64 T, .slice A p c], .slice AF p cF, .slice AK m cK, .pointer (some ⟨w.heap.size, 0, none⟩), .pointer (some ⟨w.heap.size + 1, 0, none⟩), undef, .pointer (some ⟨w.heap.size + 1 + 1, 0, none⟩), .int .i64 (x.1 : Int), .bool (inS K (l[x.1]'x.2).frm),
      .agg #[.int .i64 m, .int .i64 S, .int .i64 T, .slice A p c], .slice AK m cK, .bool true, .bool false, .bool false, .agg #[.int .i64 m, .int .i64 S, .int .i64 T, .slice A p c], .slice AF p cF, .bool true, .bool false, .bool false, .agg #[.int .i64 m, .int .i64 S, .int .i64 T, .slice A p c], .slice AK m cK,
      .func (.func 75) #[] #[.pointer (some ⟨w1.heap.size, 0, none⟩), .pointer (some ⟨w1.heap.size + 1, 0, none⟩)], .int .i64 (x.1 : Int), .bool (inS K (l[x.1]'x.2).frm), undef, undef, undef, undef, undef, undef, undef, undef, undef, undef, undef, undef, undef, undef, undef, undef, undef, undef, undef, undef, undef, undef, undef, undef, undef], defers := [] }) ?assign ?body ?done ?stop
  case assign =>
    intro z y W' Kq hKq
    unfold tell
    gi_wp2
    exact hKq
  case body =>
    rintro z pre ⟨k, hk'⟩ W ⟨⟨hp, R3⟩, ⟨K3, G3⟩, B3⟩ _
    clear N2 S2 K1 G1 R1 G2 K2 R2 a2 k2 B2 Bw Bw2
    obtain ⟨ba, oa, a, rfl, hba, hla', c0, c1, c2⟩ := arcs_at (hA.below B3) (k := k) (by omega)
    obtain ⟨bf, of, x, rfl, hbf, hx, cx⟩ := intl_at (hF.below B3) (k := k) (by omega)
    have hxe := hfl.ent k a x hla' hx
    have hfi : Fine K l F ⟨k, hk'⟩ ↔ if inS K a.frm then x = a.cap else x = 0 := by
      have el : l[k] = a := (List.getElem?_eq_some_iff.1 hla').2
      unfold Fine
      simp only [hx, el, Option.getD_some]
    have el : l[k] = a := (List.getElem?_eq_some_iff.1 hla').2
    simp only [el]
    have HFI := Lib.hid hfi; have HP := Lib.hid hp
    clear hfi hp hla' hx el
    obtain ⟨x0, x1, x2, x3⟩ := K3.at4
    have g0 := G3.cell 0
    have r0 := R3.cell 0
    simp only [List.getElem?_toArray, List.getElem?_cons_zero] at g0 r0
    have rf := R3.frozen 0
    have hz1 := R3.lt
    have hz2 := G3.lt
    have go : ∀ (act : Act) (nq : Nat), Fine K l F ⟨k, hk'⟩ → ownPostG w2.heap.size (Spares w2.heap.size w1.heap.size) (fun pre W => ((∀ y ∈ pre, Fine K l F y) ∧ Blk W (w.heap.size + 1 + 1) 4 #[.bool false]) ∧ (Blk W w.heap.size 24 #[.int .i64 m, .int .i64 S, .int .i64 T, .slice (some ⟨ba, oa, none⟩) p c] ∧ Blk W (w.heap.size + 1) 25 #[.slice (some ⟨bf, of, none⟩) p cF]) ∧ Below w.heap.size w W)
        (fun cd pre W => ((cd = .ret ∧ ∃ y ∈ pre, ¬ Fine K l F y) ∧ Blk W (w.heap.size + 1 + 1) 4 #[.bool false]) ∧ Below w.heap.size w W) (pre ++ [⟨k, hk'⟩]) W .normal act (W.drewN nq) := fun act nq hf =>
      ⟨(KeepsOthers.of_grownBy (grown_drewN W nq) (by simp)).from _, Spares.below (below_drewN' (Below.refl _ _) nq) (Nat.le_refl _), ⟨fun y hy => by
        rcases List.mem_append.1 hy with hy | hy
        · exact HP.out y hy
        · obtain rfl := List.mem_singleton.1 hy; exact hf, R3.drewN nq⟩, ⟨K3.drewN nq, G3.drewN nq⟩, below_drewN' B3 nq⟩
    have stopped : ∀ (act : Act) (nq : Nat), ¬ Fine K l F ⟨k, hk'⟩ → ownPostG w2.heap.size (Spares w2.heap.size w1.heap.size) (fun pre W => ((∀ y ∈ pre, Fine K l F y) ∧ Blk W (w.heap.size + 1 + 1) 4 #[.bool false]) ∧ (Blk W w.heap.size 24 #[.int .i64 m, .int .i64 S, .int .i64 T, .slice (some ⟨ba, oa, none⟩) p c] ∧ Blk W (w.heap.size + 1) 25 #[.slice (some ⟨bf, of, none⟩) p cF]) ∧ Below w.heap.size w W)
        (fun cd pre W => ((cd = .ret ∧ ∃ y ∈ pre, ¬ Fine K l F y) ∧ Blk W (w.heap.size + 1 + 1) 4 #[.bool false]) ∧ Below w.heap.size w W) (pre ++ [⟨k, hk'⟩]) W .ret act ((W.drewN nq).setCell ⟨w.heap.size + 1 + 1, 0, none⟩ (.bool false)) := fun act nq hf =>
      ⟨((KeepsOthers.of_grownBy (grown_drewN W nq) (by simp)).trans (KeepsOthers.setCell _ _ _)).from _, ⟨⟨rfl, _, List.mem_append_right _ (List.mem_singleton.2 rfl), hf⟩, (R3.drewN nq).set 0 _⟩, (below_drewN' B3 nq).setCell (by simp; omega) _⟩
    have GO := Lib.hid go; have ST := Lib.hid stopped
    clear go stopped R3 K3 G3
    obtain ⟨v, hv⟩ : ∃ v, inS K a.frm = v := ⟨_, rfl⟩
    rw [hv] at HFI ⊢
    clear hv
    cases v
    · have hfi := HFI.out
      simp only [Bool.false_eq_true, if_false] at hfi
      have HF2 := Lib.hid hfi
      clear hfi
      by_cases h0 : 0 < x
      · gi_wp2
        refine wpIn_region_split 25 rfl rfl (by kernel_rfl) (by kernel_rfl) (by kernel_rfl) ?_
        simp only [List.take_succ_cons, List.take_zero, List.drop_succ_cons, List.drop_zero]
        repeat (gi_big_quiet_step (fail))
        refine wpQuietIn_nil ?_
        rintro _ ⟨nq, rfl⟩
        gi_wp2
        exact ST.out _ _ (fun h => by have := HF2.out.1 h; omega)
      · gi_wp2
        refine wpIn_region_split 25 rfl rfl (by kernel_rfl) (by kernel_rfl) (by kernel_rfl) ?_
        simp only [List.take_succ_cons, List.take_zero, List.drop_succ_cons, List.drop_zero]
        repeat (gi_big_quiet_step (fail))
        refine wpQuietIn_nil ?_
        rintro _ ⟨nq, rfl⟩
        gi_wp2
        exact GO.out _ _ (HF2.out.2 (by omega))
    · have hfi := HFI.out
      simp only [if_true] at hfi
      have HF2 := Lib.hid hfi
      clear hfi
      by_cases h0 : x < a.cap
      · gi_wp2
        refine wpIn_region_split 25 rfl rfl (by kernel_rfl) (by kernel_rfl) (by kernel_rfl) ?_
        simp only [List.take_succ_cons, List.take_zero, List.drop_succ_cons, List.drop_zero]
        repeat (gi_big_quiet_step (fail))
        refine wpQuietIn_nil ?_
        rintro _ ⟨nq, rfl⟩
        gi_wp2
        exact ST.out _ _ (fun h => by have := HF2.out.1 h; omega)
      · have hd : decide (x < a.cap) = false := decide_eq_false h0
        gi_wp2
        refine wpIn_region_split 25 rfl rfl (by kernel_rfl) (by kernel_rfl) (by kernel_rfl) ?_
        simp only [List.take_succ_cons, List.take_zero, List.drop_succ_cons, List.drop_zero]
        repeat (gi_big_quiet_step (fail))
        refine wpQuietIn_nil ?_
        rintro _ ⟨nq, rfl⟩
        gi_wp2
        exact GO.out _ _ (HF2.out.2 (by omega))
  case done =>
    rintro D ys W hD rfl ⟨⟨hp, R3⟩, -, B3⟩ hKD
    have ht := HY.out ((tight_fine hla hfl.len).2 hp)
    subst ht
    have r0 := R3.cell 0
    simp only [List.getElem?_toArray, List.getElem?_cons_zero] at r0
    have rf := R3.frozen 0
    have hz := R3.lt
    clear hp
    gi_wp2
    have hKD' := (KeepsOthers.setCell W ⟨w.heap.size + 1 + 1, 0, none⟩ (.bool true)).same D _ hKD rfl
    refine ⟨by simp, .inl ⟨_, _, rfl, run_takeDeferred hKD', ?_⟩⟩
    have r1 := (R3.set 0 (.bool true)).cell 0
    have hc5 := cell_kept r1 (grownBy_putObj' _ D (.deferred none)) (fun r e => by cases e; exact ⟨_, hKD', rfl⟩)
    refine ⟨.bool true, ?_, rfl, (B3.setCell (p := ⟨w.heap.size + 1 + 1, 0, none⟩) (by simp; omega) _).trans (belowK_b (w := w) (Nat.le_refl _) _ D _ _ (by have := Bw2.size; omega) hKD' rfl rfl)⟩
    simp [results, Try.results13, go_sem, hc5]
  case stop =>
    rintro D cd pre W hD ⟨k, hk, rfl⟩ ⟨⟨⟨rfl, y, hy, hny⟩, R3⟩, B3⟩ hKD
    have ht := HN.out fun h => hny ((tight_fine hla hfl.len).1 h y (by
      have := mem_cross.1 hy
      exact mem_cross.2 ⟨by have := y.2; omega, this.2⟩))
    subst ht
    have r0 := R3.cell 0
    simp only [List.getElem?_toArray, List.getElem?_cons_zero] at r0
    gi_wp2
    refine ⟨by simp, .inl ⟨_, _, rfl, run_takeDeferred hKD, ?_⟩⟩
    have hc5 := cell_kept r0 (grownBy_putObj' _ D (.deferred none)) (fun r e => by cases e; exact ⟨_, hKD, rfl⟩)
    refine ⟨.bool false, ?_, rfl, B3.trans (belowK_b (w := w) (Nat.le_refl _) W D _ _ (by have := Bw2.size; omega) hKD rfl rfl)⟩
    simp [results, Try.results13, go_sem, hc5]

end Go.Proofs.Ytfcjmhihheeifaa
