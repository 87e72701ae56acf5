/- Layer 3: ways, Room, Send. -/
import Derived.Test.YthpmappcfgiggaaFlows
import Derived.Test.YthpmappcfgiggaaFacts
import Derived.Test.YthpmappcfgiggaaMaps
import Derived.Deep.RegionHeld3
import Derived.Deep.DeepCutAuto
import Derived.Deep.CutBlock
import Derived.Maps.RangeWalk
import Derived.OwnWalk
/-! Layer 3: hops in memory; ends, isPath. -/
namespace Go.Proofs.Ythpmappcfgiggaa
open Go.RowKit

def hopCells (h : HopN) : List Value := [.int .i64 h.arc, .bool h.back]
abbrev Hops := RdBy hopCells 2
theorem hop_len (l : List HopN) : ∀ a ∈ l, (hopCells a).length = 2 := fun _ _ => rfl
theorem hop_one {l : List HopN} : ∀ v ∈ l.flatMap hopCells, v.oneCell' = true := by
  intro v hv
  obtain ⟨a, _, ha⟩ := List.mem_flatMap.1 hv
  simp only [hopCells, List.mem_cons, List.not_mem_nil, or_false] at ha
  rcases ha with rfl | rfl <;> rfl
theorem hop_info : (Try.prog.info? 62).map (fun i => (i.zero, i.size, i.bytes)) = some (some (.agg #[.int .i64 0, .bool false]), 2, 16) := by kernel_rfl
theorem hops_at {w : World} {B n : Nat} {A : Option Addr} {H : List HopN} (h : Hops w B A n H) {k : Nat} (hk : k < n) :
    ∃ (b off : Nat) (x : HopN), A = some ⟨b, off, none⟩ ∧ b < B ∧ H[k]? = some x ∧ w.cell? ⟨b, off + k * 2, none⟩ = some (.int .i64 x.arc) ∧ w.cell? ⟨b, off + k * 2 + 1, none⟩ = some (.bool x.back) := by
  obtain ⟨a, ha⟩ := h.get hk
  obtain ⟨b, off, e, hb, hc⟩ := h.2 (by omega)
  exact ⟨b, off, a, e, hb, ha, hc k a ha 0 _ rfl, hc k a ha 1 _ rfl⟩
theorem hops_own {w : World} {base n c : Nat} {A : Option Addr} {H : List HopN} (h : w.ownsRow base 62 2 (.slice A n c) n (H.flatMap hopCells)) (hl : H.length = n) : Hops w w.heap.size A n H := RdBy.of_own hl (hop_len H) h
theorem hops_new {w : World} {g n : Nat} {H : List HopN} (h : w.heap.size = g) (hl : H.length = n) (hn : n ≤ maxLen) : Hops (w.alloc (.cells (H.flatMap hopCells).toArray 62)) (w.alloc (.cells (H.flatMap hopCells).toArray 62)).heap.size (some ⟨g, 0, none⟩) n H :=
  RdBy.of_own (base := 0) hl (hop_len H) (own_of_block (Blk.new h) (Nat.zero_le _) hn (by rw [flat_len (hop_len H), hl]))

set_option maxHeartbeats 400000 in
theorem ends_any' (a : ArcN) (b : Bool) (w : World) :
    Calls Try.prog 57 #[.agg #[.int .i64 a.frm, .int .i64 a.to, .int .i64 a.cap], .bool b] w fun e w' => e = .returned (.tuple #[.int .i64 (hBegin a b), .int .i64 (hEnd a b)]) ∧ Below w.heap.size w w' := by
  cases b
  all_goals
    go_enter Try.func57, Try.ntmps57
    go_wp2_with fail
    go_quiet (fail)
    go_wp2_with fail
    go_ret2
    exact ⟨rfl, below_drewN' (below_alloc _) _⟩

/-- Do the hops make a way? -/
def IsWay (l : List ArcN) (H : List HopN) : Prop := H = [] ∨ ∃ v w, Way l v H w
theorem IsWay.arcs {l : List ArcN} {H : List HopN} (h : IsWay l H) : ∀ k ∈ H, 0 ≤ k.arc ∧ k.arc < l.length := by
  rcases h with rfl | ⟨v, w, h⟩
  · simp
  · exact h.arcs
theorem Way.front {l : List ArcN} {H K : List HopN} {v w : Int} (h : Way l v (H ++ K) w) : ∃ x, Way l v H x := by
  induction H generalizing v with
  | nil => exact ⟨v, rfl⟩
  | cons k t ih =>
    obtain ⟨y, h1, h2⟩ := h
    obtain ⟨x, hx⟩ := ih h2
    exact ⟨x, y, h1, hx⟩
/-- The next hop of a way begins where the way so far ends. -/
theorem IsWay.next {l : List ArcN} {H : List HopN} {k : Nat} {h : HopN} {a : ArcN} {v w : Int} (hw : IsWay l H) (hh : H[k]? = some h) (ha : l[h.arc.toNat]? = some a) (hk : k ≠ 0) (ht : Way l v (H.take k) w) : hBegin a h.back = w := by
  rcases hw with rfl | ⟨p, q, hw⟩
  · simp at hh
  · rw [← List.take_append_drop (k + 1) H] at hw
    obtain ⟨x, hx⟩ := hw.front
    rw [take_at hh] at hx
    obtain ⟨y, h1, h2⟩ := hx.unsnoc
    have hlt := (List.getElem?_eq_some_iff.1 hh).1
    have hne : H.take k ≠ [] := fun e => by have := congrArg List.length e; rw [List.length_take] at this; simp only [List.length_nil] at this; omega
    obtain ⟨_, e⟩ := ht.end_eq h1 hne
    obtain ⟨_, a', ha', e1, _⟩ := h2
    rw [ha] at ha'
    injection ha' with ha'
    subst ha'
    omega

theorem path_keep {W0 W : World} {g gh b o i n c : Nat} {N S T : Int} {A : Option Addr} {bk : Bool} {a : ArcN} (K : Blk W0 g 24 #[.int .i64 N, .int .i64 S, .int .i64 T, .slice A n c]) (E : Blk W0 gh 62 #[.int .i64 i, .bool bk]) (hb : b < W0.heap.size)
    (c0 : W0.cell? ⟨b, o, none⟩ = some (.int .i64 a.frm)) (c1 : W0.cell? ⟨b, o + 1, none⟩ = some (.int .i64 a.to)) (c2 : W0.cell? ⟨b, o + 2, none⟩ = some (.int .i64 a.cap)) (hB : Below W0.heap.size W0 W) :
    Below W0.heap.size W0 W ∧ W.cell? ⟨g, 3, none⟩ = some (.slice A n c) ∧ W.cell? ⟨gh, 0, none⟩ = some (.int .i64 i) ∧ W.cell? ⟨gh, 1, none⟩ = some (.bool bk) ∧
      W.cell? ⟨b, o, none⟩ = some (.int .i64 a.frm) ∧ W.cell? ⟨b, o + 1, none⟩ = some (.int .i64 a.to) ∧ W.cell? ⟨b, o + 2, none⟩ = some (.int .i64 a.cap) :=
  ⟨hB, (K.below hB K.lt).cell 3, (E.below hB E.lt).cell 0, (E.below hB E.lt).cell 1, (hB.cell (p := ⟨b, o, none⟩) hb).trans c0, (hB.cell (p := ⟨b, o + 1, none⟩) hb).trans c1, (hB.cell (p := ⟨b, o + 2, none⟩) hb).trans c2⟩

set_option maxHeartbeats 2000000 in
theorem isPath_any (N S T : Int) (A : Option Addr) (n c : Nat) (l : List ArcN) (AH : Option Addr) (m cH : Nat) (H : List HopN) (r : Bool) (w : World) (hA : Arcs w w.heap.size A n l)
    (hH : Hops w w.heap.size AH m H) (hm : m ≤ 1000000000000) (hr : r = true ↔ IsWay l H) :
    Calls Try.prog 44 #[.agg #[.int .i64 N, .int .i64 S, .int .i64 T, .slice A n c], .slice AH m cH] w fun e w' => e = .returned (.bool r) ∧ Below w.heap.size w w' := by
  have hfalse : ¬ IsWay l H → false = r := fun h => by
    cases r with
    | false => rfl
    | true => exact absurd (hr.1 rfl) h
  have HF := Lib.hid hfalse; clear hfalse
  have HT := Lib.hid hr.2; clear hr
  have hln := hA.len
  have hlm := hH.len
  go_enter Try.func44, Try.ntmps44
  go_wp2_with fail
  go_loopw [5, 6, 7, 8, 9, 12] (fun r5 _ _ _ _ i wr => ∃ (k : Nat) (x : Int), k ≤ m ∧ i = .int .i64 k ∧ r5 = .int .i64 x ∧ (k = 0 ∨ ∃ v, Way l v (H.take k) x) ∧ Below (w.heap.size + 1) (w.alloc (.cells #[.int .i64 N, .int .i64 S, .int .i64 T, .slice A n c] 24)) wr) (fun _ _ _ _ _ i _ => m - (intOf i).toNat)
  case atStart => exact ⟨0, 0, Nat.zero_le _, rfl, rfl, .inl rfl, Below.refl _ _⟩
  case round =>
    obtain ⟨k, x, hk, rfl, rfl, hp, hb⟩ := hrel
    have HP := Lib.hid hp; clear hp
    have hb0 : Below w.heap.size w wr := (below_alloc _).trans (hb.mono (Nat.le_succ _))
    have Kr : Blk wr w.heap.size 24 #[.int .i64 N, .int .i64 S, .int .i64 T, .slice A n c] := (Blk.new rfl).below hb (by omega)
    have hzr := Kr.lt
    by_cases hlt : k < m
    · obtain ⟨bh, oh, ⟨ar, bk⟩, rfl, hbh, hh, d0, d1⟩ := hops_at (hH.below hb0) hlt
      simp only at d0 d1
      have HH := Lib.hid hh; clear hh
      obtain ⟨x0, x1, x2, x3⟩ := Kr.at4
      by_cases h0 : ar < 0
      · go_wp2_with fail
        go_ret
        exact ⟨retb (HF.out fun h => by have := h.arcs _ (mem_at HH.out); simp only at this; omega), hb0.alloc hb0.size _⟩
      · by_cases h1 : (n : Int) ≤ ar
        · go_wp2_with fail
          go_ret
          exact ⟨retb (HF.out fun h => by have := h.arcs _ (mem_at HH.out); simp only at this; omega), hb0.alloc hb0.size _⟩
        · obtain ⟨i, rfl⟩ := Int.eq_ofNat_of_zero_le (show 0 ≤ ar by omega)
          obtain ⟨b, off, a, rfl, hbl, hla, c0, c1, c2⟩ := arcs_at (hA.below hb0) (k := i) (by omega)
          have HL := Lib.hid hla; clear hla
          have hin : (i : Int) < (n : Int) := by omega
          have hbw : b < wr.heap.size := by omega
          go_wp2_with fail
          have E0 : Blk (wr.alloc (.cells #[.int .i64 (i : Int), .bool bk] 62)) wr.heap.size 62 #[.int .i64 (i : Int), .bool bk] := Blk.new rfl
          have K0 := Kr.alloc (.cells #[.int .i64 (i : Int), .bool bk] 62)
          have bel0 : Below (w.heap.size + 1) (w.alloc (.cells #[.int .i64 N, .int .i64 S, .int .i64 T, .slice (some ⟨b, off, none⟩) n c] 24)) (wr.alloc (.cells #[.int .i64 (i : Int), .bool bk] 62)) := hb.alloc (by omega) _
          have z0 : (wr.alloc (.cells #[.int .i64 (i : Int), .bool bk] 62)).cell? ⟨b, off + i * 3, none⟩ = some (.int .i64 a.frm) := ((below_alloc (w := wr) _).cell (p := ⟨b, _, none⟩) hbw).trans c0
          have z1 : (wr.alloc (.cells #[.int .i64 (i : Int), .bool bk] 62)).cell? ⟨b, off + i * 3 + 1, none⟩ = some (.int .i64 a.to) := ((below_alloc (w := wr) _).cell (p := ⟨b, _, none⟩) hbw).trans c1
          have z2 : (wr.alloc (.cells #[.int .i64 (i : Int), .bool bk] 62)).cell? ⟨b, off + i * 3 + 2, none⟩ = some (.int .i64 a.cap) := ((below_alloc (w := wr) _).cell (p := ⟨b, _, none⟩) hbw).trans c2
          have hzz : b < (wr.alloc (.cells #[.int .i64 (i : Int), .bool bk] 62)).heap.size := by simp; omega
          generalize wr.alloc (.cells #[.int .i64 (i : Int), .bool bk] 62) = W0 at *
          clear c0 c1 c2 d0 d1 x0 x1 x2 x3 Kr hbw
          go_region_held3 (fun W => Below W0.heap.size W0 W ∧ W.cell? ⟨w.heap.size, 3, none⟩ = some (.slice (some ⟨b, off, none⟩) n c) ∧ W.cell? ⟨wr.heap.size, 0, none⟩ = some (.int .i64 (i : Int)) ∧ W.cell? ⟨wr.heap.size, 1, none⟩ = some (.bool bk) ∧
              W.cell? ⟨b, off + i * 3, none⟩ = some (.int .i64 a.frm) ∧ W.cell? ⟨b, off + i * 3 + 1, none⟩ = some (.int .i64 a.to) ∧ W.cell? ⟨b, off + i * 3 + 2, none⟩ = some (.int .i64 a.cap))
            (first
              | exact path_keep K0 E0 hzz z0 z1 z2 (Below.refl _ _).drew
              | (go_split_ands
                 exact path_keep K0 E0 hzz z0 z1 z2 (by refine below_step ?_ (by assumption); assumption)))
            (first
              | (go_at_call 57; ((with_reducible refine (ends_any' _ _ _).mono ?_); rintro e W4 ⟨rfl, B4⟩)))
          go_split_ands
          have hbW : Below W0.heap.size W0 W4 := by assumption
          have bel4 : Below (w.heap.size + 1) (w.alloc (.cells #[.int .i64 N, .int .i64 S, .int .i64 T, .slice (some ⟨b, off, none⟩) n c] 24)) W4 := bel0.trans (hbW.mono (by have := bel0.size; simp at this; omega))
          have hop : HopAt l ⟨(i : Int), bk⟩ (hBegin a bk) (hEnd a bk) := ⟨by simp only; omega, a, by simpa using HL.out, rfl, rfl⟩
          have HOP := Lib.hid hop; clear hop
          have hlw : Below w.heap.size w W4 := (below_alloc _).trans (bel4.mono (Nat.le_succ _))
          by_cases hk0 : k = 0
          · subst hk0
            have h00 : ¬ (0 : Int) < 0 := by omega
            go_wp2_with fail
            go_roundw
            case rel =>
              refine ⟨1, _, by omega, by go_num, rfl, .inr ⟨hBegin a bk, ?_⟩, bel4⟩
              have ht := take_at HH.out
              rw [show (1 : Nat) = 0 + 1 from rfl, ht]
              exact ⟨_, HOP.out, rfl⟩
            case measure => simp [intOf]; omega
          · have hk1 : (0 : Int) < (k : Int) := by omega
            by_cases hfr : hBegin a bk = x
            · have hfr' : (hBegin a bk != x) = false := by simpa using hfr
              go_wp2_with fail
              go_roundw
              case rel =>
                refine ⟨k + 1, _, by omega, by go_num, rfl, .inr ?_, bel4⟩
                rcases HP.out with h | ⟨v, hv⟩
                · exact absurd h hk0
                · refine ⟨v, ?_⟩
                  rw [take_at HH.out]
                  have := HOP.out
                  rw [hfr] at this
                  exact hv.snoc this
              case measure => simp [intOf]; omega
            · have hfr' : (hBegin a bk != x) = true := by simpa using hfr
              go_wp2_with fail
              go_ret
              refine ⟨retb (HF.out fun h => ?_), hlw⟩
              rcases HP.out with h' | ⟨v, hv⟩
              · exact hk0 h'
              · exact hfr (h.next (h := ⟨(i : Int), bk⟩) HH.out (by simpa using HL.out) hk0 hv)
    · go_wp2_with fail
      go_ret
      refine ⟨retb (HT.out ?_).symm, hb0⟩
      rcases HP.out with h | ⟨v, hv⟩
      · exact .inl (List.eq_nil_of_length_eq_zero (by omega))
      · rw [List.take_of_length_le (by omega)] at hv
        exact .inr ⟨_, _, hv⟩

end Go.Proofs.Ythpmappcfgiggaa

/-! Layer 3: surplus. -/
namespace Go.Proofs.Ythpmappcfgiggaa
open Go.RowKit Go.Maps

def intV (x : Int) : Value := .int .i64 x
theorem intV_inj : ∀ x y : Int, intV x = intV y → x = y := by
  intro x y h
  simpa [intV] using h
theorem zero_long (w : World) : (zeroValue 2).run Try.prog w = .ok (.int .i64 0) w := by kernel_rfl
theorem keyInt {x : Int} (h : InR x) : keyOf Try.prog 3 (intV x) = some (.int .i64 x) := keyOf_int_mk Try.underlying3 (wf_i64 h)

/-- What the map of a way holds: a key for each arc that is on it. -/
def mapWay (H : List HopN) : Int → Option Int := fun i => if H.any (fun h => h.arc == i) then some (surp H i) else none
theorem mapWay_snoc (H : List HopN) (h : HopN) (i : Int) : mapWay (H ++ [h]) i = if i = h.arc then some ((mapWay H i).getD 0 + (if h.back = true then -1 else 1)) else mapWay H i := by
  unfold mapWay
  rw [List.any_append, surp_snoc]
  by_cases e : i = h.arc
  · subst e
    rw [if_pos rfl, if_pos (by simp)]
    congr 1
    cases hh : H.any (fun k => k.arc == h.arc)
    · have : surp H h.arc = 0 := surp_none fun k hk e => by
        have := List.any_eq_false.1 hh k hk
        simp [e] at this
      rw [this]
      simp [sgn]
    · simp [sgn]
  · rw [if_neg e]
    have : (h.arc == i) = false := by simpa using fun e' => e e'.symm
    simp [this, sgn, show ¬ h.arc = i from fun e' => e e'.symm]
theorem mapWay_bound (H : List HopN) (i : Int) : -(H.length : Int) ≤ (mapWay H i).getD 0 ∧ (mapWay H i).getD 0 ≤ H.length := by
  unfold mapWay
  split
  · exact surp_bound H i
  · simp

set_option maxHeartbeats 2000000 in
theorem surplus_any (AH : Option Addr) (m cH : Nat) (H : List HopN) (w : World) (hH : Hops w w.heap.size AH m H) (hm : m ≤ 1000000000) (hR : ∀ h ∈ H, InR h.arc) :
    Calls Try.prog 46 #[.slice AH m cH] w fun e w' => e = .returned (.map (some w.heap.size)) ∧ MapsTo intV Try.prog 3 2 w' w.heap.size m (mapWay H) ∧ Below w.heap.size w w' := by
  have hlm := hH.len
  have hmm := @run_makeMap Try.prog
  have K := int_keyed (P := Try.prog) Try.underlying3
  go_enter Try.func46, Try.ntmps46
  go_wp2_with fail
  go_loopw [5, 9] (fun _ i wr => ∃ (k : Nat), k ≤ m ∧ i = .int .i64 k ∧ MapsTo intV Try.prog 3 2 wr w.heap.size k (mapWay (H.take k)) ∧ Below w.heap.size w wr) (fun _ i _ => m - (intOf i).toNat)
  case atStart => exact ⟨0, Nat.zero_le _, rfl, MapsTo.made_at rfl, below_alloc _⟩
  case round =>
    obtain ⟨k, hk, rfl, hM, hb⟩ := hrel
    clear hmm
    have hzM := hM.lt
    by_cases hlt : k < m
    · obtain ⟨bh, oh, ⟨ar, bk⟩, rfl, hbh, hh, d0, d1⟩ := hops_at (hH.below hb) hlt
      have har := hR _ (mem_at hh)
      simp only at d0 d1 har
      have hlk := (hM.alloc (.cells #[.int .i64 ar, .bool bk] 62)).look K Try.underlying83 Try.underlying2 (zero_long _) (keyInt har)
      have hbd := mapWay_bound (H.take k) ar
      rw [List.length_take] at hbd
      obtain ⟨y, hy⟩ : ∃ y, (mapWay (H.take k) ar).getD 0 = y := ⟨_, rfl⟩
      rw [hy] at hlk hbd
      have HY := Lib.hid hy; have HH := Lib.hid hh; clear hy hh
      have hlk' : (Instr.lookup 83 (.map (some w.heap.size)) (.int .i64 ar) false).run Try.prog (wr.alloc (.cells #[.int .i64 ar, .bool bk] 62)) = .ok (.int .i64 y) (wr.alloc (.cells #[.int .i64 ar, .bool bk] 62)) := hlk
      clear hlk
      cases bk
      · go_wp2_with (first
          | (at_mapUpdate
             refine wpList_mapUpdate_to _ rfl _ _ _ 83 rfl (hM.alloc _) K intV_inj Try.underlying83 Try.underlying2 (by unfold maxLen; omega) ar _ (keyInt har) (y + 1) (wf_i64 (by unfold InR; omega)) rfl rfl rfl ?_)
          | fail)
        intro w2 hM2 hg2
        go_wp2_with fail
        go_roundw
        case rel =>
          refine ⟨k + 1, by omega, by go_num, hM2.out.as fun i => ?_, ?_⟩
          · rw [take_at HH.out, mapWay_snoc]
            simp only
            split
            · rename_i e; subst e; rw [HY.out]; rfl
            · rfl
          · exact (hb.alloc hb.size _).grown hg2 (by have := hb.size; simp; omega) (fun j hj => by injection hj with hj; omega)
        case measure => simp [intOf]; omega
      · go_wp2_with (first
          | (at_mapUpdate
             refine wpList_mapUpdate_to _ rfl _ _ _ 83 rfl (hM.alloc _) K intV_inj Try.underlying83 Try.underlying2 (by unfold maxLen; omega) ar _ (keyInt har) (y - 1) (wf_i64 (by unfold InR; omega)) rfl rfl rfl ?_)
          | fail)
        intro w2 hM2 hg2
        go_wp2_with fail
        go_roundw
        case rel =>
          refine ⟨k + 1, by omega, by go_num, hM2.out.as fun i => ?_, ?_⟩
          · rw [take_at HH.out, mapWay_snoc]
            simp only
            split
            · rename_i e; subst e; rw [HY.out]; rfl
            · rfl
          · exact (hb.alloc hb.size _).grown hg2 (by have := hb.size; simp; omega) (fun j hj => by injection hj with hj; omega)
        case measure => simp [intOf]; omega
    · go_wp2_with fail
      go_ret
      rw [List.take_of_length_le (by omega)] at hM
      exact ⟨rfl, hM.mono hk, hb⟩

end Go.Proofs.Ythpmappcfgiggaa

/-! Ranging over a map that is told as a function of integers; how much may be sent, arc by arc. -/
namespace Go.Proofs.Ythpmappcfgiggaa
open Go.RowKit Go.Maps

/-- 'for k, v := range m' under way: 'left x': is x's entry still to come? -/
def RangesTo (w : World) (b r n : Nat) (m : Int → Option Int) (left : Int → Bool) (cnt : Nat) : Prop :=
  ∃ (D : DataW Unit) (L : Lit → Bool), w.ranges Try.prog 3 (plainElem Try.prog 2) b r n D L cnt ∧ (∀ x, InR x → D.atKey (.int .i64 x) (.lit (.int .i64 0)) = .lit (.int .i64 ((m x).getD 0))) ∧ ∀ x, left x = L (.int .i64 x)

section
variable {w w' : World} {b r n cnt : Nat} {m : Int → Option Int} {left : Int → Bool}
theorem RangesTo.left_eq (h : RangesTo w b r n m left cnt) : w.rangeLeft b r = cnt := by
  obtain ⟨D, L, h, _⟩ := h
  exact h.left_eq
theorem RangesTo.lt (h : RangesTo w b r n m left cnt) : r < w.heap.size ∧ b < w.heap.size := by
  obtain ⟨D, L, h, _⟩ := h
  exact ⟨h.lt, h.owns.lt⟩
theorem RangesTo.kept {row : Option Nat} (h : RangesTo w b r n m left cnt) (hg : w.grownBy w' row) (hb : some b ≠ row) (hr : some r ≠ row) : RangesTo w' b r n m left cnt := by
  obtain ⟨D, L, h, rest⟩ := h
  exact ⟨D, L, h.kept hg hb hr, rest⟩
theorem RangesTo.alloc (h : RangesTo w b r n m left cnt) (o : Obj) : RangesTo (w.alloc o) b r n m left cnt := by
  obtain ⟨D, L, h, rest⟩ := h
  exact ⟨D, L, h.alloc o, rest⟩
theorem RangesTo.drew (h : RangesTo w b r n m left cnt) : RangesTo w.drew b r n m left cnt := by
  obtain ⟨D, L, h, rest⟩ := h
  exact ⟨D, L, h, rest⟩
theorem RangesTo.drewN (h : RangesTo w b r n m left cnt) (k : Nat) : RangesTo (w.drewN k) b r n m left cnt := by
  obtain ⟨D, L, h, rest⟩ := h
  exact ⟨D, L, h, rest⟩
/-- A cell of another block is written. -/
theorem RangesTo.setCell (h : RangesTo w b r n m left cnt) {a : Addr} (hb : b ≠ a.block) (hr : r ≠ a.block) (u : Value) : RangesTo (w.setCell a u) b r n m left cnt := by
  refine h.kept (row := some a.block) ⟨rfl, rfl, rfl, by simp, fun k _ hk => Below.heap_setCell w a u k fun e => hk (by rw [e])⟩ ?_ ?_
  · intro e; injection e with e; exact hb e
  · intro e; injection e with e; exact hr e

variable {ops : Array Oper} {rest : List Oper} {o : Oper} {a : Act} {Q : Exit → Act → World → Prop}
theorem wpList_range_to (hg : o.guard = none) (mo : Operand) (hop : o.op = Op.range 83 mo) (hm : a.eval mo = .map (some b)) (hM : MapsTo intV Try.prog 3 2 w b n m)
    (hK : ∀ w' left cnt, RangesTo w' b w.heap.size n m left cnt → Hid (∀ x, InR x → left x = (m x).isSome) → w.grownBy w' none → w'.heap.size = w.heap.size + 1 → wpList Try.prog ops Q rest (a.put o.dst (.pointer (some ⟨w.heap.size, 0, none⟩))) w') :
    wpList Try.prog ops Q (o :: rest) a w := by
  obtain ⟨D, h1, h2⟩ := hM
  refine wpList_range_own w hg mo _ hop 3 2 (int_keyed Try.underlying3) Try.underlying83 _ b n D hm h1 ?_
  intro w' h3 h4 h5
  exact hK w' (fun x => Maps.has D (.int .i64 x)) _ ⟨D, _, h3, fun x hx => (h2 x _ (keyInt hx)).2, fun x => rfl⟩ (fun x hx => (h2 x _ (keyInt hx)).1) h4 h5
theorem inR_wf {x : Int} (h : (Lit.int .i64 x).wf = true) : InR x := by
  simp [Lit.wf, IntKind.min, IntKind.max, IntKind.signed, IntKind.bits] at h
  exact ⟨by omega, by omega⟩
theorem wpList_next_to (hg : o.guard = none) (it : Operand) (hop : o.op = Op.next it false) (hit : a.eval it = .pointer (some ⟨r, 0, none⟩)) (h : RangesTo w b r n m left cnt)
    (hDone : (∀ x, InR x → left x = false) → wpList Try.prog ops Q rest (a.put o.dst (.tuple #[.bool false])) w)
    (hMore : ∀ (x c : Int) (w' : World) (cnt' : Nat), InR x → left x = true → Hid (c = (m x).getD 0) → RangesTo w' b r n m (fun z => left z && !decide (z = x)) cnt' → cnt' < cnt → w.grownBy w' (some r) → w'.heap.size = w.heap.size →
      (Instr.entry (.pointer (some ⟨r, 0, none⟩))).run Try.prog w' = .ok (.tuple #[.int .i64 x, .int .i64 c]) w' → wpList Try.prog ops Q rest (a.put o.dst (.tuple #[.bool true, .int .i64 x, .int .i64 c])) w') :
    wpList Try.prog ops Q (o :: rest) a w := by
  obtain ⟨D, L, h1, h2, h3⟩ := h
  refine wpList_next_ranges_ii w hg it hop 3 2 .i64 .i64 (int_keyed Try.underlying3) Try.underlying3 Try.underlying2 b r n D L cnt hit h1 (fun _ hl => hDone fun x hx => by rw [h3, hl]) ?_
  intro x c w' cnt' hx hc hl hat hrg hlt hgr hsz hen
  have hxr := inR_wf hx
  refine hMore x c w' cnt' hxr (by rw [h3, hl]) ?_ ⟨D, _, hrg, h2, fun z => ?_⟩ hlt hgr hsz hen
  · have := (hat (.lit (.int .i64 0))).symm.trans (h2 x hxr)
    injection this with this
    injection this with _ this
  · simp only [h3, Lit.sameKey]
    congr 2
    simp
end

/-- The greatest number that those arcs take of which 'done' speaks. -/
def RoomTo (l : List ArcN) (F : List Int) (H : List HopN) (done : Nat → Prop) (r : Int) : Prop :=
  0 ≤ r ∧ r ≤ maxSum ∧ ∀ d, 0 ≤ d → d ≤ maxSum → (d ≤ r ↔ ∀ (i : Nat) (a : ArcN) (x : Int), done i → l[i]? = some a → F[i]? = some x → 0 ≤ x + d * surp H i ∧ x + d * surp H i ≤ a.cap)
section
variable {l : List ArcN} {F : List Int} {H : List HopN} {done done' : Nat → Prop} {r q x t : Int} {i : Nat} {a : ArcN}
theorem RoomTo.zero (h : ∀ i, ¬ done i) : RoomTo l F H done 4611686018427387904 :=
  ⟨by omega, by unfold maxSum; omega, fun d _ h2 => ⟨fun _ i a x hd => absurd hd (h i), fun _ => by unfold maxSum at h2; exact h2⟩⟩
theorem RoomTo.step (h : RoomTo l F H done r) (ha : l[i]? = some a) (hx : F[i]? = some x) (hd : ∀ j, done' j ↔ done j ∨ j = i) (hq0 : 0 ≤ q) (hq : ∀ d, 0 ≤ d → (d ≤ q ↔ 0 ≤ x + d * surp H i ∧ x + d * surp H i ≤ a.cap)) :
    RoomTo l F H done' (if r ≤ q then r else q) := by
  obtain ⟨h0, h1, h2⟩ := h
  refine ⟨by split <;> omega, by split <;> omega, fun d hd0 hd1 => ?_⟩
  have e : d ≤ (if r ≤ q then r else q) ↔ d ≤ r ∧ d ≤ q := by split <;> omega
  rw [e, h2 d hd0 hd1, hq d hd0]
  constructor
  · rintro ⟨h3, h4⟩ j b y hj hb hy
    rcases (hd j).1 hj with hj | rfl
    · exact h3 j b y hj hb hy
    · rw [ha] at hb; rw [hx] at hy
      injection hb with hb; injection hy with hy
      subst hb; subst hy
      exact h4
  · intro h3
    exact ⟨fun j b y hj hb hy => h3 j b y ((hd j).2 (.inl hj)) hb hy, h3 i a x ((hd i).2 (.inr rfl)) ha hx⟩
theorem RoomTo.same (h : RoomTo l F H done r) (hd : ∀ j, done' j ↔ done j ∨ j = i) (ht : surp H i = 0) (hF : FlowIn l F) : RoomTo l F H done' r := by
  obtain ⟨h0, h1, h2⟩ := h
  refine ⟨h0, h1, fun d hd0 hd1 => ?_⟩
  rw [h2 d hd0 hd1]
  constructor
  · intro h3 j b y hj hb hy
    rcases (hd j).1 hj with hj | rfl
    · exact h3 j b y hj hb hy
    · rw [ht, Int.mul_zero, Int.add_zero]
      exact hF.ent _ _ _ hb hy
  · exact fun h3 j b y hj hb hy => h3 j b y ((hd j).2 (.inl hj)) hb hy
theorem RoomTo.all (h : RoomTo l F H done r) (hd : ∀ j : Nat, ¬ done j → surp H j = 0) (hF : FlowIn l F) : IsRoom l F H r := by
  obtain ⟨h0, h1, h2⟩ := h
  refine ⟨h0, h1, fun d hd0 hd1 => ?_⟩
  rw [h2 d hd0 hd1]
  constructor
  · intro h3
    refine ⟨by rw [sent_len]; exact hF.len, fun i a y ha hy => ?_⟩
    obtain ⟨x, hx, rfl⟩ := sent_inv hy
    by_cases hdi : done i
    · exact h3 i a x hdi ha hx
    · rw [hd i hdi, Int.mul_zero, Int.add_zero]
      exact hF.ent i a x ha hx
  · intro h3 i a x _ ha hx
    exact h3.ent i a _ ha (sent_at H d hx)

theorem fits_up {c : Int} (h0 : 0 ≤ x) (h1 : x ≤ c) (ht : 0 < t) : 0 ≤ (c - x).tdiv t ∧ (c - x).tdiv t ≤ c ∧ ∀ d, 0 ≤ d → (d ≤ (c - x).tdiv t ↔ 0 ≤ x + d * t ∧ x + d * t ≤ c) := by
  rw [Int.tdiv_eq_ediv_of_nonneg (by omega)]
  refine ⟨Int.ediv_nonneg (by omega) (by omega), Int.le_trans (Int.ediv_le_self _ (by omega)) (by omega), fun d hd => ?_⟩
  rw [Int.le_ediv_iff_mul_le ht]
  have := Int.mul_nonneg hd (Int.le_of_lt ht)
  omega
theorem fits_down {c : Int} (h0 : 0 ≤ x) (h1 : x ≤ c) (ht : t < 0) : 0 ≤ x.tdiv (-t) ∧ x.tdiv (-t) ≤ c ∧ ∀ d, 0 ≤ d → (d ≤ x.tdiv (-t) ↔ 0 ≤ x + d * t ∧ x + d * t ≤ c) := by
  rw [Int.tdiv_eq_ediv_of_nonneg (by omega)]
  refine ⟨Int.ediv_nonneg (by omega) (by omega), Int.le_trans (Int.ediv_le_self _ (by omega)) (by omega), fun d hd => ?_⟩
  rw [Int.le_ediv_iff_mul_le (by omega), Int.mul_neg]
  have := Int.mul_nonneg hd (show 0 ≤ -t by omega)
  rw [Int.mul_neg] at this
  omega
theorem mapWay_getD (H : List HopN) (i : Int) : (mapWay H i).getD 0 = surp H i := by
  unfold mapWay
  split
  · rfl
  · rename_i h
    symm
    exact surp_none fun k hk e => h (List.any_eq_true.2 ⟨k, hk, by simpa using e⟩)
theorem mapWay_some {i : Int} (h : (mapWay H i).isSome = true) : ∃ k ∈ H, k.arc = i := by
  unfold mapWay at h
  split at h
  · rename_i h'
    obtain ⟨k, hk, e⟩ := List.any_eq_true.1 h'
    exact ⟨k, hk, by simpa using e⟩
  · cases h
theorem mapWay_none {i : Int} (h : (mapWay H i).isSome = false) : surp H i = 0 := by
  rw [← mapWay_getD]
  cases h' : mapWay H i with
  | none => rfl
  | some x => rw [h'] at h; cases h
end

end Go.Proofs.Ythpmappcfgiggaa

/-! Layer 3: least. -/
namespace Go.Proofs.Ythpmappcfgiggaa
open Go.RowKit Go.Maps

set_option maxHeartbeats 4000000 in
theorem least_any (N : Nat) (S T : Int) (A : Option Addr) (n c : Nat) (l : List ArcN) (AF : Option Addr) (m cF : Nat) (F : List Int) (b p : Nat) (H : List HopN) (w : World) (hA : Arcs w w.heap.size A n l) (hF : Ints w w.heap.size AF m F) (hfl : FlowIn l F) (hcap : ∀ a ∈ l, a.cap ≤ 4611686018427387904)
    (hM : MapsTo intV Try.prog 3 2 w b p (mapWay H)) (hH : ∀ h ∈ H, 0 ≤ h.arc ∧ h.arc < n) (hHl : H.length ≤ 1000000000) (hn : n ≤ 1000000) :
    Calls Try.prog 45 #[.agg #[.int .i64 N, .int .i64 S, .int .i64 T, .slice A n c], .slice AF m cF, .map (some b)] w fun e w' => ∃ r, e = .returned (.int .i64 r) ∧ IsRoom l F H r ∧ Below w.heap.size w w' := by
  have hln := hA.len
  have hlm := hF.len
  have hlf := hfl.len
  have HFL := Lib.hid hfl; have HCAP := Lib.hid hcap; have HH := Lib.hid hH; clear hfl hcap hH
  have hbw := hM.lt
  go_enter Try.func45, Try.ntmps45
  go_wp2_with (first
    | (at_range; refine wpList_range_to rfl _ rfl rfl (hM.alloc _) ?_; intro w0 left0 cnt0 hrg0 hl0 hg0 hs0)
    | fail)
  have HL0 := hl0; clear hl0
  have B0 : Below (w.heap.size + 1) (w.alloc (.cells #[.int .i64 N, .int .i64 S, .int .i64 T, .slice A n c] 24)) w0 := ⟨hg0.os, hg0.tape, hg0.output, by have := hg0.size; simp at this ⊢; omega, fun k hk => hg0.block k (by simp; omega) (by simp)⟩
  clear hg0
  generalize hrb : (w.alloc (.cells #[.int .i64 N, .int .i64 S, .int .i64 T, .slice A n c] 24)).heap.size = rb at hrg0 hs0 ⊢
  simp at hrb
  have HRB := Lib.hid hrb
  go_frame
  go_loopw [7, 8, 9] (fun r7 _ _ wr => ∃ (left : Int → Bool) (cnt : Nat) (r : Int), RangesTo wr b rb p (mapWay H) left cnt ∧ (∀ x, InR x → left x = true → (mapWay H x).isSome = true) ∧ r7 = .int .i64 r ∧
      RoomTo l F H (fun i => (mapWay H (i : Int)).isSome = true ∧ left (i : Int) = false) r ∧ Below (w.heap.size + 1) (w.alloc (.cells #[.int .i64 N, .int .i64 S, .int .i64 T, .slice A n c] 24)) wr) (fun _ _ _ wr => wr.rangeLeft b rb)
  case atStart =>
    refine ⟨left0, cnt0, _, hrg0, fun x hx h => by rw [← HL0.out x hx]; exact h, rfl, RoomTo.zero fun i hi => ?_, B0⟩
    obtain ⟨h1, h2⟩ := hi
    obtain ⟨k, hk, e⟩ := mapWay_some h1
    have := HH.out k hk
    rw [HL0.out (i : Int) (by unfold InR; omega), h1] at h2
    cases h2
  case round =>
    obtain ⟨left, cnt, r, hrg, hls, rfl, hro, hb⟩ := hrel
    clear hrb
    have HLS := Lib.hid hls; have HRO := Lib.hid hro; clear hls hro
    have hb0 : Below w.heap.size w wr := (below_alloc _).trans (hb.mono (Nat.le_succ _))
    have Kr : Blk wr w.heap.size 24 #[.int .i64 N, .int .i64 S, .int .i64 T, .slice A n c] := (Blk.new rfl).below hb (by omega)
    go_wp2_with (first
      | (at_next; refine wpList_next_to rfl _ rfl rfl hrg ?_ ?_)
      | fail)
    · intro hl
      have HD := Lib.hid hl; clear hl
      go_wp2_with fail
      go_ret
      refine ⟨r, rfl, HRO.out.all (fun j hj => ?_) HFL.out, hb0⟩
      cases hm : (mapWay H (j : Int)).isSome
      · exact mapWay_none hm
      · obtain ⟨k, hk, e⟩ := mapWay_some hm
        have := HH.out k hk
        exact absurd ⟨hm, HD.out _ (by unfold InR; omega)⟩ hj
    · intro x t w1 cnt1 hx hlx ht hrg1 hlt hg1 hs1 hen
      obtain ⟨h, hh, hhx⟩ := mapWay_some (HLS.out x hx hlx)
      have hxr := HH.out h hh
      rw [hhx] at hxr
      clear hh hhx h
      obtain ⟨i, rfl⟩ := Int.eq_ofNat_of_zero_le hxr.1
      have ht' : t = surp H i := by rw [ht.out, mapWay_getD]
      have htb := surp_bound H i
      rw [← ht'] at htb
      have HT := Lib.hid ht'; clear ht' ht
      have B1 : Below (w.heap.size + 1) wr w1 := ⟨hg1.os, hg1.tape, hg1.output, hg1.size, fun k hk => hg1.block k (by have := Kr.lt; omega) (fun e => by injection e with e; have := HRB.out; omega)⟩
      have hbr : Below (w.heap.size + 1) (w.alloc (.cells #[.int .i64 N, .int .i64 S, .int .i64 T, .slice A n c] 24)) w1 := hb.trans B1
      have Kr1 := Kr.below B1 (by omega)
      have hb1 : Below w.heap.size w w1 := hb0.trans (B1.mono (by omega))
      clear hg1 B1 Kr
      obtain ⟨x0, x1, x2, x3⟩ := Kr1.at4
      obtain ⟨ba, off, a, rfl, hba, hla, c0, c1, c2⟩ := arcs_at (hA.below hb1) (k := i) (by omega)
      obtain ⟨bf, of, v, rfl, hbf, hv, cv⟩ := intl_at (hF.below hb1) (k := i) (by omega)
      have hfv := HFL.out.ent i a v hla hv
      have hca := HCAP.out a (mem_at hla)
      have hro := HRO.out
      have hin : (i : Int) < (n : Int) := hxr.2
      have him : (i : Int) < (m : Int) := by omega
      have hrr : 0 ≤ r ∧ r ≤ 4611686018427387904 := ⟨hro.1, hro.2.1⟩
      have HL := Lib.hid hla; have HV := Lib.hid hv
      clear hro hla hv
      have hdone : ∀ j : Nat, ((mapWay H (j : Int)).isSome = true ∧ (left (j : Int) && !decide ((j : Int) = (i : Int))) = false) ↔ ((mapWay H (j : Int)).isSome = true ∧ left (j : Int) = false) ∨ j = i := by
        intro j
        by_cases e : j = i
        · subst e
          simp [HLS.out _ hx hlx]
        · have : ¬ (j : Int) = (i : Int) := by omega
          simp [this, e]
      have HDN := Lib.hid hdone; clear hdone
      have hleft : ∀ x, InR x → (left x && !decide (x = (i : Int))) = true → (mapWay H x).isSome = true := fun x hx h => HLS.out x hx (by simp at h; exact h.1)
      have HLF := Lib.hid hleft; clear hleft hlx
      by_cases h0 : 0 < t
      · obtain ⟨q, hq, q0, q1, q2⟩ : ∃ q, (a.cap - v).tdiv t = q ∧ 0 ≤ q ∧ q ≤ a.cap ∧ ∀ d, 0 ≤ d → (d ≤ q ↔ 0 ≤ v + d * t ∧ v + d * t ≤ a.cap) := ⟨_, rfl, fits_up hfv.1 hfv.2 h0⟩
        rw [HT.out] at q2
        have HQ := Lib.hid q2; clear q2
        by_cases hmin : r ≤ q
        · go_wp2_with fail
          go_quiet (fail)
          go_wp2_with fail
          go_roundw
          case rel =>
            have hr := HRO.out.step HL.out HV.out HDN.out q0 HQ.out
            rw [if_pos (show r ≤ q by omega)] at hr
            exact ⟨_, cnt1, _, hrg1.drewN _, HLF.out, rfl, by first | exact hr | (rw [if_neg (by omega)]; exact hr) | (rw [if_pos (by omega)]; exact hr), below_drewN' hbr _⟩
          case measure => rw [(hrg1.drewN _).left_eq, hrg.left_eq]; exact hlt
        · go_wp2_with fail
          go_quiet (fail)
          go_wp2_with fail
          go_roundw
          case rel =>
            have hr := HRO.out.step HL.out HV.out HDN.out q0 HQ.out
            rw [if_neg (show ¬ r ≤ q by omega)] at hr
            exact ⟨_, cnt1, _, hrg1.drewN _, HLF.out, rfl, by first | exact hr | (rw [if_neg (by omega)]; exact hr) | (rw [if_pos (by omega)]; exact hr), below_drewN' hbr _⟩
          case measure => rw [(hrg1.drewN _).left_eq, hrg.left_eq]; exact hlt
      · by_cases h1 : t < 0
        · obtain ⟨q, hq, q0, q1, q2⟩ : ∃ q, v.tdiv (-t) = q ∧ 0 ≤ q ∧ q ≤ a.cap ∧ ∀ d, 0 ≤ d → (d ≤ q ↔ 0 ≤ v + d * t ∧ v + d * t ≤ a.cap) := ⟨_, rfl, fits_down hfv.1 hfv.2 h1⟩
          rw [HT.out] at q2
          have HQ := Lib.hid q2; clear q2
          have hnz : ¬ -t = 0 := by omega
          by_cases hmin : r ≤ q
          · go_wp2_with fail
            go_roundw
            case rel =>
              have hr := HRO.out.step HL.out HV.out HDN.out q0 HQ.out
              rw [if_pos (show r ≤ q by omega)] at hr
              exact ⟨_, cnt1, _, hrg1, HLF.out, rfl, by first | exact hr | (rw [if_neg (by omega)]; exact hr) | (rw [if_pos (by omega)]; exact hr), hbr⟩
            case measure => rw [hrg1.left_eq, hrg.left_eq]; exact hlt
          · go_wp2_with fail
            go_roundw
            case rel =>
              have hr := HRO.out.step HL.out HV.out HDN.out q0 HQ.out
              rw [if_neg (show ¬ r ≤ q by omega)] at hr
              exact ⟨_, cnt1, _, hrg1, HLF.out, rfl, by first | exact hr | (rw [if_neg (by omega)]; exact hr) | (rw [if_pos (by omega)]; exact hr), hbr⟩
            case measure => rw [hrg1.left_eq, hrg.left_eq]; exact hlt
        · obtain rfl : t = 0 := by omega
          go_wp2_with fail
          go_roundw
          case rel =>
            exact ⟨_, cnt1, _, hrg1, HLF.out, rfl, HRO.out.same HDN.out HT.out.symm HFL.out, hbr⟩
          case measure => rw [hrg1.left_eq, hrg.left_eq]; exact hlt

end Go.Proofs.Ythpmappcfgiggaa

/-! Layer 3: Room. -/
namespace Go.Proofs.Ythpmappcfgiggaa
open Go.RowKit Go.Maps

set_option maxHeartbeats 2000000 in
theorem room_good (N : Nat) (S T : Int) (A : Option Addr) (n c : Nat) (l : List ArcN) (AF : Option Addr) (m cF : Nat) (F : List Int) (AH : Option Addr) (p cH : Nat) (H : List HopN) (w : World) (hA : Arcs w w.heap.size A n l) (hck : checkF N S T l = 0)
    (hF : Ints w w.heap.size AF m F) (hfl : FlowIn l F) (hH : Hops w w.heap.size AH p H) (hp : p ≤ 1000000000) (hw : IsWay l H) :
    Calls Try.prog 31 #[.agg #[.int .i64 N, .int .i64 S, .int .i64 T, .slice A n c], .slice AF m cF, .slice AH p cH] w fun e w' => ∃ r, e = .returned (.tuple #[.int .i64 r, .int .i64 0]) ∧ IsRoom l F H r ∧ Below w.heap.size w w' := by
  have hend := ends_in hck
  obtain ⟨-, -, hn3, -, -, -, -, -, -, hnn, htot⟩ := hend
  have hcap : ∀ a ∈ l, a.cap ≤ 4611686018427387904 := fun a ha => by
    obtain ⟨i, hi⟩ := List.getElem?_of_mem ha
    have := total_at hnn hi
    unfold maxSum at htot
    omega
  have hln := hA.len
  have hlm := hF.len
  have hlf := hfl.len
  have hlp := hH.len
  have hHR : ∀ h ∈ H, InR h.arc := fun h hh => by have := hw.arcs h hh; unfold InR; omega
  have hHN : ∀ h ∈ H, 0 ≤ h.arc ∧ h.arc < n := fun h hh => by have := hw.arcs h hh; omega
  have HCAP := Lib.hid hcap; have HHR := Lib.hid hHR; have HHN := Lib.hid hHN; have HFL := Lib.hid hfl; have HC := Lib.hid hck
  clear hcap hHR hHN hnn htot hck hfl
  go_enter Try.func31, Try.ntmps31
  go_wp2_with fail
  refine (flowIn_any N S T A n c l AF m cF F true _ (hA.onAlloc _) (by omega) HC.out (hF.onAlloc _) (by omega) (by simp; exact HFL.out)).mono ?_
  rintro e w1 ⟨rfl, B1⟩
  have K1 : Blk w1 w.heap.size 24 #[.int .i64 N, .int .i64 S, .int .i64 T, .slice A n c] := (Blk.new rfl).below B1 (by simp)
  have a1 := (hA.onAlloc (.cells #[.int .i64 N, .int .i64 S, .int .i64 T, .slice A n c] 24)).on B1
  have F1 := (hF.onAlloc (.cells #[.int .i64 N, .int .i64 S, .int .i64 T, .slice A n c] 24)).on B1
  have H1 := (hH.onAlloc (.cells #[.int .i64 N, .int .i64 S, .int .i64 T, .slice A n c] 24)).on B1
  have Bw1 := below_step (below_alloc _) B1
  clear B1
  obtain ⟨x0, x1, x2, x3⟩ := K1.at4
  have hz1 := K1.lt
  go_wp2_with fail
  refine (isPath_any N S T A n c l AH p cH H true _ a1 H1 (by omega) (by simp; exact hw)).mono ?_
  rintro e w2 ⟨rfl, B2⟩
  have K2 := K1.below B2 K1.lt
  have a2 := a1.on B2
  have F2 := F1.on B2
  have H2 := H1.on B2
  have Bw2 := below_step Bw1 B2
  clear B2 x0 x1 x2 x3 K1 a1 F1 H1 Bw1
  go_wp2_with fail
  have HK := Lib.hid K2; have HA2 := Lib.hid (fun (W : World) (hb : Below w2.heap.size w2 W) => a2.on hb); have HF2 := Lib.hid (fun (W : World) (hb : Below w2.heap.size w2 W) => F2.on hb); have HH2 := Lib.hid (fun (W : World) (hb : Below w2.heap.size w2 W) => H2.on hb)
  go_region_held3 (fun W => Below w2.heap.size w2 W ∧ W.cell? ⟨w.heap.size, 0, none⟩ = some (.int .i64 (N : Int)) ∧ W.cell? ⟨w.heap.size, 1, none⟩ = some (.int .i64 S) ∧ W.cell? ⟨w.heap.size, 2, none⟩ = some (.int .i64 T) ∧ W.cell? ⟨w.heap.size, 3, none⟩ = some (.slice A n c))
    (first
      | exact room_keep HK.out (Below.refl _ _).drew
      | (go_split_ands
         exact room_keep HK.out (by refine below_step ?_ (by assumption); assumption)))
    (first
      | (go_at_call 46; go_split_ands; ((with_reducible refine (surplus_any _ _ _ H _ (HH2.out _ (by assumption)) (by omega) HHR.out).mono ?_); rintro e W4 ⟨rfl, M4', B4⟩; have M4 : MapsTo intV Try.prog 3 2 W4 w2.heap.size p (mapWay H) := M4'))
      | (go_at_call 45; go_split_ands; ((with_reducible refine (least_any N S T A n c l AF m cF F _ p H _ (HA2.out _ (by assumption)) (HF2.out _ (by assumption)) HFL.out HCAP.out M4 HHN.out (by omega) (by omega)).mono ?_); rintro e W5 ⟨r, rfl, hr, B5⟩)))
  go_split_ands
  go_wp2_with fail
  go_ret2
  exact ⟨r, rfl, hr, below_step Bw2 (by assumption)⟩

end Go.Proofs.Ythpmappcfgiggaa

/-! Layer 3: Room's errors; Send. -/
namespace Go.Proofs.Ythpmappcfgiggaa
open Go.RowKit Go.Maps
set_option maxRecDepth 100000

set_option maxHeartbeats 1000000 in
theorem room_flow (N : Nat) (S T : Int) (A : Option Addr) (n c : Nat) (l : List ArcN) (AF : Option Addr) (m cF : Nat) (F : List Int) (v : Value) (w : World) (hA : Arcs w w.heap.size A n l) (hck : checkF N S T l = 0)
    (hF : Ints w w.heap.size AF m F) (hm : m ≤ 1000000000000) (hfl : ¬ FlowIn l F) :
    Calls Try.prog 31 #[.agg #[.int .i64 N, .int .i64 S, .int .i64 T, .slice A n c], .slice AF m cF, v] w fun e w' => e = .returned (.tuple #[.int .i64 0, .int .i64 20]) ∧ Below w.heap.size w w' := by
  have hn3 := (ends_in hck).2.2.1
  have hln := hA.len
  go_enter Try.func31, Try.ntmps31
  go_wp2_with fail
  refine (flowIn_any N S T A n c l AF m cF F false _ (hA.onAlloc _) (by omega) hck (hF.onAlloc _) hm (by simp only [Bool.false_eq_true, false_iff]; exact hfl)).mono ?_
  rintro e w1 ⟨rfl, B1⟩
  go_wp2_with fail
  go_ret2
  exact ⟨rfl, below_step (below_alloc _) B1⟩

set_option maxHeartbeats 1000000 in
theorem room_way (N : Nat) (S T : Int) (A : Option Addr) (n c : Nat) (l : List ArcN) (AF : Option Addr) (m cF : Nat) (F : List Int) (AH : Option Addr) (p cH : Nat) (H : List HopN) (w : World) (hA : Arcs w w.heap.size A n l) (hck : checkF N S T l = 0)
    (hF : Ints w w.heap.size AF m F) (hfl : FlowIn l F) (hH : Hops w w.heap.size AH p H) (hp : p ≤ 1000000000) (hw : ¬ IsWay l H) :
    Calls Try.prog 31 #[.agg #[.int .i64 N, .int .i64 S, .int .i64 T, .slice A n c], .slice AF m cF, .slice AH p cH] w fun e w' => e = .returned (.tuple #[.int .i64 0, .int .i64 13]) ∧ Below w.heap.size w w' := by
  have hn3 := (ends_in hck).2.2.1
  have hln := hA.len
  have hlm := hF.len
  have hlf := hfl.len
  go_enter Try.func31, Try.ntmps31
  go_wp2_with fail
  refine (flowIn_any N S T A n c l AF m cF F true _ (hA.onAlloc _) (by omega) hck (hF.onAlloc _) (by omega) (by simp; exact hfl)).mono ?_
  rintro e w1 ⟨rfl, B1⟩
  have K1 : Blk w1 w.heap.size 24 #[.int .i64 N, .int .i64 S, .int .i64 T, .slice A n c] := (Blk.new rfl).below B1 (by simp)
  have a1 := (hA.onAlloc (.cells #[.int .i64 N, .int .i64 S, .int .i64 T, .slice A n c] 24)).on B1
  have H1 := (hH.onAlloc (.cells #[.int .i64 N, .int .i64 S, .int .i64 T, .slice A n c] 24)).on B1
  have Bw1 := below_step (below_alloc _) B1
  clear B1
  obtain ⟨x0, x1, x2, x3⟩ := K1.at4
  have hz1 := K1.lt
  have HC := Lib.hid hck; clear hck
  go_wp2_with fail
  refine (isPath_any N S T A n c l AH p cH H false _ a1 H1 (by omega) (by simp only [Bool.false_eq_true, false_iff]; exact hw)).mono ?_
  rintro e w2 ⟨rfl, B2⟩
  go_wp2_with fail
  go_ret2
  exact ⟨rfl, below_step Bw1 B2⟩

set_option maxHeartbeats 1000000 in
theorem send_flow (N : Nat) (S T : Int) (A : Option Addr) (n c : Nat) (l : List ArcN) (AF : Option Addr) (m cF : Nat) (F : List Int) (v : Value) (d : Int) (w : World) (hA : Arcs w w.heap.size A n l) (hck : checkF N S T l = 0)
    (hF : Ints w w.heap.size AF m F) (hm : m ≤ 1000000000000) (hfl : ¬ FlowIn l F) :
    Calls Try.prog 32 #[.agg #[.int .i64 N, .int .i64 S, .int .i64 T, .slice A n c], .slice AF m cF, v, .int .i64 d] w fun e w' => e = .returned (.tuple #[.slice none 0 0, .int .i64 20]) ∧ Below w.heap.size w w' := by
  go_enter Try.func32, Try.ntmps32
  go_wp2_with fail
  refine (room_flow N S T A n c l AF m cF F v _ (hA.onAlloc _) hck (hF.onAlloc _) hm hfl).mono ?_
  rintro e w1 ⟨rfl, B1⟩
  go_wp2_with fail
  go_ret2
  exact ⟨rfl, below_step (below_alloc _) B1⟩

theorem IsRoom.eq {l : List ArcN} {F : List Int} {H : List HopN} {r s : Int} (h1 : IsRoom l F H r) (h2 : IsRoom l F H s) : r = s := by
  have e1 := (h1.2.2 s h2.1 h2.2.1).2 ((h2.2.2 s h2.1 h2.2.1).1 (Int.le_refl _))
  have e2 := (h2.2.2 r h1.1 h1.2.1).2 ((h1.2.2 r h1.1 h1.2.1).1 (Int.le_refl _))
  omega

set_option maxHeartbeats 1000000 in
theorem send_arg (N : Nat) (S T : Int) (A : Option Addr) (n c : Nat) (l : List ArcN) (AF : Option Addr) (m cF : Nat) (F : List Int) (AH : Option Addr) (p cH : Nat) (H : List HopN) (r d : Int) (w : World) (hA : Arcs w w.heap.size A n l) (hck : checkF N S T l = 0)
    (hF : Ints w w.heap.size AF m F) (hfl : FlowIn l F) (hH : Hops w w.heap.size AH p H) (hp : p ≤ 1000000000) (hw : IsWay l H) (hr : IsRoom l F H r) (hd : d < 0 ∨ r < d) :
    Calls Try.prog 32 #[.agg #[.int .i64 N, .int .i64 S, .int .i64 T, .slice A n c], .slice AF m cF, .slice AH p cH, .int .i64 d] w fun e w' => e = .returned (.tuple #[.slice none 0 0, .int .i64 2]) ∧ Below w.heap.size w w' := by
  by_cases h0 : d < 0
  all_goals
    go_enter Try.func32, Try.ntmps32
    go_wp2_with fail
    refine (room_good N S T A n c l AF m cF F AH p cH H _ (hA.onAlloc _) hck (hF.onAlloc _) hfl (hH.onAlloc _) hp hw).mono ?_
    rintro e w1 ⟨r', rfl, hr', B1⟩
    obtain rfl := hr.eq hr'
    clear hr'
    have hr0 := hr.1
    have hd' : d < 0 ∨ r < d := hd
    have HR := Lib.hid hr
    clear hr hd
  · go_wp2_with fail
    go_ret2
    exact ⟨rfl, below_step (below_alloc _) B1⟩
  · have h1 : r < d := by omega
    clear hd'
    go_wp2_with fail
    go_ret2
    exact ⟨rfl, below_step (below_alloc _) B1⟩

/-- The numbers on the way: those of which 'done' speaks are as they shall be. -/
structure SentTo (F : List Int) (H : List HopN) (d : Int) (done : Nat → Bool) (X : List Int) : Prop where
  len : X.length = F.length
  ent : ∀ (i : Nat) (x : Int), F[i]? = some x → X[i]? = some (if done i = true then x + d * surp H i else x)
theorem SentTo.zero {F : List Int} {H : List HopN} {d : Int} {done : Nat → Bool} (h : ∀ i, i < F.length → done i = false) : SentTo F H d done F :=
  ⟨rfl, fun i x hx => by rw [h i (List.getElem?_eq_some_iff.1 hx).1]; exact hx⟩
theorem SentTo.step {F X : List Int} {H : List HopN} {d x : Int} {done done' : Nat → Bool} {i : Nat} (h : SentTo F H d done X) (hx : F[i]? = some x) (hd : ∀ j, done' j = true ↔ done j = true ∨ j = i) : SentTo F H d done' (X.set i (x + d * surp H i)) := by
  refine ⟨by simp [h.len], fun j y hy => ?_⟩
  have hlt := (List.getElem?_eq_some_iff.1 hx).1
  by_cases e : j = i
  · subst e
    rw [hx] at hy
    injection hy with hy
    subst hy
    rw [List.getElem?_set_self (by rw [h.len]; exact hlt), if_pos ((hd j).2 (.inr rfl))]
  · rw [List.getElem?_set_ne (fun e' => e e'.symm), h.ent j y hy]
    have : done' j = done j := by
      rw [Bool.eq_iff_iff, hd j]
      simp [e]
    rw [this]
theorem SentTo.at {F X : List Int} {H : List HopN} {d x : Int} {done : Nat → Bool} {i : Nat} (h : SentTo F H d done X) (hx : F[i]? = some x) (hd : done i = false) : X[i]? = some x := by
  have := h.ent i x hx
  rw [hd] at this
  simpa using this
theorem SentTo.all {F X : List Int} {H : List HopN} {d : Int} {done : Nat → Bool} (h : SentTo F H d done X) (hd : ∀ j : Nat, j < F.length → done j = false → surp H j = 0) : X = sent F H d := by
  refine sent_ext h.len fun i x hx => ?_
  rw [h.ent i x hx]
  have hlt := (List.getElem?_eq_some_iff.1 hx).1
  cases hdi : done i
  · rw [hd i hlt hdi, Int.mul_zero, Int.add_zero]; rfl
  · rfl

theorem longs_info' : (Try.prog.info? 2).map (fun i => (i.zero, i.size, i.bytes)) = some (some (.int .i64 0), 1, 8) := long_info

set_option maxHeartbeats 4000000 in
theorem send_fit (N : Nat) (S T : Int) (A : Option Addr) (n c : Nat) (l : List ArcN) (AF : Option Addr) (m cF : Nat) (F : List Int) (AH : Option Addr) (p cH : Nat) (H : List HopN) (d : Int) (w : World) (hA : Arcs w w.heap.size A n l) (hck : checkF N S T l = 0)
    (hF : Ints w w.heap.size AF m F) (hfl : FlowIn l F) (hH : Hops w w.heap.size AH p H) (hp : p ≤ 1000000000) (hw : IsWay l H) (hd0 : 0 ≤ d) (hdm : d ≤ maxSum) (hfs : FlowIn l (sent F H d)) :
    Calls Try.prog 32 #[.agg #[.int .i64 N, .int .i64 S, .int .i64 T, .slice A n c], .slice AF m cF, .slice AH p cH, .int .i64 d] w (RetLongs m (sent F H d) w) := by
  have hend := ends_in hck
  obtain ⟨-, -, hn3, -, -, -, -, -, -, hnn, htot⟩ := hend
  have hcap : ∀ a ∈ l, a.cap ≤ 4611686018427387904 := fun a ha => by
    obtain ⟨i, hi⟩ := List.getElem?_of_mem ha
    have := total_at hnn hi
    unfold maxSum at htot
    omega
  have hln := hA.len
  have hlm := hF.len
  have hlf := hfl.len
  have hlp := hH.len
  have hHR : ∀ h ∈ H, InR h.arc := fun h hh => by have := hw.arcs h hh; unfold InR; omega
  have hHN : ∀ h ∈ H, 0 ≤ h.arc ∧ h.arc < n := fun h hh => by have := hw.arcs h hh; omega
  obtain ⟨i0, hi, hz0, hz1, hz2⟩ := info_parts long_info
  have hmk := fun W => run_make_lit (P := Try.prog) 25 2 i0 _ Try.underlying25 hi hz0 m (by rw [hz2]; omega) (by omega) W
  rw [hz1] at hmk
  generalize hmc : madeCells (Value.int .i64 0).cells (m * 1) = mc at hmk
  have HS : Hid (mc.size = m * 1) := by rw [← hmc]; exact size_madeCells _ _
  clear hmc
  have HI := Lib.hid hi; have HZ := Lib.hid hz1
  clear hi hz0 hz1 hz2
  have HCAP := Lib.hid hcap; have HHR := Lib.hid hHR; have HHN := Lib.hid hHN; have HFL := Lib.hid hfl; have HC := Lib.hid hck; have HFS := Lib.hid hfs; have HDM := Lib.hid hdm; have HLF := Lib.hid hlf
  clear hcap hHR hHN hnn htot hck hfl hfs hdm
  go_enter Try.func32, Try.ntmps32
  go_wp2_with fail
  refine (room_good N S T A n c l AF m cF F AH p cH H _ (hA.onAlloc _) HC.out (hF.onAlloc _) HFL.out (hH.onAlloc _) hp hw).mono ?_
  rintro e w1 ⟨r, rfl, hr, B1⟩
  have hd1 : d ≤ r := (hr.2.2 d hd0 HDM.out).2 HFS.out
  have hrm : r ≤ 4611686018427387904 := hr.2.1
  clear hr
  have F1 := (hF.onAlloc (.cells #[.int .i64 N, .int .i64 S, .int .i64 T, .slice A n c] 24)).on B1
  have H1 := (hH.onAlloc (.cells #[.int .i64 N, .int .i64 S, .int .i64 T, .slice A n c] 24)).on B1
  have Bw1 := below_step (below_alloc _) B1
  clear B1
  go_wp2_with (with_reducible refine wpList_copy_fill rfl (.tmp 35) (.tmp 36) _ _ rfl 2 i0 1 Try.underlying25 HI.out HZ.out w1.heap.size m m cF AF rfl rfl mc (F.flatMap intCells) ?_ HS.out ?_ ?_ int_one ?_)
  · exact heap_new_at rfl
  · rw [flat_len (int_len F), hF.len]
  · exact RdBy.src (int_len F) ((F1.onAlloc _))
  · intro w2 HO hg hsz
    have hb := below_of_grown hg (by simp)
    have KX : Blk w2 w1.heap.size 2 (ivs F) := by
      have := HO.out
      unfold Blk ivs
      rw [ivs_flat]
      exact this
    have hb1 : Below w1.heap.size w1 w2 := (below_alloc _).trans hb
    have H2 := H1.on hb1
    have F2 := F1.on hb1
    have hsz2 : w2.heap.size = w1.heap.size + 1 := by simpa using hsz
    have Bw2 := below_step Bw1 hb1
    have HSZ2 := Lib.hid hsz2
    clear hsz hg hb HO hmk hsz2
    have eb1 : decide (d < 0) = false := by simpa using hd0
    have eb2 : decide (r < d) = false := by simpa using hd1
    go_wp2_with fail
    refine (surplus_any _ _ _ H _ H2 (by omega) HHR.out).mono ?_
    rintro e w3 ⟨rfl, M3, B3⟩
    have KX3 := KX.below B3 KX.lt
    have F3 := F2.on B3
    have Bw3 := below_step Bw2 B3
    have Bw1' := Bw1
    clear KX F2 H2 H1 Bw1 Bw2
    go_wp2_with (first
      | (at_range; refine wpList_range_to rfl _ rfl rfl M3 ?_; intro w0 left0 cnt0 hrg0 hl0 hg0 hs0)
      | fail)
    have HL0 := hl0; clear hl0
    have B0 : Below w3.heap.size w3 w0 := ⟨hg0.os, hg0.tape, hg0.output, hg0.size, fun k hk => hg0.block k hk (by simp)⟩
    have KX0 := KX3.below B0 KX3.lt
    have F0 := F3.on B0
    have Bw0 := below_step Bw3 B0
    have hne2 : w2.heap.size ≠ w1.heap.size := by have := HSZ2.out; omega
    have hz3 := KX3.lt
    have hz32 := M3.lt
    go_frame
    go_loopw [13, 14] (fun _ _ wr => ∃ (left : Int → Bool) (cnt : Nat) (X : List Int), RangesTo wr w2.heap.size w3.heap.size p (mapWay H) left cnt ∧ (∀ x, InR x → left x = true → (mapWay H x).isSome = true) ∧
        SentTo F H d (fun i => (mapWay H (i : Int)).isSome && !left (i : Int)) X ∧ Blk wr w1.heap.size 2 (ivs X) ∧ Below w1.heap.size w1 wr) (fun _ _ wr => wr.rangeLeft w2.heap.size w3.heap.size)
    case atStart =>
      refine ⟨left0, cnt0, F, hrg0, fun x hx h => by rw [← HL0.out x hx]; exact h, SentTo.zero fun i hi => ?_, KX0, hb1.trans ((B3.mono (by have := HSZ2.out; omega)).trans (B0.mono (by omega)))⟩
      rw [HL0.out (i : Int) (by unfold InR; omega)]
      cases (mapWay H (i : Int)).isSome <;> rfl
    case round =>
      obtain ⟨left, cnt, X, hrg, hls, hst, KX, hb⟩ := hrel
      have HLS := Lib.hid hls; have HST := Lib.hid hst; clear hls hst
      go_wp2_with (first
        | (at_next; refine wpList_next_to rfl _ rfl rfl hrg ?_ ?_)
        | fail)
      · intro hl
        have HD := Lib.hid hl; clear hl
        go_wp2_with fail
        go_ret2
        have hX := HST.out.all fun j hj hdn => by
          cases hm : (mapWay H (j : Int)).isSome
          · exact mapWay_none hm
          · rw [hm, HD.out _ (by unfold InR; omega)] at hdn
            cases hdn
        rw [hX] at KX
        exact ⟨_, rfl, by have := Bw1'.size; omega, KX, by rw [sent_len, hF.len], Bw1'.trans (hb.mono Bw1'.size)⟩
      · intro x t wn cnt1 hx hlx ht hrg1 hlt hg1 hs1 hen
        obtain ⟨h, hh, hhx⟩ := mapWay_some (HLS.out x hx hlx)
        have hxr := HHN.out h hh
        rw [hhx] at hxr
        clear hh hhx h
        obtain ⟨i, rfl⟩ := Int.eq_ofNat_of_zero_le hxr.1
        have ht' : t = surp H i := by rw [ht.out, mapWay_getD]
        have HT := Lib.hid ht'; clear ht' ht
        have hzx := KX.lt
        have hzn2 := hrg.lt
        have B1 : Below (w1.heap.size + 1) wr wn := ⟨hg1.os, hg1.tape, hg1.output, hg1.size, fun k hk => hg1.block k (by omega) (fun e => by injection e with e; have := HSZ2.out; omega)⟩
        have hbr : Below w1.heap.size w1 wn := hb.trans (B1.mono (by omega))
        have KX1 := KX.below B1 (by omega)
        clear hg1 B1
        obtain ⟨v, hv⟩ : ∃ v, F[i]? = some v := ⟨_, List.getElem?_eq_getElem (by omega)⟩
        obtain ⟨a, ha⟩ : ∃ a, l[i]? = some a := ⟨_, List.getElem?_eq_getElem (by omega)⟩
        have hfs := HFS.out.ent i a _ ha (sent_at H d hv)
        rw [← HT.out] at hfs
        have hfv := HFL.out.ent i a v ha hv
        have hca := HCAP.out a (mem_at ha)
        have hXv := HST.out.at (i := i) hv (by rw [hlx]; cases (mapWay H (i : Int)).isSome <;> rfl)
        have c0 := KX1.iat hXv
        have f0 := KX1.frozen i
        have him : (i : Int) < (m : Int) := by omega
        obtain ⟨y, hy⟩ : ∃ y, d * t = y := ⟨_, rfl⟩
        rw [hy] at hfs
        have hne3 : w2.heap.size ≠ w1.heap.size := hne2
        have hne4 : w3.heap.size ≠ w1.heap.size := by omega
        have hdone : ∀ j : Nat, ((mapWay H (j : Int)).isSome && !(left (j : Int) && !decide ((j : Int) = (i : Int)))) = true ↔ ((mapWay H (j : Int)).isSome && !left (j : Int)) = true ∨ j = i := by
          intro j
          by_cases e : j = i
          · subst e
            simp [HLS.out _ hx hlx]
          · have : ¬ (j : Int) = (i : Int) := by omega
            simp [this, e]
        have HDN := Lib.hid hdone; clear hdone
        have hleft : ∀ x, InR x → (left x && !decide (x = (i : Int))) = true → (mapWay H x).isSome = true := fun x hx h => HLS.out x hx (by simp at h; exact h.1)
        have HLF2 := Lib.hid hleft; have HV := Lib.hid hv; clear hleft hlx hv ha hXv
        go_wp2_with fail
        go_roundw
        case rel =>
          refine ⟨_, cnt1, X.set i (v + d * surp H i), hrg1.setCell (by exact hne3) (by exact hne4) _, HLF2.out, HST.out.step HV.out HDN.out, ?_, hbr.setCell (by simp) _⟩
          rw [← HT.out, hy]
          exact KX1.iset i (v + y)
        case measure => rw [(hrg1.setCell (a := ⟨w1.heap.size, i, none⟩) (by exact hne3) (by exact hne4) _).left_eq, hrg.left_eq]; exact hlt

theorem send_good (N : Nat) (S T : Int) (A : Option Addr) (n c : Nat) (l : List ArcN) (AF : Option Addr) (m cF : Nat) (F : List Int) (AH : Option Addr) (p cH : Nat) (H : List HopN) (r d : Int) (w : World) (hA : Arcs w w.heap.size A n l) (hck : checkF N S T l = 0)
    (hF : Ints w w.heap.size AF m F) (hfl : FlowIn l F) (hH : Hops w w.heap.size AH p H) (hp : p ≤ 1000000000) (hw : IsWay l H) (hr : IsRoom l F H r) (hd0 : 0 ≤ d) (hd1 : d ≤ r) :
    Calls Try.prog 32 #[.agg #[.int .i64 N, .int .i64 S, .int .i64 T, .slice A n c], .slice AF m cF, .slice AH p cH, .int .i64 d] w (RetLongs m (sent F H d) w) :=
  send_fit N S T A n c l AF m cF F AH p cH H d w hA hck hF hfl hH hp hw hd0 (Int.le_trans hd1 hr.2.1) (hr.sent hd0 hd1)

end Go.Proofs.Ythpmappcfgiggaa
