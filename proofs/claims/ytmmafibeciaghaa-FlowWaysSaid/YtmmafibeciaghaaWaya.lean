/- Layer 3: hops in memory; ends, isPath. -/
import Derived.Test.YtmmafibeciaghaaFlowa
import Derived.Test.YtmmafibeciaghaaWayp
import Derived.Deep.RegionHeld3
import Derived.Deep.DeepCutAuto
import Derived.Deep.CutBlock
namespace Go.Proofs.Ytmmafibeciaghaa
open Go.RowKit

def hopCells (h : HopN) : List Value := [.int .i64 h.arc, .bool h.back]
abbrev Hops := RdBy hopCells 2
theorem hop_len (l : List HopN) : ∀ a ∈ l, (hopCells a).length = 2 := fun _ _ => rfl
theorem hop_one {l : List HopN} : ∀ v ∈ l.flatMap hopCells, v.oneCell' = true := by
  intro v hv
  obtain ⟨a, _, ha⟩ := List.mem_flatMap.1 hv
  simp only [hopCells, List.mem_cons, List.not_mem_nil, or_false] at ha
  rcases ha with rfl | rfl <;> rfl
theorem hop_info : (Try.prog.info? 43).map (fun i => (i.zero, i.size, i.bytes)) = some (some (.agg #[.int .i64 0, .bool false]), 2, 16) := by kernel_rfl
theorem hops_at {w : World} {B n : Nat} {A : Option Addr} {H : List HopN} (h : Hops w B A n H) {k : Nat} (hk : k < n) :
    ∃ (b off : Nat) (x : HopN), A = some ⟨b, off, none⟩ ∧ b < B ∧ H[k]? = some x ∧ w.cell? ⟨b, off + k * 2, none⟩ = some (.int .i64 x.arc) ∧ w.cell? ⟨b, off + k * 2 + 1, none⟩ = some (.bool x.back) := by
  obtain ⟨a, ha⟩ := h.get hk
  obtain ⟨b, off, e, hb, hc⟩ := h.2 (by omega)
  exact ⟨b, off, a, e, hb, ha, hc k a ha 0 _ rfl, hc k a ha 1 _ rfl⟩
theorem hops_own {w : World} {base n c : Nat} {A : Option Addr} {H : List HopN} (h : w.ownsRow base 43 2 (.slice A n c) n (H.flatMap hopCells)) (hl : H.length = n) : Hops w w.heap.size A n H := RdBy.of_own hl (hop_len H) h
theorem hops_new {w : World} {g n : Nat} {H : List HopN} (h : w.heap.size = g) (hl : H.length = n) (hn : n ≤ maxLen) : Hops (w.alloc (.cells (H.flatMap hopCells).toArray 43)) (w.alloc (.cells (H.flatMap hopCells).toArray 43)).heap.size (some ⟨g, 0, none⟩) n H :=
  RdBy.of_own (base := 0) hl (hop_len H) (own_of_block (Blk.new h) (Nat.zero_le _) hn (by rw [flat_len (hop_len H), hl]))

set_option maxHeartbeats 400000 in
theorem ends_any' (a : ArcN) (b : Bool) (w : World) :
    Calls Try.prog 32 #[.agg #[.int .i64 a.frm, .int .i64 a.to, .int .i64 a.cap], .bool b] w fun e w' => e = .returned (.tuple #[.int .i64 (hBegin a b), .int .i64 (hEnd a b)]) ∧ Below w.heap.size w w' := by
  cases b
  all_goals
    go_enter Try.func32, Try.ntmps32
    go_wp2_with fail
    go_quiet (fail)
    go_wp2_with fail
    go_ret2
    exact ⟨rfl, below_drewN' (below_alloc _) _⟩

/-- Do the hops make a way? -/
def IsWay (l : List ArcN) (H : List HopN) : Prop := H = [] ∨ ∃ v w, Way l v H w
theorem IsWay.arcs {l : List ArcN} {H : List HopN} (h : IsWay l H) : ∀ k ∈ H, 0 ≤ k.arc ∧ k.arc < l.length := by
  rcases h with rfl | ⟨v, w, h⟩
  · simp
  · exact h.arcs
theorem Way.front {l : List ArcN} {H K : List HopN} {v w : Int} (h : Way l v (H ++ K) w) : ∃ x, Way l v H x := by
  induction H generalizing v with
  | nil => exact ⟨v, rfl⟩
  | cons k t ih =>
    obtain ⟨y, h1, h2⟩ := h
    obtain ⟨x, hx⟩ := ih h2
    exact ⟨x, y, h1, hx⟩
/-- The next hop of a way begins where the way so far ends. -/
theorem IsWay.next {l : List ArcN} {H : List HopN} {k : Nat} {h : HopN} {a : ArcN} {v w : Int} (hw : IsWay l H) (hh : H[k]? = some h) (ha : l[h.arc.toNat]? = some a) (hk : k ≠ 0) (ht : Way l v (H.take k) w) : hBegin a h.back = w := by
  rcases hw with rfl | ⟨p, q, hw⟩
  · simp at hh
  · rw [← List.take_append_drop (k + 1) H] at hw
    obtain ⟨x, hx⟩ := hw.front
    rw [take_at hh] at hx
    obtain ⟨y, h1, h2⟩ := hx.unsnoc
    have hlt := (List.getElem?_eq_some_iff.1 hh).1
    have hne : H.take k ≠ [] := fun e => by have := congrArg List.length e; rw [List.length_take] at this; simp only [List.length_nil] at this; omega
    obtain ⟨_, e⟩ := ht.end_eq h1 hne
    obtain ⟨_, a', ha', e1, _⟩ := h2
    rw [ha] at ha'
    injection ha' with ha'
    subst ha'
    omega

theorem path_keep {W0 W : World} {g gh b o i n c : Nat} {N S T : Int} {A : Option Addr} {bk : Bool} {a : ArcN} (K : Blk W0 g 24 #[.int .i64 N, .int .i64 S, .int .i64 T, .slice A n c]) (E : Blk W0 gh 43 #[.int .i64 i, .bool bk]) (hb : b < W0.heap.size)
    (c0 : W0.cell? ⟨b, o, none⟩ = some (.int .i64 a.frm)) (c1 : W0.cell? ⟨b, o + 1, none⟩ = some (.int .i64 a.to)) (c2 : W0.cell? ⟨b, o + 2, none⟩ = some (.int .i64 a.cap)) (hB : Below W0.heap.size W0 W) :
    Below W0.heap.size W0 W ∧ W.cell? ⟨g, 3, none⟩ = some (.slice A n c) ∧ W.cell? ⟨gh, 0, none⟩ = some (.int .i64 i) ∧ W.cell? ⟨gh, 1, none⟩ = some (.bool bk) ∧
      W.cell? ⟨b, o, none⟩ = some (.int .i64 a.frm) ∧ W.cell? ⟨b, o + 1, none⟩ = some (.int .i64 a.to) ∧ W.cell? ⟨b, o + 2, none⟩ = some (.int .i64 a.cap) :=
  ⟨hB, (K.below hB K.lt).cell 3, (E.below hB E.lt).cell 0, (E.below hB E.lt).cell 1, (hB.cell (p := ⟨b, o, none⟩) hb).trans c0, (hB.cell (p := ⟨b, o + 1, none⟩) hb).trans c1, (hB.cell (p := ⟨b, o + 2, none⟩) hb).trans c2⟩

set_option maxHeartbeats 2000000 in
theorem isPath_any (N S T : Int) (A : Option Addr) (n c : Nat) (l : List ArcN) (AH : Option Addr) (m cH : Nat) (H : List HopN) (r : Bool) (w : World) (hA : Arcs w w.heap.size A n l)
    (hH : Hops w w.heap.size AH m H) (hm : m ≤ 1000000000000) (hr : r = true ↔ IsWay l H) :
    Calls Try.prog 28 #[.agg #[.int .i64 N, .int .i64 S, .int .i64 T, .slice A n c], .slice AH m cH] w fun e w' => e = .returned (.bool r) ∧ Below w.heap.size w w' := by
  have hfalse : ¬ IsWay l H → false = r := fun h => by
    cases r with
    | false => rfl
    | true => exact absurd (hr.1 rfl) h
  have HF := Lib.hid hfalse; clear hfalse
  have HT := Lib.hid hr.2; clear hr
  have hln := hA.len
  have hlm := hH.len
  go_enter Try.func28, Try.ntmps28
  go_wp2_with fail
  go_loopw [5, 6, 7, 8, 9, 12] (fun r5 _ _ _ _ i wr => ∃ (k : Nat) (x : Int), k ≤ m ∧ i = .int .i64 k ∧ r5 = .int .i64 x ∧ (k = 0 ∨ ∃ v, Way l v (H.take k) x) ∧ Below (w.heap.size + 1) (w.alloc (.cells #[.int .i64 N, .int .i64 S, .int .i64 T, .slice A n c] 24)) wr) (fun _ _ _ _ _ i _ => m - (intOf i).toNat)
  case atStart => exact ⟨0, 0, Nat.zero_le _, rfl, rfl, .inl rfl, Below.refl _ _⟩
  case round =>
    obtain ⟨k, x, hk, rfl, rfl, hp, hb⟩ := hrel
    have HP := Lib.hid hp; clear hp
    have hb0 : Below w.heap.size w wr := (below_alloc _).trans (hb.mono (Nat.le_succ _))
    have Kr : Blk wr w.heap.size 24 #[.int .i64 N, .int .i64 S, .int .i64 T, .slice A n c] := (Blk.new rfl).below hb (by omega)
    have hzr := Kr.lt
    by_cases hlt : k < m
    · obtain ⟨bh, oh, ⟨ar, bk⟩, rfl, hbh, hh, d0, d1⟩ := hops_at (hH.below hb0) hlt
      simp only at d0 d1
      have HH := Lib.hid hh; clear hh
      obtain ⟨x0, x1, x2, x3⟩ := Kr.at4
      by_cases h0 : ar < 0
      · go_wp2_with fail
        go_ret
        exact ⟨retb (HF.out fun h => by have := h.arcs _ (mem_at HH.out); simp only at this; omega), hb0.alloc hb0.size _⟩
      · by_cases h1 : (n : Int) ≤ ar
        · go_wp2_with fail
          go_ret
          exact ⟨retb (HF.out fun h => by have := h.arcs _ (mem_at HH.out); simp only at this; omega), hb0.alloc hb0.size _⟩
        · obtain ⟨i, rfl⟩ := Int.eq_ofNat_of_zero_le (show 0 ≤ ar by omega)
          obtain ⟨b, off, a, rfl, hbl, hla, c0, c1, c2⟩ := arcs_at (hA.below hb0) (k := i) (by omega)
          have HL := Lib.hid hla; clear hla
          have hin : (i : Int) < (n : Int) := by omega
          have hbw : b < wr.heap.size := by omega
          go_wp2_with fail
          have E0 : Blk (wr.alloc (.cells #[.int .i64 (i : Int), .bool bk] 43)) wr.heap.size 43 #[.int .i64 (i : Int), .bool bk] := Blk.new rfl
          have K0 := Kr.alloc (.cells #[.int .i64 (i : Int), .bool bk] 43)
          have bel0 : Below (w.heap.size + 1) (w.alloc (.cells #[.int .i64 N, .int .i64 S, .int .i64 T, .slice (some ⟨b, off, none⟩) n c] 24)) (wr.alloc (.cells #[.int .i64 (i : Int), .bool bk] 43)) := hb.alloc (by omega) _
          have z0 : (wr.alloc (.cells #[.int .i64 (i : Int), .bool bk] 43)).cell? ⟨b, off + i * 3, none⟩ = some (.int .i64 a.frm) := ((below_alloc (w := wr) _).cell (p := ⟨b, _, none⟩) hbw).trans c0
          have z1 : (wr.alloc (.cells #[.int .i64 (i : Int), .bool bk] 43)).cell? ⟨b, off + i * 3 + 1, none⟩ = some (.int .i64 a.to) := ((below_alloc (w := wr) _).cell (p := ⟨b, _, none⟩) hbw).trans c1
          have z2 : (wr.alloc (.cells #[.int .i64 (i : Int), .bool bk] 43)).cell? ⟨b, off + i * 3 + 2, none⟩ = some (.int .i64 a.cap) := ((below_alloc (w := wr) _).cell (p := ⟨b, _, none⟩) hbw).trans c2
          have hzz : b < (wr.alloc (.cells #[.int .i64 (i : Int), .bool bk] 43)).heap.size := by simp; omega
          generalize wr.alloc (.cells #[.int .i64 (i : Int), .bool bk] 43) = W0 at *
          clear c0 c1 c2 d0 d1 x0 x1 x2 x3 Kr hbw
          go_region_held3 (fun W => Below W0.heap.size W0 W ∧ W.cell? ⟨w.heap.size, 3, none⟩ = some (.slice (some ⟨b, off, none⟩) n c) ∧ W.cell? ⟨wr.heap.size, 0, none⟩ = some (.int .i64 (i : Int)) ∧ W.cell? ⟨wr.heap.size, 1, none⟩ = some (.bool bk) ∧
              W.cell? ⟨b, off + i * 3, none⟩ = some (.int .i64 a.frm) ∧ W.cell? ⟨b, off + i * 3 + 1, none⟩ = some (.int .i64 a.to) ∧ W.cell? ⟨b, off + i * 3 + 2, none⟩ = some (.int .i64 a.cap))
            (first
              | exact path_keep K0 E0 hzz z0 z1 z2 (Below.refl _ _).drew
              | (go_split_ands
                 exact path_keep K0 E0 hzz z0 z1 z2 (by refine below_step ?_ (by assumption); assumption)))
            (first
              | (go_at_call 32; ((with_reducible refine (ends_any' _ _ _).mono ?_); rintro e W4 ⟨rfl, B4⟩)))
          go_split_ands
          have hbW : Below W0.heap.size W0 W4 := by assumption
          have bel4 : Below (w.heap.size + 1) (w.alloc (.cells #[.int .i64 N, .int .i64 S, .int .i64 T, .slice (some ⟨b, off, none⟩) n c] 24)) W4 := bel0.trans (hbW.mono (by have := bel0.size; simp at this; omega))
          have hop : HopAt l ⟨(i : Int), bk⟩ (hBegin a bk) (hEnd a bk) := ⟨by simp only; omega, a, by simpa using HL.out, rfl, rfl⟩
          have HOP := Lib.hid hop; clear hop
          have hlw : Below w.heap.size w W4 := (below_alloc _).trans (bel4.mono (Nat.le_succ _))
          by_cases hk0 : k = 0
          · subst hk0
            have h00 : ¬ (0 : Int) < 0 := by omega
            go_wp2_with fail
            go_roundw
            case rel =>
              refine ⟨1, _, by omega, by go_num, rfl, .inr ⟨hBegin a bk, ?_⟩, bel4⟩
              have ht := take_at HH.out
              rw [show (1 : Nat) = 0 + 1 from rfl, ht]
              exact ⟨_, HOP.out, rfl⟩
            case measure => simp [intOf]; omega
          · have hk1 : (0 : Int) < (k : Int) := by omega
            by_cases hfr : hBegin a bk = x
            · have hfr' : (hBegin a bk != x) = false := by simpa using hfr
              go_wp2_with fail
              go_roundw
              case rel =>
                refine ⟨k + 1, _, by omega, by go_num, rfl, .inr ?_, bel4⟩
                rcases HP.out with h | ⟨v, hv⟩
                · exact absurd h hk0
                · refine ⟨v, ?_⟩
                  rw [take_at HH.out]
                  have := HOP.out
                  rw [hfr] at this
                  exact hv.snoc this
              case measure => simp [intOf]; omega
            · have hfr' : (hBegin a bk != x) = true := by simpa using hfr
              go_wp2_with fail
              go_ret
              refine ⟨retb (HF.out fun h => ?_), hlw⟩
              rcases HP.out with h' | ⟨v, hv⟩
              · exact hk0 h'
              · exact hfr (h.next (h := ⟨(i : Int), bk⟩) HH.out (by simpa using HL.out) hk0 hv)
    · go_wp2_with fail
      go_ret
      refine ⟨retb (HT.out ?_).symm, hb0⟩
      rcases HP.out with h | ⟨v, hv⟩
      · exact .inl (List.eq_nil_of_length_eq_zero (by omega))
      · rw [List.take_of_length_le (by omega)] at hv
        exact .inr ⟨_, _, hv⟩

end Go.Proofs.Ytmmafibeciaghaa
