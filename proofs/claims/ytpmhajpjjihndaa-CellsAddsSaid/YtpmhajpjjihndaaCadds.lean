/- CellsAdds, its walk: whatever is added to cells, in whichever order, comes to the same; what is added, and taken off again, leaves them as they were. -/
import Derived.Test.YtpmhajpjjihndaaAwa10
import Derived.Test.YtpmhajpjjihndaaOpenp
import Derived.Deep.RegionHeld3
import Derived.Deep.CutBlock
import Derived.Deep.DeepCutAuto
namespace Go.Proofs.Ytpmhajpjjihndaa
open Go.RowKit
set_option maxRecDepth 100000

/-- What accesses add to a cell, in whole numbers. -/
def sumAt (m : Nat) : List OpS → Nat → Int
  | [], _ => 0
  | a :: r, i => (if cellOf m a = i then a.v else 0) + sumAt m r i
theorem sumAt_app (m i : Nat) : ∀ (L R : List OpS), sumAt m (L ++ R) i = sumAt m L i + sumAt m R i
  | [], R => by simp [sumAt]
  | a :: r, R => by simp only [List.cons_append, sumAt, sumAt_app m i r R]; omega
theorem sumAt_next {m i k : Nat} {L : List OpS} {a : OpS} (h : L[k]? = some a) : sumAt m (L.take (k + 1)) i = sumAt m (L.take k) i + if cellOf m a = i then a.v else 0 := by
  rw [take_at h, sumAt_app]
  simp [sumAt]
/-- A list turned round. -/
def rotL (L : List OpS) (t : Nat) : List OpS := L.drop (t % L.length) ++ L.take (t % L.length)
theorem rotL_len (L : List OpS) (t : Nat) : (rotL L t).length = L.length := by
  unfold rotL
  rw [List.length_append, List.length_drop, List.length_take]
  rcases Nat.eq_zero_or_pos L.length with h | h
  · rw [h]; simp
  · have := Nat.mod_lt t h
    omega
theorem rotL_sum (L : List OpS) (t m i : Nat) : sumAt m (rotL L t) i = sumAt m L i := by
  unfold rotL
  rw [sumAt_app, Int.add_comm, ← sumAt_app, List.take_append_drop]
theorem rotL_at {L : List OpS} {t k : Nat} (hk : k < L.length) : (rotL L t)[k]? = L[(k + t) % L.length]? := by
  unfold rotL
  have h := Nat.mod_lt t (show 0 < L.length by omega)
  have e : (k + t) % L.length = (k + t % L.length) % L.length := by rw [Nat.add_mod, Nat.mod_eq_of_lt hk]
  rw [e]
  clear e
  generalize t % L.length = s at h
  by_cases hc : k < L.length - s
  · rw [List.getElem?_append_left (by rw [List.length_drop]; exact hc), List.getElem?_drop, Nat.mod_eq_of_lt (by omega), Nat.add_comm]
  · rw [List.getElem?_append_right (by rw [List.length_drop]; omega), List.length_drop, List.getElem?_take, if_pos (by omega)]
    have : (k + s) % L.length = k - (L.length - s) := by
      rw [Nat.mod_eq_sub_mod (by omega), Nat.mod_eq_of_lt (by omega)]
      omega
    rw [this]

/-- A row of m numbers: these sums, with wrap around. -/
def HIs (m : Nat) (H : List Int) (f : Nat → Int) : Prop := H.length = m ∧ ∀ i, i < m → H[i]? = some (wrap64 (f i))
theorem wrap_add (x y : Int) : wrap64 (wrap64 x + y) = wrap64 (x + y) := by unfold wrap64; omega
theorem wrap_add' (x y : Int) : wrap64 (x + wrap64 y) = wrap64 (x + y) := by unfold wrap64; omega
theorem HIs.zero (m : Nat) : HIs m (List.replicate m 0) fun _ => 0 := ⟨by simp, fun i hi => by
  have e : wrap64 0 = 0 := by unfold wrap64; omega
  rw [List.getElem?_replicate, if_pos hi]
  exact congrArg some e.symm⟩
theorem HIs.as {m : Nat} {H : List Int} {f f' : Nat → Int} (h : HIs m H f) (e : ∀ i, i < m → f' i = f i) : HIs m H f' := ⟨h.1, fun i hi => by rw [e i hi]; exact h.2 i hi⟩
theorem HIs.val {m : Nat} {H : List Int} {f : Nat → Int} (h : HIs m H f) {i : Nat} (hi : i < m) : cellV H (i : Int) = wrap64 (f i) := by
  rw [cellV_at, h.2 i hi]
  rfl
theorem HIs.add {m : Nat} {H : List Int} {f : Nat → Int} (h : HIs m H f) {c : Nat} (hc : c < m) (v : Int) : HIs m (putV H (c : Int) (wrap64 (cellV H (c : Int) + v))) fun i => f i + if c = i then v else 0 := by
  refine ⟨by rw [putV_len]; exact h.1, fun i hi => ?_⟩
  rw [h.val hc]
  unfold putV
  rw [if_pos (by omega), Int.toNat_natCast, List.getElem?_set]
  by_cases hci : c = i
  · subst hci
    rw [if_pos rfl, if_pos (by rw [h.1]; exact hc), wrap_add]
    dsimp only
    rw [if_pos rfl]
  · dsimp only
    rw [if_neg hci, if_neg hci, h.2 i hi, Int.add_zero]

/-- Two banks, of these sums. -/
structure Two (w0 W : World) (b g b' g' m : Nat) (f f' : Nat → Int) : Prop where
  one : ∃ H, BankAt W b g m H ∧ HIs m H f
  two : ∃ H, BankAt W b' g' m H ∧ HIs m H f'
  bel : Below w0.heap.size w0 W
/-- The banks lie apart. -/
structure Apt (n0 b g b' g' : Nat) : Prop where
  lo : n0 ≤ g
  lo' : n0 ≤ g'
  a : b ≠ g'
  b : g ≠ g'
  c : b' ≠ g
section
variable {w0 W W' : World} {b g b' g' m : Nat} {f f' : Nat → Int}
theorem Two.on (h : Two w0 W b g b' g' m f f') (hB : Below W.heap.size W W') : Two w0 W' b g b' g' m f f' := by
  obtain ⟨H, h1, h2⟩ := h.one
  obtain ⟨H', h1', h2'⟩ := h.two
  exact ⟨⟨H, h1.below hB h1.obj.lt h1.row.lt, h2⟩, ⟨H', h1'.below hB h1'.obj.lt h1'.row.lt, h2'⟩, h.bel.trans (hB.mono h.bel.size)⟩
theorem Two.as (h : Two w0 W b g b' g' m f f') {d d' : Nat → Int} (e : ∀ i, i < m → d i = f i) (e' : ∀ i, i < m → d' i = f' i) : Two w0 W b g b' g' m d d' := by
  obtain ⟨H, h1, h2⟩ := h.one
  obtain ⟨H', h1', h2'⟩ := h.two
  exact ⟨⟨H, h1, h2.as e⟩, ⟨H', h1', h2'.as e'⟩, h.bel⟩
theorem Two.asw (h : Two w0 W b g b' g' m f f') {d : Nat → Int} (e : ∀ i, i < m → wrap64 (d i) = wrap64 (f i)) : Two w0 W b g b' g' m d f' := by
  obtain ⟨H, h1, h2⟩ := h.one
  exact ⟨⟨H, h1, h2.1, fun i hi => by rw [e i hi]; exact h2.2 i hi⟩, h.two, h.bel⟩
theorem Two.add (h : Two w0 W b g b' g' m f f') (ha : Apt w0.heap.size b g b' g') {c : Nat} (hc : c < m) (v : Int) :
    Calls Try.prog 16 #[.pointer (some ⟨b, 0, none⟩), .int .i64 (c : Int), .int .i64 v] W fun e w' => ∃ x, e = .returned (.int .i64 x) ∧ Two w0 w' b g b' g' m (fun i => f i + if c = i then v else 0) f' ∧ Wrote g W w' := by
  obtain ⟨H, h1, h2⟩ := h.one
  obtain ⟨H', h1', h2'⟩ := h.two
  refine (add_put h1 (c : Int) v).mono ?_
  rintro e w' ⟨rfl, hb, hw⟩
  exact ⟨_, rfl, ⟨⟨_, hb, h2.add hc v⟩, ⟨H', hw.bank h1' ha.c ha.b.symm, h2'⟩, hw.below h.bel ha.lo⟩, hw⟩
theorem Two.add' (h : Two w0 W b g b' g' m f f') (ha : Apt w0.heap.size b g b' g') {c : Nat} (hc : c < m) (v : Int) :
    Calls Try.prog 16 #[.pointer (some ⟨b', 0, none⟩), .int .i64 (c : Int), .int .i64 v] W fun e w' => ∃ x, e = .returned (.int .i64 x) ∧ Two w0 w' b g b' g' m f (fun i => f' i + if c = i then v else 0) ∧ Wrote g' W w' := by
  obtain ⟨H, h1, h2⟩ := h.one
  obtain ⟨H', h1', h2'⟩ := h.two
  refine (add_put h1' (c : Int) v).mono ?_
  rintro e w' ⟨rfl, hb, hw⟩
  exact ⟨_, rfl, ⟨⟨H, hw.bank h1 ha.a ha.b, h2⟩, ⟨_, hb, h2'.add hc v⟩, hw.below h.bel ha.lo'⟩, hw⟩
theorem Two.load (h : Two w0 W b g b' g' m f f') {i : Nat} (hi : i < m) :
    Calls Try.prog 13 #[.pointer (some ⟨b, 0, none⟩), .int .i64 (i : Int)] W fun e w' => e = .returned (.int .i64 (wrap64 (f i))) ∧ w' = W := by
  obtain ⟨H, h1, h2⟩ := h.one
  have := load_bank h1 (i : Int)
  rw [h2.val hi] at this
  exact this
theorem Two.load' (h : Two w0 W b g b' g' m f f') {i : Nat} (hi : i < m) :
    Calls Try.prog 13 #[.pointer (some ⟨b', 0, none⟩), .int .i64 (i : Int)] W fun e w' => e = .returned (.int .i64 (wrap64 (f' i))) ∧ w' = W := by
  obtain ⟨H, h1, h2⟩ := h.two
  have := load_bank h1 (i : Int)
  rw [h2.val hi] at this
  exact this
end

set_option maxHeartbeats 8000000 in
theorem cadds_walk (t : Nat) (A1 : Option Addr) (n1 c1 : Nat) (U : List OpS) (tn : Nat) (w : World) (ht : t ≤ 255) (hU : Ops w w.heap.size A1 n1 U) (hf : ∀ a ∈ U, a.fits) (hc : n1 ≤ c1) (htn : tn ≤ 255) :
    Calls Try.prog 6 #[.int .u8 (t : Int), .slice A1 n1 c1, .int .u8 (tn : Int)] w fun e w' => e = .returned (.bool true) ∧ Below w.heap.size w w' := by
  obtain ⟨m, hm⟩ : ∃ m : Nat, 1 + (t : Int) % 20 = (m : Int) := ⟨1 + t % 20, by omega⟩
  have hm1 : 1 ≤ m := by omega
  have hm2 : m ≤ 20 := by omega
  go_enter Try.func6, Try.ntmps6
  have HU := Lib.hid hU; have HF := Lib.hid hf
  clear hU hf
  go_wp2_with fail
  refine (new_bank w (n := m) (by omega)).mono ?_
  rintro e w1 ⟨b, g, rfl, D1, hb, hg, B1⟩
  go_wp2_with fail
  refine (new_bank w1 (n := m) (by omega)).mono ?_
  rintro e w2 ⟨b', g', rfl, D2, hb', hg', B2⟩
  have T2 : Two w w2 b g b' g' m (fun _ => 0) (fun _ => 0) := ⟨⟨_, D1.below B2 D1.obj.lt D1.row.lt, .zero m⟩, ⟨_, D2, .zero m⟩, B1.trans (B2.mono B1.size)⟩
  have AP : Apt w.heap.size b g b' g' := by
    have h1 := D1.obj.lt; have h2 := D1.row.lt; have h3 := B1.size
    exact ⟨hg, by omega, by omega, by omega, by omega⟩
  clear D1 D2 B1 B2 hb hg hb' hg'
  obtain ⟨q, hq⟩ : ∃ q, min n1 60 = q := ⟨_, rfl⟩
  have hsl := ops_slice A1 n1 c1 q (by omega)
  have hm1' : (if (n1 : Int) < 60 then (n1 : Int) else (60 : Int)) = (q : Int) := by rw [← hq]; split <;> omega
  have hm2' : (if n1 < 60 then (n1 : Int) else (60 : Int)) = (q : Int) := by rw [← hq]; split <;> omega
  have hm3' : min (n1 : Int) 60 = (q : Int) := by omega
  have hm4' : (if (60 : Int) < (n1 : Int) then (60 : Int) else (n1 : Int)) = (q : Int) := by rw [← hq]; split <;> omega
  have hm5' : (if 60 < n1 then (60 : Int) else (n1 : Int)) = (q : Int) := by rw [← hq]; split <;> omega
  have h0q : (0 : Int) ≤ (q : Int) := by omega
  have hqc : (q : Int) ≤ (c1 : Int) := by omega
  have hq80 : q ≤ 60 := by omega
  have HUQ := Lib.hid (ops_short (m := q) HU.out (by omega))
  have HFQ : Hid (∀ a ∈ U.take q, a.fits) := Lib.hid fun a ha => HF.out a (List.mem_of_mem_take ha)
  clear HU HF hq
  obtain ⟨L, hL⟩ : ∃ L, U.take q = L := ⟨_, rfl⟩
  rw [hL] at HUQ HFQ
  clear hL
  have hlq : L.length = q := HUQ.out.len
  go_wp2_with fail
  clear hsl hm1' hm2' hm3' hm4' hm5'
  have HT2 := Lib.hid T2; have HAP := Lib.hid AP
  clear T2 AP
  go_loopw [12, 13, 14, 47] (fun _ _ _ c wr => ∃ k : Nat, k ≤ q ∧ c = .int .i64 (k : Int) ∧ Two w wr b g b' g' m (sumAt m (L.take k)) (sumAt m ((rotL L tn).take k))) (fun _ _ _ c _ => q - (intOf c).toNat)
  case atStart => exact ⟨0, Nat.zero_le _, rfl, HT2.out⟩
  case round =>
    obtain ⟨k, hk, rfl, hT⟩ := hrel
    by_cases hlt : k < q
    · obtain ⟨bo, off, ⟨what, at_, v, old, right⟩, rfl, hbo, ha, o0, o1, o2, o3, o4⟩ := ops_at (HUQ.out.below hT.bel) hlt
      have hj : (k + tn) % q < q := Nat.mod_lt _ (by omega)
      obtain ⟨bo', off', ⟨what', at', v', old', right'⟩, e, hbo', ha', p0, p1, p2, p3, p4⟩ := ops_at (HUQ.out.below hT.bel) hj
      obtain ⟨rfl, rfl⟩ : bo = bo' ∧ off = off' := by injection e with e; injection e with e1 e2 e3; exact ⟨e1, e2⟩
      dsimp only at o0 o1 o2 o3 o4 p0 p1 p2 p3 p4
      have hje : ((k : Int) + (tn : Int)) % (q : Int) = (((k + tn) % q : Nat) : Int) := by rw [Int.natCast_emod, Int.natCast_add]
      have HT := Lib.hid hT
      clear hT
      have hkb : (0 : Int) ≤ (k : Int) ∧ (k : Int) < (q : Int) := by omega
      have hjb : (0 : Int) ≤ (((k + tn) % q : Nat) : Int) ∧ (((k + tn) % q : Nat) : Int) < (q : Int) := by omega
      have hq0 : ¬ q = 0 := by omega
      have hq0' : ¬ (q : Int) = 0 := by omega
      have hs0 : (0 : Int) ≤ (k : Int) + (tn : Int) := by omega
      have hsw : IntKind.i64.wrap ((k : Int) + (tn : Int)) = (k : Int) + (tn : Int) := wrap_small (by omega) (by omega)
      have hjb2 : (0 : Int) ≤ ((k : Int) + (tn : Int)) % (q : Int) ∧ ((k : Int) + (tn : Int)) % (q : Int) < (q : Int) := by rw [hje]; exact hjb
      have hjt : (((k : Int) + (tn : Int)) % (q : Int)).toNat = (k + tn) % q := by rw [hje, Int.toNat_natCast]
      clear hje hjt hjb
      have hz1 : bo < wr.heap.size := by have := HT.out.bel.size; omega
      have hz2 : ¬ bo = wr.heap.size := by omega
      have hz3 : ¬ bo = wr.heap.size + 1 := by omega
      have hz4 : bo < wr.heap.size + 1 := by omega
      go_upto_region 10 with fail
      go_cut [13, 14] (fun s13 s14 wx => ∃ px py, s13 = .pointer (some ⟨px, 0, none⟩) ∧ s14 = .pointer (some ⟨py, 0, none⟩) ∧ Blk wx px 32 #[.int .u8 what, .int .i64 at_, .int .i64 v, .int .i64 old, .bool right] ∧ Blk wx py 32 #[.int .u8 what', .int .i64 at', .int .i64 v', .int .i64 old', .bool right'] ∧ wr.heap.size ≤ px ∧ wr.heap.size ≤ py ∧ Below wr.heap.size wr wx)
      case first =>
        clear HT
        go_region
        · go_wp2_with fail
          go_meet
          exact ⟨_, _, rfl, rfl, ((Blk.new rfl).alloc _).drew, (Blk.new (by simp)).drew, Nat.le_refl _, by omega, (((Below.refl wr.heap.size wr).alloc (Nat.le_refl _) _).alloc (by simp) _).drew⟩
        · go_wp2_with fail
          go_meet
          exact ⟨_, _, rfl, rfl, (Blk.new (by simp)).drew, ((Blk.new rfl).alloc _).drew, by omega, Nat.le_refl _, (((Below.refl wr.heap.size wr).alloc (Nat.le_refl _) _).alloc (by simp) _).drew⟩
      case rest =>
        obtain ⟨px, py, rfl, rfl, X3, Y3, hpx, hpy, B3⟩ := hcut
        have T3 := Lib.hid (HT.out.on B3)
        obtain ⟨hpg, hyg, hyg'⟩ : px ≠ g ∧ py ≠ g ∧ py ≠ g' := by
          obtain ⟨_, h1, _⟩ := HT.out.one
          obtain ⟨_, h2, _⟩ := HT.out.two
          have := h1.row.lt
          have := h2.row.lt
          omega
        clear HT B3 o0 o1 o2 o3 o4 p0 p1 p2 p3 p4 hz1 hz2 hz3 hz4 hjb2 hsw hs0
        have x1 : wc.cell? ⟨px, 1, none⟩ = some (.int .i64 at_) := X3.cell 1
        have x2 : wc.cell? ⟨px, 2, none⟩ = some (.int .i64 v) := X3.cell 2
        have y1 : wc.cell? ⟨py, 1, none⟩ = some (.int .i64 at') := Y3.cell 1
        have y2 : wc.cell? ⟨py, 2, none⟩ = some (.int .i64 v') := Y3.cell 2
        obtain ⟨hi, hie⟩ := cellOf_is hm1 ⟨what, at_, v, old, right⟩
        obtain ⟨hi', hie'⟩ := cellOf_is hm1 ⟨what', at', v', old', right'⟩
        obtain ⟨c, hcc⟩ : ∃ c, cellOf m ⟨what, at_, v, old, right⟩ = c := ⟨_, rfl⟩
        obtain ⟨c', hcc'⟩ : ∃ c', cellOf m ⟨what', at', v', old', right'⟩ = c' := ⟨_, rfl⟩
        have hn := fun i => sumAt_next (m := m) (i := i) ha
        have hn' := fun i => sumAt_next (m := m) (i := i) (L := rotL L tn) (k := k) ((rotL_at (by omega)).trans (by rw [hlq]; exact ha'))
        rw [hcc] at hi hie hn
        rw [hcc'] at hi' hie' hn'
        dsimp only at hie hie' hn hn'
        have HN := Lib.hid hn; have HN' := Lib.hid hn'
        clear hn hn' hcc hcc' ha ha'
        have hand := i64_and255 at_
        have hand' := i64_and255 at'
        have he0 : 0 ≤ at_ % 256 := by omega
        have he0' : 0 ≤ at' % 256 := by omega
        have hmz : ¬ m = 0 := by omega
        have hmz' : ¬ (m : Int) = 0 := by omega
        go_wp2_with fail
        have hte : Int.tmod (at_ % 256) (m : Int) = (c : Int) := (Int.tmod_eq_emod_of_nonneg he0).trans hie
        have hte' : Int.tmod (at' % 256) (m : Int) = (c' : Int) := (Int.tmod_eq_emod_of_nonneg he0').trans hie'
        go_region_held3 (fun W => W.cell? ⟨px, 1, none⟩ = some (.int .i64 at_) ∧ W.cell? ⟨px, 2, none⟩ = some (.int .i64 v))
          (first | exact ⟨x1, x2⟩ | exact K4)
          (first | (go_at_call 16; refine ((T3.out.on (Below.refl _ wc).drew).add HAP.out hi v).mono ?_; rintro e w4 ⟨x, rfl, T4, W4⟩; have Y4 := W4.blk Y3.drew hyg; have X4 := W4.blk X3.drew hpg; have K4 : w4.cell? ⟨px, 1, none⟩ = some (.int .i64 at_) ∧ w4.cell? ⟨px, 2, none⟩ = some (.int .i64 v) := ⟨X4.cell 1, X4.cell 2⟩))
        have y3 : w4.cell? ⟨py, 1, none⟩ = some (.int .i64 at') := Y4.cell 1
        have y4 : w4.cell? ⟨py, 2, none⟩ = some (.int .i64 v') := Y4.cell 2
        have HT4 := Lib.hid T4
        clear T4 K4 X4 X3 x1 x2 y1 y2 Y3 T3 W4 hand he0 hie hte
        go_wp2_with fail
        go_region_held3 (fun W => W.cell? ⟨py, 1, none⟩ = some (.int .i64 at') ∧ W.cell? ⟨py, 2, none⟩ = some (.int .i64 v'))
          (first | exact ⟨y3, y4⟩ | exact K5)
          (first | (go_at_call 16; refine ((HT4.out.on (Below.refl _ w4).drew).add' HAP.out hi' v').mono ?_; rintro e w5 ⟨x', rfl, T5, W5⟩; have Y5 := W5.blk Y4.drew hyg'; have K5 : w5.cell? ⟨py, 1, none⟩ = some (.int .i64 at') ∧ w5.cell? ⟨py, 2, none⟩ = some (.int .i64 v') := ⟨Y5.cell 1, Y5.cell 2⟩))
        have HT5 := Lib.hid T5
        clear T5 K5 Y5 Y4 y3 y4 W5 HT4 hand' he0' hie' hte'
        go_wp2_with fail
        go_roundw
        case rel => exact ⟨k + 1, hlt, by go_num, HT5.out.as (fun i _ => HN.out i) (fun i _ => HN'.out i)⟩
        case measure => simp [intOf]; omega
    · have hkq : k = q := by omega
      subst hkq
      have HT := Lib.hid (hT.as (d := sumAt m L) (d' := sumAt m L) (fun i _ => by rw [List.take_of_length_le (by omega)]) (fun i _ => by rw [List.take_of_length_le (by rw [rotL_len]; omega), rotL_sum]))
      clear hT HT2 hlt hk
      have HL1 := Lib.hid fun (i : Nat) (hi : i < m) => HT.out.load hi
      have HL2 := Lib.hid fun (i : Nat) (hi : i < m) => HT.out.load' hi
      go_wp2_with fail
      go_loopw [15, 84] (fun _ c wq => ∃ i : Nat, i ≤ m ∧ c = .int .i64 (i : Int) ∧ wq = wr) (fun _ c _ => m - (intOf c).toNat)
      case atStart => exact ⟨0, Nat.zero_le _, rfl, rfl⟩
      case round =>
        obtain ⟨i, hi, rfl, rfl⟩ := hrel
        by_cases him : i < m
        · go_wp2_with (first
            | (go_at_call 13; (with_reducible refine (HL1.out i him).mono ?_); rintro e w9 ⟨rfl, hw9⟩; rw [hw9]; clear hw9 w9)
            | (go_at_call 13; (with_reducible refine (HL2.out i him).mono ?_); rintro e w9 ⟨rfl, hw9⟩; rw [hw9]; clear hw9 w9))
          go_roundw
          case rel => exact ⟨i + 1, him, by go_num, by first | rfl | trivial⟩
          case measure => simp [intOf]; omega
        · clear HL1 HL2
          go_wp2_with fail
          go_loopw [17, 97] (fun _ c wq => ∃ j : Nat, j ≤ k ∧ c = .int .i64 (j : Int) ∧ Two w wq b g b' g' m (fun i => sumAt m L i - sumAt m (L.take j) i) (sumAt m L)) (fun _ c _ => k - (intOf c).toNat)
          case atStart => exact ⟨0, Nat.zero_le _, rfl, HT.out.as (fun i _ => by simp [sumAt]) (fun i _ => rfl)⟩
          case round =>
            clear him hi
            obtain ⟨j, hj, rfl, hT3⟩ := hrel
            by_cases hjk : j < k
            · obtain ⟨bo, off, ⟨what, at_, v, old, right⟩, rfl, hbo, ha, o0, o1, o2, o3, o4⟩ := ops_at (HUQ.out.below hT3.bel) hjk
              dsimp only at o0 o1 o2 o3 o4
              obtain ⟨hi, hie⟩ := cellOf_is hm1 ⟨what, at_, v, old, right⟩
              obtain ⟨c, hcc⟩ : ∃ c, cellOf m ⟨what, at_, v, old, right⟩ = c := ⟨_, rfl⟩
              have hn := fun i => sumAt_next (m := m) (i := i) ha
              rw [hcc] at hi hie hn
              dsimp only at hie hn
              have HN := Lib.hid hn
              clear hn hcc ha
              have hand := i64_and255 at_
              have he0 : 0 ≤ at_ % 256 := by omega
              have hmz : ¬ m = 0 := by omega
              have hmz' : ¬ (m : Int) = 0 := by omega
              have hte : Int.tmod (at_ % 256) (m : Int) = (c : Int) := (Int.tmod_eq_emod_of_nonneg he0).trans hie
              have hjb : (0 : Int) ≤ (j : Int) ∧ (j : Int) < (k : Int) := by omega
              have HT3 := Lib.hid hT3
              have hpg : wr.heap.size ≠ g := by
                obtain ⟨_, h1, _⟩ := hT3.one
                have := h1.row.lt
                omega
              clear hT3
              go_upto_region 23 with fail
              obtain ⟨w4, hw4⟩ : ∃ w4, wr.alloc (.cells #[.int .u8 what, .int .i64 at_, .int .i64 v, .int .i64 old, .bool right] 32) = w4 := ⟨_, rfl⟩
              have X4 : Blk w4 wr.heap.size 32 #[.int .u8 what, .int .i64 at_, .int .i64 v, .int .i64 old, .bool right] := by rw [← hw4]; exact Blk.new rfl
              have T4 := Lib.hid (HT3.out.on (W' := w4) (by rw [← hw4]; exact (Below.refl wr.heap.size wr).alloc (Nat.le_refl _) _))
              rw [hw4]
              clear hw4 HT3 o0 o1 o2 o3 o4
              generalize wr.heap.size = px at X4 hpg
              have x1 : w4.cell? ⟨px, 1, none⟩ = some (.int .i64 at_) := X4.cell 1
              have x2 : w4.cell? ⟨px, 2, none⟩ = some (.int .i64 v) := X4.cell 2
              go_region_held3 (fun W => W.cell? ⟨px, 1, none⟩ = some (.int .i64 at_) ∧ W.cell? ⟨px, 2, none⟩ = some (.int .i64 v))
                (first | exact ⟨x1, x2⟩ | exact K5)
                (first | (go_at_call 16; refine ((T4.out.on (Below.refl _ w4).drew).add HAP.out hi _).mono ?_; rintro e w5 ⟨x, rfl, T5, W5⟩; have X5 := W5.blk X4.drew hpg; have K5 : w5.cell? ⟨px, 1, none⟩ = some (.int .i64 at_) ∧ w5.cell? ⟨px, 2, none⟩ = some (.int .i64 v) := ⟨X5.cell 1, X5.cell 2⟩))
              have HT5 := Lib.hid T5
              clear T5 K5 X5 X4 x1 x2 W5 T4 hand he0 hie hte
              go_wp2_with fail
              go_roundw
              case rel =>
                refine ⟨j + 1, hjk, by go_num, HT5.out.asw fun i _ => ?_⟩
                rw [HN.out i]
                split
                · rw [IntWalk.i64_left, wrap_add']
                  congr 1
                  omega
                · congr 1
                  omega
              case measure => simp [intOf]; omega
            · have hjk' : j = k := by omega
              subst hjk'
              have HT4 := Lib.hid (hT3.as (d := fun _ => 0) (d' := sumAt m L) (fun i _ => by rw [List.take_of_length_le (by omega)]; omega) (fun i _ => rfl))
              clear hT3 HT
              obtain ⟨H, D4, hH⟩ := HT4.out.one
              go_wp2_with fail
              refine (all_bank D4).mono ?_
              rintro e w6 ⟨a, rfl, A6, -, hB6⟩
              have B6 := HT4.out.bel.trans (hB6.mono HT4.out.bel.size)
              have hz : ∀ i, i < m → w6.cell? ⟨a, i, none⟩ = some (.int .i64 0) := fun i hi => by
                have := hH.2 i hi
                have e : wrap64 0 = 0 := by unfold wrap64; omega
                dsimp only at this
                rw [e] at this
                exact A6.iat this
              have HZ := Lib.hid hz
              clear hz D4 hH A6 HT4 hB6
              go_wp2_with fail
              go_loopw [19, 115] (fun _ c wq => ∃ i : Nat, i ≤ m ∧ c = .int .i64 (i : Int) ∧ wq = w6) (fun _ c _ => m - (intOf c).toNat)
              case atStart => exact ⟨0, Nat.zero_le _, rfl, rfl⟩
              case round =>
                obtain ⟨i, hi, rfl, rfl⟩ := hrel
                by_cases him : i < m
                · have cz := HZ.out i him
                  have hib : (0 : Int) ≤ (i : Int) ∧ (i : Int) < (m : Int) := by omega
                  go_wp2
                  go_roundw
                  case rel => exact ⟨i + 1, him, by go_num, by first | rfl | trivial⟩
                  case measure => simp [intOf]; omega
                · go_wp2_with (go_at_call 10; refine (awake10_is _).mono ?_; rintro e w10 ⟨rfl, hB10⟩)
                  go_ret
                  exact ⟨rfl, B6.trans (hB10.mono B6.size)⟩
end Go.Proofs.Ytpmhajpjjihndaa
