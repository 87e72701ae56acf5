/- Layer 3: Room's errors; Send. -/
import Derived.Test.YtmmafibeciaghaaWaye
import Derived.Test.YtmmafibeciaghaaFlowb
namespace Go.Proofs.Ytmmafibeciaghaa
open Go.RowKit Go.Maps

set_option maxHeartbeats 1000000 in
theorem room_flow (N : Nat) (S T : Int) (A : Option Addr) (n c : Nat) (l : List ArcN) (AF : Option Addr) (m cF : Nat) (F : List Int) (v : Value) (w : World) (hA : Arcs w w.heap.size A n l) (hck : checkF N S T l = 0)
    (hF : Ints w w.heap.size AF m F) (hm : m ≤ 1000000000000) (hfl : ¬ FlowIn l F) :
    Calls Try.prog 17 #[.agg #[.int .i64 N, .int .i64 S, .int .i64 T, .slice A n c], .slice AF m cF, v] w fun e w' => e = .returned (.tuple #[.int .i64 0, .int .i64 20]) ∧ Below w.heap.size w w' := by
  have hn3 := (ends_in hck).2.2.1
  have hln := hA.len
  go_enter Try.func17, Try.ntmps17
  go_wp2_with fail
  refine (flowIn_any N S T A n c l AF m cF F false _ (hA.onAlloc _) (by omega) hck (hF.onAlloc _) hm (by simp only [Bool.false_eq_true, false_iff]; exact hfl)).mono ?_
  rintro e w1 ⟨rfl, B1⟩
  go_wp2_with fail
  go_ret2
  exact ⟨rfl, below_step (below_alloc _) B1⟩

set_option maxHeartbeats 1000000 in
theorem room_way (N : Nat) (S T : Int) (A : Option Addr) (n c : Nat) (l : List ArcN) (AF : Option Addr) (m cF : Nat) (F : List Int) (AH : Option Addr) (p cH : Nat) (H : List HopN) (w : World) (hA : Arcs w w.heap.size A n l) (hck : checkF N S T l = 0)
    (hF : Ints w w.heap.size AF m F) (hfl : FlowIn l F) (hH : Hops w w.heap.size AH p H) (hp : p ≤ 1000000000) (hw : ¬ IsWay l H) :
    Calls Try.prog 17 #[.agg #[.int .i64 N, .int .i64 S, .int .i64 T, .slice A n c], .slice AF m cF, .slice AH p cH] w fun e w' => e = .returned (.tuple #[.int .i64 0, .int .i64 13]) ∧ Below w.heap.size w w' := by
  have hn3 := (ends_in hck).2.2.1
  have hln := hA.len
  have hlm := hF.len
  have hlf := hfl.len
  go_enter Try.func17, Try.ntmps17
  go_wp2_with fail
  refine (flowIn_any N S T A n c l AF m cF F true _ (hA.onAlloc _) (by omega) hck (hF.onAlloc _) (by omega) (by simp; exact hfl)).mono ?_
  rintro e w1 ⟨rfl, B1⟩
  have K1 : Blk w1 w.heap.size 24 #[.int .i64 N, .int .i64 S, .int .i64 T, .slice A n c] := (Blk.new rfl).below B1 (by simp)
  have a1 := (hA.onAlloc (.cells #[.int .i64 N, .int .i64 S, .int .i64 T, .slice A n c] 24)).on B1
  have H1 := (hH.onAlloc (.cells #[.int .i64 N, .int .i64 S, .int .i64 T, .slice A n c] 24)).on B1
  have Bw1 := below_step (below_alloc _) B1
  clear B1
  obtain ⟨x0, x1, x2, x3⟩ := K1.at4
  have hz1 := K1.lt
  have HC := Lib.hid hck; clear hck
  go_wp2_with fail
  refine (isPath_any N S T A n c l AH p cH H false _ a1 H1 (by omega) (by simp only [Bool.false_eq_true, false_iff]; exact hw)).mono ?_
  rintro e w2 ⟨rfl, B2⟩
  go_wp2_with fail
  go_ret2
  exact ⟨rfl, below_step Bw1 B2⟩

set_option maxHeartbeats 1000000 in
theorem send_flow (N : Nat) (S T : Int) (A : Option Addr) (n c : Nat) (l : List ArcN) (AF : Option Addr) (m cF : Nat) (F : List Int) (v : Value) (d : Int) (w : World) (hA : Arcs w w.heap.size A n l) (hck : checkF N S T l = 0)
    (hF : Ints w w.heap.size AF m F) (hm : m ≤ 1000000000000) (hfl : ¬ FlowIn l F) :
    Calls Try.prog 18 #[.agg #[.int .i64 N, .int .i64 S, .int .i64 T, .slice A n c], .slice AF m cF, v, .int .i64 d] w fun e w' => e = .returned (.tuple #[.slice none 0 0, .int .i64 20]) ∧ Below w.heap.size w w' := by
  go_enter Try.func18, Try.ntmps18
  go_wp2_with fail
  refine (room_flow N S T A n c l AF m cF F v _ (hA.onAlloc _) hck (hF.onAlloc _) hm hfl).mono ?_
  rintro e w1 ⟨rfl, B1⟩
  go_wp2_with fail
  go_ret2
  exact ⟨rfl, below_step (below_alloc _) B1⟩

theorem IsRoom.eq {l : List ArcN} {F : List Int} {H : List HopN} {r s : Int} (h1 : IsRoom l F H r) (h2 : IsRoom l F H s) : r = s := by
  have e1 := (h1.2.2 s h2.1 h2.2.1).2 ((h2.2.2 s h2.1 h2.2.1).1 (Int.le_refl _))
  have e2 := (h2.2.2 r h1.1 h1.2.1).2 ((h1.2.2 r h1.1 h1.2.1).1 (Int.le_refl _))
  omega

set_option maxHeartbeats 1000000 in
theorem send_arg (N : Nat) (S T : Int) (A : Option Addr) (n c : Nat) (l : List ArcN) (AF : Option Addr) (m cF : Nat) (F : List Int) (AH : Option Addr) (p cH : Nat) (H : List HopN) (r d : Int) (w : World) (hA : Arcs w w.heap.size A n l) (hck : checkF N S T l = 0)
    (hF : Ints w w.heap.size AF m F) (hfl : FlowIn l F) (hH : Hops w w.heap.size AH p H) (hp : p ≤ 1000000000) (hw : IsWay l H) (hr : IsRoom l F H r) (hd : d < 0 ∨ r < d) :
    Calls Try.prog 18 #[.agg #[.int .i64 N, .int .i64 S, .int .i64 T, .slice A n c], .slice AF m cF, .slice AH p cH, .int .i64 d] w fun e w' => e = .returned (.tuple #[.slice none 0 0, .int .i64 2]) ∧ Below w.heap.size w w' := by
  by_cases h0 : d < 0
  all_goals
    go_enter Try.func18, Try.ntmps18
    go_wp2_with fail
    refine (room_good N S T A n c l AF m cF F AH p cH H _ (hA.onAlloc _) hck (hF.onAlloc _) hfl (hH.onAlloc _) hp hw).mono ?_
    rintro e w1 ⟨r', rfl, hr', B1⟩
    obtain rfl := hr.eq hr'
    clear hr'
    have hr0 := hr.1
    have hd' : d < 0 ∨ r < d := hd
    have HR := Lib.hid hr
    clear hr hd
  · go_wp2_with fail
    go_ret2
    exact ⟨rfl, below_step (below_alloc _) B1⟩
  · have h1 : r < d := by omega
    clear hd'
    go_wp2_with fail
    go_ret2
    exact ⟨rfl, below_step (below_alloc _) B1⟩

/-- The numbers on the way: those of which 'done' speaks are as they shall be. -/
structure SentTo (F : List Int) (H : List HopN) (d : Int) (done : Nat → Bool) (X : List Int) : Prop where
  len : X.length = F.length
  ent : ∀ (i : Nat) (x : Int), F[i]? = some x → X[i]? = some (if done i = true then x + d * surp H i else x)
theorem SentTo.zero {F : List Int} {H : List HopN} {d : Int} {done : Nat → Bool} (h : ∀ i, i < F.length → done i = false) : SentTo F H d done F :=
  ⟨rfl, fun i x hx => by rw [h i (List.getElem?_eq_some_iff.1 hx).1]; exact hx⟩
theorem SentTo.step {F X : List Int} {H : List HopN} {d x : Int} {done done' : Nat → Bool} {i : Nat} (h : SentTo F H d done X) (hx : F[i]? = some x) (hd : ∀ j, done' j = true ↔ done j = true ∨ j = i) : SentTo F H d done' (X.set i (x + d * surp H i)) := by
  refine ⟨by simp [h.len], fun j y hy => ?_⟩
  have hlt := (List.getElem?_eq_some_iff.1 hx).1
  by_cases e : j = i
  · subst e
    rw [hx] at hy
    injection hy with hy
    subst hy
    rw [List.getElem?_set_self (by rw [h.len]; exact hlt), if_pos ((hd j).2 (.inr rfl))]
  · rw [List.getElem?_set_ne (fun e' => e e'.symm), h.ent j y hy]
    have : done' j = done j := by
      rw [Bool.eq_iff_iff, hd j]
      simp [e]
    rw [this]
theorem SentTo.at {F X : List Int} {H : List HopN} {d x : Int} {done : Nat → Bool} {i : Nat} (h : SentTo F H d done X) (hx : F[i]? = some x) (hd : done i = false) : X[i]? = some x := by
  have := h.ent i x hx
  rw [hd] at this
  simpa using this
theorem SentTo.all {F X : List Int} {H : List HopN} {d : Int} {done : Nat → Bool} (h : SentTo F H d done X) (hd : ∀ j : Nat, j < F.length → done j = false → surp H j = 0) : X = sent F H d := by
  refine sent_ext h.len fun i x hx => ?_
  rw [h.ent i x hx]
  have hlt := (List.getElem?_eq_some_iff.1 hx).1
  cases hdi : done i
  · rw [hd i hlt hdi, Int.mul_zero, Int.add_zero]; rfl
  · rfl

theorem longs_info' : (Try.prog.info? 2).map (fun i => (i.zero, i.size, i.bytes)) = some (some (.int .i64 0), 1, 8) := long_info

set_option maxHeartbeats 4000000 in
theorem send_fit (N : Nat) (S T : Int) (A : Option Addr) (n c : Nat) (l : List ArcN) (AF : Option Addr) (m cF : Nat) (F : List Int) (AH : Option Addr) (p cH : Nat) (H : List HopN) (d : Int) (w : World) (hA : Arcs w w.heap.size A n l) (hck : checkF N S T l = 0)
    (hF : Ints w w.heap.size AF m F) (hfl : FlowIn l F) (hH : Hops w w.heap.size AH p H) (hp : p ≤ 1000000000) (hw : IsWay l H) (hd0 : 0 ≤ d) (hdm : d ≤ maxSum) (hfs : FlowIn l (sent F H d)) :
    Calls Try.prog 18 #[.agg #[.int .i64 N, .int .i64 S, .int .i64 T, .slice A n c], .slice AF m cF, .slice AH p cH, .int .i64 d] w (RetLongs m (sent F H d) w) := by
  have hend := ends_in hck
  obtain ⟨-, -, hn3, -, -, -, -, -, -, hnn, htot⟩ := hend
  have hcap : ∀ a ∈ l, a.cap ≤ 4611686018427387904 := fun a ha => by
    obtain ⟨i, hi⟩ := List.getElem?_of_mem ha
    have := total_at hnn hi
    unfold maxSum at htot
    omega
  have hln := hA.len
  have hlm := hF.len
  have hlf := hfl.len
  have hlp := hH.len
  have hHR : ∀ h ∈ H, InR h.arc := fun h hh => by have := hw.arcs h hh; unfold InR; omega
  have hHN : ∀ h ∈ H, 0 ≤ h.arc ∧ h.arc < n := fun h hh => by have := hw.arcs h hh; omega
  obtain ⟨i0, hi, hz0, hz1, hz2⟩ := info_parts long_info
  have hmk := fun W => run_make_lit (P := Try.prog) 25 2 i0 _ Try.underlying25 hi hz0 m (by rw [hz2]; omega) (by omega) W
  rw [hz1] at hmk
  generalize hmc : madeCells (Value.int .i64 0).cells (m * 1) = mc at hmk
  have HS : Hid (mc.size = m * 1) := by rw [← hmc]; exact size_madeCells _ _
  clear hmc
  have HI := Lib.hid hi; have HZ := Lib.hid hz1
  clear hi hz0 hz1 hz2
  have HCAP := Lib.hid hcap; have HHR := Lib.hid hHR; have HHN := Lib.hid hHN; have HFL := Lib.hid hfl; have HC := Lib.hid hck; have HFS := Lib.hid hfs; have HDM := Lib.hid hdm; have HLF := Lib.hid hlf
  clear hcap hHR hHN hnn htot hck hfl hfs hdm
  go_enter Try.func18, Try.ntmps18
  go_wp2_with fail
  refine (room_good N S T A n c l AF m cF F AH p cH H _ (hA.onAlloc _) HC.out (hF.onAlloc _) HFL.out (hH.onAlloc _) hp hw).mono ?_
  rintro e w1 ⟨r, rfl, hr, B1⟩
  have hd1 : d ≤ r := (hr.2.2 d hd0 HDM.out).2 HFS.out
  have hrm : r ≤ 4611686018427387904 := hr.2.1
  clear hr
  have F1 := (hF.onAlloc (.cells #[.int .i64 N, .int .i64 S, .int .i64 T, .slice A n c] 24)).on B1
  have H1 := (hH.onAlloc (.cells #[.int .i64 N, .int .i64 S, .int .i64 T, .slice A n c] 24)).on B1
  have Bw1 := below_step (below_alloc _) B1
  clear B1
  go_wp2_with (with_reducible refine wpList_copy_fill rfl (.tmp 35) (.tmp 36) _ _ rfl 2 i0 1 Try.underlying25 HI.out HZ.out w1.heap.size m m cF AF rfl rfl mc (F.flatMap intCells) ?_ HS.out ?_ ?_ int_one ?_)
  · exact heap_new_at rfl
  · rw [flat_len (int_len F), hF.len]
  · exact RdBy.src (int_len F) ((F1.onAlloc _))
  · intro w2 HO hg hsz
    have hb := below_of_grown hg (by simp)
    have KX : Blk w2 w1.heap.size 2 (ivs F) := by
      have := HO.out
      unfold Blk ivs
      rw [ivs_flat]
      exact this
    have hb1 : Below w1.heap.size w1 w2 := (below_alloc _).trans hb
    have H2 := H1.on hb1
    have F2 := F1.on hb1
    have hsz2 : w2.heap.size = w1.heap.size + 1 := by simpa using hsz
    have Bw2 := below_step Bw1 hb1
    have HSZ2 := Lib.hid hsz2
    clear hsz hg hb HO hmk hsz2
    have eb1 : decide (d < 0) = false := by simpa using hd0
    have eb2 : decide (r < d) = false := by simpa using hd1
    go_wp2_with fail
    refine (surplus_any _ _ _ H _ H2 (by omega) HHR.out).mono ?_
    rintro e w3 ⟨rfl, M3, B3⟩
    have KX3 := KX.below B3 KX.lt
    have F3 := F2.on B3
    have Bw3 := below_step Bw2 B3
    have Bw1' := Bw1
    clear KX F2 H2 H1 Bw1 Bw2
    go_wp2_with (first
      | (at_range; refine wpList_range_to rfl _ rfl rfl M3 ?_; intro w0 left0 cnt0 hrg0 hl0 hg0 hs0)
      | fail)
    have HL0 := hl0; clear hl0
    have B0 : Below w3.heap.size w3 w0 := ⟨hg0.os, hg0.tape, hg0.output, hg0.size, fun k hk => hg0.block k hk (by simp)⟩
    have KX0 := KX3.below B0 KX3.lt
    have F0 := F3.on B0
    have Bw0 := below_step Bw3 B0
    have hne2 : w2.heap.size ≠ w1.heap.size := by have := HSZ2.out; omega
    have hz3 := KX3.lt
    have hz32 := M3.lt
    go_frame
    go_loopw [13, 14] (fun _ _ wr => ∃ (left : Int → Bool) (cnt : Nat) (X : List Int), RangesTo wr w2.heap.size w3.heap.size p (mapWay H) left cnt ∧ (∀ x, InR x → left x = true → (mapWay H x).isSome = true) ∧
        SentTo F H d (fun i => (mapWay H (i : Int)).isSome && !left (i : Int)) X ∧ Blk wr w1.heap.size 2 (ivs X) ∧ Below w1.heap.size w1 wr) (fun _ _ wr => wr.rangeLeft w2.heap.size w3.heap.size)
    case atStart =>
      refine ⟨left0, cnt0, F, hrg0, fun x hx h => by rw [← HL0.out x hx]; exact h, SentTo.zero fun i hi => ?_, KX0, hb1.trans ((B3.mono (by have := HSZ2.out; omega)).trans (B0.mono (by omega)))⟩
      rw [HL0.out (i : Int) (by unfold InR; omega)]
      cases (mapWay H (i : Int)).isSome <;> rfl
    case round =>
      obtain ⟨left, cnt, X, hrg, hls, hst, KX, hb⟩ := hrel
      have HLS := Lib.hid hls; have HST := Lib.hid hst; clear hls hst
      go_wp2_with (first
        | (at_next; refine wpList_next_to rfl _ rfl rfl hrg ?_ ?_)
        | fail)
      · intro hl
        have HD := Lib.hid hl; clear hl
        go_wp2_with fail
        go_ret2
        have hX := HST.out.all fun j hj hdn => by
          cases hm : (mapWay H (j : Int)).isSome
          · exact mapWay_none hm
          · rw [hm, HD.out _ (by unfold InR; omega)] at hdn
            cases hdn
        rw [hX] at KX
        exact ⟨_, rfl, by have := Bw1'.size; omega, KX, by rw [sent_len, hF.len], Bw1'.trans (hb.mono Bw1'.size)⟩
      · intro x t wn cnt1 hx hlx ht hrg1 hlt hg1 hs1 hen
        obtain ⟨h, hh, hhx⟩ := mapWay_some (HLS.out x hx hlx)
        have hxr := HHN.out h hh
        rw [hhx] at hxr
        clear hh hhx h
        obtain ⟨i, rfl⟩ := Int.eq_ofNat_of_zero_le hxr.1
        have ht' : t = surp H i := by rw [ht.out, mapWay_getD]
        have HT := Lib.hid ht'; clear ht' ht
        have hzx := KX.lt
        have hzn2 := hrg.lt
        have B1 : Below (w1.heap.size + 1) wr wn := ⟨hg1.os, hg1.tape, hg1.output, hg1.size, fun k hk => hg1.block k (by omega) (fun e => by injection e with e; have := HSZ2.out; omega)⟩
        have hbr : Below w1.heap.size w1 wn := hb.trans (B1.mono (by omega))
        have KX1 := KX.below B1 (by omega)
        clear hg1 B1
        obtain ⟨v, hv⟩ : ∃ v, F[i]? = some v := ⟨_, List.getElem?_eq_getElem (by omega)⟩
        obtain ⟨a, ha⟩ : ∃ a, l[i]? = some a := ⟨_, List.getElem?_eq_getElem (by omega)⟩
        have hfs := HFS.out.ent i a _ ha (sent_at H d hv)
        rw [← HT.out] at hfs
        have hfv := HFL.out.ent i a v ha hv
        have hca := HCAP.out a (mem_at ha)
        have hXv := HST.out.at (i := i) hv (by rw [hlx]; cases (mapWay H (i : Int)).isSome <;> rfl)
        have c0 := KX1.iat hXv
        have f0 := KX1.frozen i
        have him : (i : Int) < (m : Int) := by omega
        obtain ⟨y, hy⟩ : ∃ y, d * t = y := ⟨_, rfl⟩
        rw [hy] at hfs
        have hne3 : w2.heap.size ≠ w1.heap.size := hne2
        have hne4 : w3.heap.size ≠ w1.heap.size := by omega
        have hdone : ∀ j : Nat, ((mapWay H (j : Int)).isSome && !(left (j : Int) && !decide ((j : Int) = (i : Int)))) = true ↔ ((mapWay H (j : Int)).isSome && !left (j : Int)) = true ∨ j = i := by
          intro j
          by_cases e : j = i
          · subst e
            simp [HLS.out _ hx hlx]
          · have : ¬ (j : Int) = (i : Int) := by omega
            simp [this, e]
        have HDN := Lib.hid hdone; clear hdone
        have hleft : ∀ x, InR x → (left x && !decide (x = (i : Int))) = true → (mapWay H x).isSome = true := fun x hx h => HLS.out x hx (by simp at h; exact h.1)
        have HLF2 := Lib.hid hleft; have HV := Lib.hid hv; clear hleft hlx hv ha hXv
        go_wp2_with fail
        go_roundw
        case rel =>
          refine ⟨_, cnt1, X.set i (v + d * surp H i), hrg1.setCell (by exact hne3) (by exact hne4) _, HLF2.out, HST.out.step HV.out HDN.out, ?_, hbr.setCell (by simp) _⟩
          rw [← HT.out, hy]
          exact KX1.iset i (v + y)
        case measure => rw [(hrg1.setCell (a := ⟨w1.heap.size, i, none⟩) (by exact hne3) (by exact hne4) _).left_eq, hrg.left_eq]; exact hlt

theorem send_good (N : Nat) (S T : Int) (A : Option Addr) (n c : Nat) (l : List ArcN) (AF : Option Addr) (m cF : Nat) (F : List Int) (AH : Option Addr) (p cH : Nat) (H : List HopN) (r d : Int) (w : World) (hA : Arcs w w.heap.size A n l) (hck : checkF N S T l = 0)
    (hF : Ints w w.heap.size AF m F) (hfl : FlowIn l F) (hH : Hops w w.heap.size AH p H) (hp : p ≤ 1000000000) (hw : IsWay l H) (hr : IsRoom l F H r) (hd0 : 0 ≤ d) (hd1 : d ≤ r) :
    Calls Try.prog 18 #[.agg #[.int .i64 N, .int .i64 S, .int .i64 T, .slice A n c], .slice AF m cF, .slice AH p cH, .int .i64 d] w (RetLongs m (sent F H d) w) :=
  send_fit N S T A n c l AF m cF F AH p cH H d w hA hck hF hfl hH hp hw hd0 (Int.le_trans hd1 hr.2.1) (hr.sent hd0 hd1)

end Go.Proofs.Ytmmafibeciaghaa
