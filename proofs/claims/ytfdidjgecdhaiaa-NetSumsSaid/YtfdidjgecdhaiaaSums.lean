/- NetSums: the walk. -/
import Derived.Test.YtfdidjgecdhaiaaTurns
import Derived.Test.YtfdidjgecdhaiaaSump
import Derived.Deep.DeepCutAuto
import Derived.Deep.RegionLaw
namespace Go.Proofs.Ytfdidjgecdhaiaa
open Go.RowKit Go.Maps

section
variable {α : Type} {f : α → List Value} {size : Nat} {w : World} {B n : Nat} {A : Option Addr} {l : List α}
theorem RdBy.take (h : RdBy f size w B A n l) {k : Nat} (hk : k ≤ n) : RdBy f size w B A k (l.take k) := by
  refine ⟨by rw [List.length_take, h.1]; omega, fun hp => ?_⟩
  obtain ⟨b, off, e, hb, hc⟩ := h.2 (by omega)
  refine ⟨b, off, e, hb, fun j a ha => hc j a ?_⟩
  rw [List.getElem?_take] at ha
  split at ha
  · exact ha
  · cases ha
theorem RdBy.drop {b off : Nat} (h : RdBy f size w B (some ⟨b, off, none⟩) n l) {k : Nat} (hk : k ≤ n) : RdBy f size w B (some ⟨b, off + k * size, none⟩) (n - k) (l.drop k) := by
  refine ⟨by rw [List.length_drop, h.1], fun hp => ?_⟩
  obtain ⟨b', off', e, hb, hc⟩ := h.2 (by omega)
  injection e with e
  injection e with e1 e2
  subst e1; subst e2
  refine ⟨b, off + k * size, rfl, hb, fun j a ha i u hu => ?_⟩
  rw [List.getElem?_drop] at ha
  have := hc (k + j) a ha i u hu
  rw [Nat.add_mul] at this
  rw [show off + k * size + (j * size + i) = off + (k * size + j * size + i) from by omega]
  exact this
end

section
variable {P : Program} (w : World)
theorem step_append_row {ops : Array Oper} {o : Oper} {a : Act} {K : Act → World → Prop} {Q : Exit → Act → World → Prop} {E : Prop} (hgd : o.guard = none) (s x : Operand) (t : TypeId)
    (ho : o.op = .call { callee := .builtin .append, args := #[s, x], argTypes := #[t, t] })
    (base : Nat) (e : TypeId) (i : TypeInfo) (z : Value) (size bytes : Nat) (ht : P.underlying t = some (.slice e)) (hi : P.info? e = some i) (hz : i.zero = some z)
    (hsize : i.size = size) (hby : i.bytes = bytes) (hzs : z.cells.size = size) (hsz : 0 < size)
    (A : Option Addr) (n c : Nat) (xs : List Value) (hs : a.eval s = .slice A n c) (hown : w.ownsRow base e size (.slice A n c) n xs)
    (A2 : Option Addr) (m c2 : Nat) (news : List Value) (hx : a.eval x = .slice A2 m c2) (hl : news.length = m * size) (hsrc : 0 < m → ∃ ad, A2 = some ad ∧ ∀ j u, news[j]? = some u → w.cell? (ad.add j) = some u) (h1 : ∀ u ∈ news, u.oneCell' = true)
    (h63 : n + m ≤ maxLen) (hbytes : (n + m) * bytes ≤ 140737488355328) (hbase : base ≤ w.heap.size)
    (h : ∀ A' c' w', Hid (w'.ownsRow base e size (.slice A' (n + m) c') (n + m) (xs ++ news)) → w.grownBy w' (Value.slice A n c).ownBlock → Hid ((Value.slice A' (n + m) c').ownBlock = (Value.slice A n c).ownBlock ∨ (Value.slice A' (n + m) c').ownBlock = some w.heap.size) → K (a.put o.dst (.slice A' (n + m) c')) w') :
    if Region.wanted o (yielded ops a.tmps) = true then Oper.wp P o a w K Q else E := by
  have hw : Region.wanted o (yielded ops a.tmps) = true := by simp [Region.wanted, hgd]
  rw [if_pos hw]
  obtain ⟨A', c', w', hrun, h2, h3, h4⟩ := run_append_row (P := P) w base t o.type e i z size bytes ht hi hz hsize hby hzs hsz A n c xs hown A2 m c2 news hl hsrc h1 h63 hbytes hbase
  unfold Oper.wp execOp
  simp only [ho, resolve, invoke, builtin, Sem.run_bind, Sem.run_pure, Result.andThen_ok, List.map_toArray, List.map_cons, List.map_nil, hs, hx, hrun]
  exact h A' c' w' h2 h3 h4
end

theorem own_zero {w : World} {base n c : Nat} {e : TypeId} {size : Nat} {A : Option Addr} {xs : List Value} (h : w.ownsRow base e size (.slice A (0 + n) c) (0 + n) ([] ++ xs)) : w.ownsRow base e size (.slice A n c) n xs := by
  simpa using h

theorem sums_alt {l : List ArcN} {cp v2 : Int} {sb b2 : Bool} (hsb : sumB l = sb) (hv2 : sumV (l ++ [⟨0, 0, cp⟩]) = v2) (hb2 : sumB (l ++ [⟨0, 0, cp⟩]) = b2) :
    (sb = false ∧ b2 = false ∧ v2 = 0) ∨ (sb = true ∧ cp < 0 ∧ b2 = false ∧ v2 = 0) ∨ (sb = true ∧ 0 ≤ cp ∧ 4611686018427387904 - sumV l < cp ∧ b2 = false ∧ v2 = 0) ∨ (sb = true ∧ 0 ≤ cp ∧ cp ≤ 4611686018427387904 - sumV l ∧ b2 = true ∧ v2 = sumV l + cp) := by
  subst hsb; subst hv2; subst hb2
  cases h : sumB l
  · have := sum_less (c := cp) (.inl h)
    exact .inl ⟨rfl, this, sum_bad this⟩
  · by_cases h0 : 0 ≤ cp
    · by_cases h1 : cp ≤ 4611686018427387904 - sumV l
      · have := sum_more h h0 h1
        exact .inr (.inr (.inr ⟨rfl, h0, h1, this.1, this.2⟩))
      · have := sum_less (l := l) (c := cp) (.inr (.inr (by unfold maxSum; omega)))
        exact .inr (.inr (.inl ⟨rfl, h0, by omega, this, sum_bad this⟩))
    · have := sum_less (l := l) (c := cp) (.inr (.inl (by omega)))
      exact .inr (.inl ⟨rfl, by omega, this, sum_bad this⟩)

set_option maxRecDepth 100000 in
set_option maxHeartbeats 4000000 in
theorem sums_walk (N S T : Int) (A : Option Addr) (n c : Nat) (l : List ArcN) (t : Nat) (cp : Int) (w : World) (hA : Arcs w w.heap.size A n l) (hn1 : n ≤ 100) (hnc : n ≤ c) (ht : t ≤ 255) (hcp : InR cp) (m : Nat) (hm : m = n ∨ (100 < m ∧ n = 100))
    (sb b2 : Bool) (v2 : Int) (hsb : sumB l = sb) (hv2 : sumV (l ++ [⟨0, 0, cp⟩]) = v2) (hb2 : sumB (l ++ [⟨0, 0, cp⟩]) = b2) :
    Calls Try.prog 5 #[.agg #[.int .i64 N, .int .i64 S, .int .i64 T, .slice A m c], .int .u8 t, .int .i64 cp] w fun e w' => e = .returned (.bool true) ∧ Below w.heap.size w w' := by
  have HALT := Lib.hid (sums_alt hsb hv2 hb2)
  have HSB := Lib.hid hsb; have HV2 := Lib.hid hv2; have HB2 := Lib.hid hb2
  clear hsb hv2 hb2
  go_enter Try.func5, Try.ntmps5
  go_upto_region 1 with fail
  go_cut [24] (fun _ wx => wx = w.alloc (.cells #[.int .i64 N, .int .i64 S, .int .i64 T, .slice A n c] 24))
  case first =>
    rcases hm with rfl | ⟨hm, rfl⟩
    · have hm' : (m : Int) ≤ 100 := by omega
      go_wp2
      go_meet
      rfl
    · have hm' : ¬ (m : Int) ≤ 100 := by omega
      have hmc : (100 : Int) ≤ c := by omega
      go_wp2
      go_meet
      rfl
  case rest =>
    subst hcut
    clear hm
    go_wp2_with fail
    refine (sum_is _ (hA.onAlloc _) (by omega) rfl HSB.out).mono ?_
    rintro e w1 ⟨rfl, B1⟩
    have a1 := (hA.onAlloc _).on B1
    have M1 : Blk w1 w.heap.size 24 #[.int .i64 N, .int .i64 S, .int .i64 T, .slice A n c] := (Blk.new rfl).below B1 (by simp)
    have B01 := below_step (below_alloc _) B1
    have z1 : w.heap.size < w1.heap.size := M1.lt
    clear B1
    obtain ⟨p0, p1, p2, p3⟩ := M1.at4
    go_upto_if 34 with fail
    go_cut [9] (fun _ wx => Below w.heap.size w wx ∧ Blk wx w.heap.size 24 #[.int .i64 N, .int .i64 S, .int .i64 T, .slice A n c])
    case first =>
      by_cases hn : 0 < n
      · obtain ⟨b, off, rfl, -, -⟩ := hA.2 hn
        have hn' : (0 : Int) < (n : Int) := by omega
        go_wp2_with fail
        have ek : ((t : Int) % (n : Int)) = ((t % n : Nat) : Int) := by omega
        rw [ek]
        have hkn : t % n < n := Nat.mod_lt _ hn
        generalize t % n = k at hkn
        clear ek
        generalize hw2 : w1.alloc (.cells #[.int .i64 N, .int .i64 S, .int .i64 T, .slice (some ⟨b, off, none⟩) n c] 24) = w2
        have hs2 : w2.heap.size = w1.heap.size + 1 := by rw [← hw2]; simp
        have a2 : Arcs w2 w2.heap.size (some ⟨b, off, none⟩) n l := by rw [← hw2]; exact a1.onAlloc _
        have M2 : Blk w2 w.heap.size 24 #[.int .i64 N, .int .i64 S, .int .i64 T, .slice (some ⟨b, off, none⟩) n c] := by rw [← hw2]; exact M1.alloc _
        have L2 : Blk w2 w1.heap.size 24 #[.int .i64 N, .int .i64 S, .int .i64 T, .slice (some ⟨b, off, none⟩) n c] := by rw [← hw2]; exact Blk.new rfl
        have B02 : Below w.heap.size w w2 := by rw [← hw2]; exact B01.alloc B01.size _
        have HS2 := Lib.hid hs2
        clear hw2 hs2 M1 p0 p1 p2 p3 a1 B01
        obtain ⟨p0, p1, p2, p3⟩ := M2.at4
        obtain ⟨q0, q1, q2, q3⟩ := L2.at4
        obtain ⟨f0, f1, f2, f3⟩ := L2.free4
        have z2 : w.heap.size < w2.heap.size := M2.lt
        have z3 : w1.heap.size < w2.heap.size := L2.lt
        have hE : ((w2.alloc (.cells #[] 31)).drew).ownsRow w2.heap.size 31 3 (.slice (some ⟨w2.heap.size, 0, none⟩) 0 0) 0 [] := own_of_block (xs := []) (Blk.new rfl) (by omega) (by decide) rfl
        have HE := Lib.hid hE; clear hE
        have e1 := a2.on (below_alloc (.cells #[] 31))
        have HD := Lib.hid (RdBy.src (w := (w2.alloc (.cells #[] 31)).drew) (arc_len _) (RdBy.drop e1 (k := k) (by omega)))
        have HA2 := Lib.hid a2
        clear e1 a2
        have k0 : (0 : Int) ≤ (k : Int) := by omega
        have k1 : (k : Int) ≤ (n : Int) := by omega
        have k2 : (k : Int) ≤ (c : Int) := by omega
        have k3 : (n : Int) ≤ (c : Int) := by omega
        have k4 : ¬ c = k := by omega
        obtain ⟨i0, hi, hz0, hz1, hz2⟩ := info_parts arc_info
        have HI := Lib.hid hi; have HZ0 := Lib.hid hz0; have HZ1 := Lib.hid hz1; have HZ2 := Lib.hid hz2
        clear hi hz0 hz1 hz2
        go_upto_region 6 with fail
        go_region_held3 (fun W => W.cell? ⟨w.heap.size, 3, none⟩ = some (.slice (some ⟨b, off, none⟩) n c)) (go_keep)
          (first
            | (refine step_append_row _ (by rfl) (.tmp 42) (.tmp 46) _ (by rfl) w2.heap.size 31 i0 _ 3 24 Try.underlying22 HI.out HZ0.out HZ1.out HZ2.out rfl (by omega) (some ⟨w2.heap.size, 0, none⟩) 0 0 [] (by rfl) HE.out (some ⟨b, off + k * 3, none⟩) (n - k) (c - k) ((l.drop k).flatMap arcCells) (by rfl) (by rw [flat_len (arc_len _), List.length_drop, HA2.out.len]) HD.out arc_one (by unfold maxLen; omega) (by omega) (by simp) ?_; intro A5 c5 w5 HO5 hg5 HX5; have B25 := below_grown ((Below.refl w2.heap.size w2).alloc (Nat.le_refl _) (.cells #[] 31)).drew hg5 HE.out (by omega) (by simp); have p3' : w5.cell? ⟨w.heap.size, 3, none⟩ = some (.slice (some ⟨b, off, none⟩) n c) := (M2.below B25 (by omega)).at4.2.2.2)
            | (refine step_append_row _ (by rfl) (.tmp 47) (.tmp 51) _ (by rfl) w2.heap.size 31 i0 _ 3 24 Try.underlying22 HI.out HZ0.out HZ1.out HZ2.out rfl (by omega) A5 (0 + (n - k)) c5 _ (by rfl) HO5.out (some ⟨b, off, none⟩) k c ((l.take k).flatMap arcCells) (by rfl) (by rw [flat_len (arc_len _), List.length_take, HA2.out.len]; omega) (RdBy.src (arc_len _) (RdBy.take ((HA2.out.on B25)) (by omega))) arc_one (by unfold maxLen; omega) (by omega) (by have := B25.size; omega) ?_; intro A6 c6 w6 HO6 hg6 HX6; have B26 := below_grown B25 hg6 HO5.out (Nat.le_refl _) B25.size; have p3' : w6.cell? ⟨w.heap.size, 3, none⟩ = some (.slice (some ⟨b, off, none⟩) n c) := (M2.below B26 (by omega)).at4.2.2.2; have q3' : w6.cell? ⟨w1.heap.size, 3, none⟩ = some (.slice (some ⟨b, off, none⟩) n c) := (L2.below B26 (by omega)).at4.2.2.2; have f3' : w6.frozen? ⟨w1.heap.size, 3, none⟩ = false := (L2.below B26 (by omega)).frozen 3; have ne' : ¬ w1.heap.size = w.heap.size := (by omega)))
        have hrow : w6.ownsRow w2.heap.size 31 3 (.slice A6 (n - k + k) c6) (n - k + k) ((l.drop k ++ l.take k).flatMap arcCells) := by
          have := HO6.out
          rw [List.flatMap_append]
          simpa using this
        have M6 := M2.below B26 (by omega)
        have L6 := L2.below B26 (by omega)
        have hne6 := own_ne hrow L6 (by decide)
        generalize hw7 : w6.setCell ⟨w1.heap.size, 3, none⟩ (.slice A6 (n - k + k) c6) = w7
        have M7 : Blk w7 w.heap.size 24 #[.int .i64 N, .int .i64 S, .int .i64 T, .slice (some ⟨b, off, none⟩) n c] := by rw [← hw7]; exact M6.far (by simp; omega) _
        have L7 : Blk w7 w1.heap.size 24 #[.int .i64 N, .int .i64 S, .int .i64 T, .slice A6 (n - k + k) c6] := by
          rw [← hw7]
          have := L6.set 3 (.slice A6 (n - k + k) c6)
          simpa using this
        have r7 : Arcs w7 w7.heap.size A6 (n - k + k) (l.drop k ++ l.take k) := by
          rw [← hw7]
          exact arcs_own (own_far hrow hne6 _) (by rw [List.length_append, List.length_drop, List.length_take, HA2.out.len]; omega)
        have B07 : Below w.heap.size w w7 := by rw [← hw7]; exact ((B02.trans (B26.mono (by omega))).setCell (by simp; omega) _)
        have a7 : Arcs w7 w7.heap.size (some ⟨b, off, none⟩) n l := (hA.below B07).more B07.size
        clear hw7 hrow M6 L6 hne6 p0 p1 p2 p3 q0 q1 q2 q3 f0 f1 f2 f3 p3' q3' f3' HO5 HO6 HX5 HX6 hg5 hg6 B25 B26 M2 L2 HE HD
        obtain ⟨p0, p1, p2, p3⟩ := L7.at4
        go_wp2_with fail
        refine (sum_is _ r7 (by omega) (sum_rot l k).1 ((sum_rot l k).2.trans HSB.out)).mono ?_
        rintro e w8 ⟨rfl, B8⟩
        have a8 := a7.on B8
        have M8 := M7.below B8 M7.lt
        have B08 := below_step B07 B8
        clear p0 p1 p2 p3 r7 L7 M7 a7 a8 B07 B8
        go_wp2_with fail
        go_meet
        exact ⟨B08, M8⟩
      · have hn' : ¬ (0 : Int) < (n : Int) := by omega
        go_wp2_with fail
        go_meet
        exact ⟨B01, M1⟩
    case rest =>
      obtain ⟨B08, M8⟩ := hcut
      have a8 : Arcs wc wc.heap.size A n l := (hA.below B08).more B08.size
      clear p0 p1 p2 p3 M1 B01 z1 a1
      obtain ⟨p0, p1, p2, p3⟩ := M8.at4
      go_wp2_with fail
      refine (copy_any _ _ _ _ _ _ l _ a8 (by omega)).mono ?_
      rintro e w9 ⟨A9, n9, c9, rfl, o9, l9, B9⟩
      obtain rfl : n = n9 := a8.len.symm.trans l9
      have M9 := M8.below B9 M8.lt
      have B09 := below_step B08 B9
      have z9 : w.heap.size < w9.heap.size := M9.lt
      have o9' := own_less (base' := w.heap.size + 1) o9 (by have := M8.lt; omega)
      have HO9 := Lib.hid o9'
      clear p0 p1 p2 p3 a8 M8 B08 B9 o9 o9' l9
      obtain ⟨i0, hi, hz0, hz1, hz2⟩ := info_parts arc_info
      have HI := Lib.hid hi; have HZ0 := Lib.hid hz0; have HZ1 := Lib.hid hz1; have HZ2 := Lib.hid hz2
      clear hi hz0 hz1 hz2
      go_wp2_with (at_builtin; refine wpList_append_row _ rfl (.tmp 70) (.tmp 73) _ rfl (w.heap.size + 1) 31 i0 _ 3 24 Try.underlying22 HI.out HZ0.out HZ1.out HZ2.out rfl (by omega) A9 n c9 _ rfl ((HO9.out.alloc _).alloc _) (some ⟨w9.heap.size + 1, 0, none⟩) 1 1 ([⟨0, 0, cp⟩].flatMap arcCells) rfl rfl ?_ arc_one ?_ ?_ ?_ ?_)
      · intro _
        refine ⟨_, rfl, fun j u hu => ?_⟩
        rw [addr_add, Nat.zero_add]
        exact ((Blk.new (by simp) : Blk ((w9.alloc _).alloc _) (w9.heap.size + 1) 31 #[.int .i64 0, .int .i64 0, .int .i64 cp]).cell j).trans (by simpa [arcCells] using hu)
      · unfold maxLen; omega
      · omega
      · simp; omega
      · intro A10 c10 w10 HO10 hg10 HX10
        have M10 := ((M9.alloc _).alloc _).grownO hg10 ((HO9.out.alloc _).alloc _) (by decide)
        have L10 := ((Blk.new rfl : Blk (w9.alloc (.cells #[.int .i64 N, .int .i64 S, .int .i64 T, .slice A9 n c9] 24)) w9.heap.size 24 #[.int .i64 N, .int .i64 S, .int .i64 T, .slice A9 n c9]).alloc _).grownO hg10 ((HO9.out.alloc _).alloc _) (by decide)
        have B010 := below_grown ((B09.alloc B09.size _).alloc (by simp; omega) _) hg10 ((HO9.out.alloc _).alloc _) (by omega) (by simp; omega)
        have hO : w10.ownsRow (w.heap.size + 1) 31 3 (.slice A10 (n + 1) c10) (n + 1) ((l ++ [(⟨0, 0, cp⟩ : ArcN)]).flatMap arcCells) := by
          rw [List.flatMap_append]
          simpa using HO10.out
        obtain ⟨q0, q1, q2, q3⟩ := L10.at4
        obtain ⟨_, _, _, f3⟩ := L10.free4
        have z10 : ¬ w9.heap.size = w.heap.size := by omega
        have HOO := Lib.hid hO
        clear hg10 HX10 HO10 hO
        go_wp2_with fail
        have L11 : Blk (w10.setCell ⟨w9.heap.size, 3, none⟩ (.slice A10 (n + 1) c10)) w9.heap.size 24 #[.int .i64 N, .int .i64 S, .int .i64 T, .slice A10 (n + 1) c10] := by
          have := L10.set 3 (.slice A10 (n + 1) c10)
          simpa using this
        have M11 := M10.far (p := ⟨w9.heap.size, 3, none⟩) (by simp; omega) (.slice A10 (n + 1) c10)
        have r11 := arcs_own (own_far HOO.out (own_ne HOO.out L10 (by decide)) (p := ⟨w9.heap.size, 3, none⟩) (.slice A10 (n + 1) c10)) (by simp; exact hA.len)
        have B011 := B010.setCell (p := ⟨w9.heap.size, 3, none⟩) (by simp; omega) (.slice A10 (n + 1) c10)
        refine (sum_is _ r11 (by omega) HV2.out HB2.out).mono ?_
        rintro e w12 ⟨rfl, B12⟩
        have M12 := M11.below B12 M11.lt
        have B012 := below_step B011 B12
        clear q0 q1 q2 q3 f3 z10 L10 M10 B010 HOO L11 M11 r11 B011 B12
        have hsv := sumV_bound l
        unfold maxSum at hsv
        obtain ⟨hsv0, hsv1⟩ := hsv
        obtain ⟨hcp0, hcp1⟩ := hcp
        go_upto_region 13 with fail
        go_cut [111] (fun s wx => s = .bool false ∧ wx = w12)
        case first =>
          rcases HALT.out with ⟨rfl, rfl, rfl⟩ | ⟨rfl, h1, rfl, rfl⟩ | ⟨rfl, h1, h2, rfl, rfl⟩ | ⟨rfl, h1, h2, rfl, rfl⟩
          all_goals
            go_wp2_with fail
            go_meet
            exact ⟨by first | (simp; done) | (simp; omega), rfl⟩
        case rest =>
          obtain ⟨rfl, rfl⟩ := hcut
          obtain ⟨p0, p1, p2, p3⟩ := M12.at4
          go_wp2_with fail
          go_loopw [17, 115] (fun _ i wr => ∃ k : Nat, k ≤ n ∧ i = .int .i64 k ∧ Below w.heap.size w wr) (fun _ i _ => n - (intOf i).toNat)
          case atStart => exact ⟨0, Nat.zero_le _, rfl, B012⟩
          case round =>
            obtain ⟨k, hk, rfl, hb⟩ := hrel
            clear p0 p1 p2 p3
            by_cases hlt : k < n
            · obtain ⟨b, off, a, rfl, hbl, hla, c0, c1, c2⟩ := arcs_at (hA.below hb) hlt
              have HL := Lib.hid hla; clear hla
              cases sb
              · go_wp2_with fail
                go_roundw
                case rel => exact ⟨k + 1, by omega, by go_num, hb.alloc hb.size _⟩
                case measure => simp [intOf]; omega
              · obtain ⟨g0, g1⟩ := cap_le_sum HSB.out HL.out
                go_wp2_with fail
                go_roundw
                case rel => exact ⟨k + 1, by omega, by go_num, hb.alloc hb.size _⟩
                case measure => simp [intOf]; omega
            · go_wp2_with fail
              refine (awake_any _).mono ?_
              rintro e w13 ⟨rfl, B13⟩
              go_wp2_with fail
              go_ret
              exact ⟨rfl, below_step hb B13⟩

end Go.Proofs.Ytfdidjgecdhaiaa
