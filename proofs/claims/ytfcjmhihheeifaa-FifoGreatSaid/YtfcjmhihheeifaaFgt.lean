/- FifoGreat: the walk. -/
import Derived.Test.YtfcjmhihheeifaaFcmp
import Derived.Test.YtfcjmhihheeifaaFmos
import Derived.Test.YtfcjmhihheeifaaSomes
import Derived.Deep.DeepCutAuto
import Derived.Deep.CutBlock
namespace Go.Proofs.Ytfcjmhihheeifaa
open Go.RowKit
set_option maxRecDepth 100000

abbrev csrZ : Value := .agg #[.int .i64 0, .int .i64 0, .int .i64 0, .slice none 0 0, .slice none 0 0, .slice none 0 0, .slice none 0 0, .slice none 0 0, .slice none 0 0]
set_option maxHeartbeats 2000000 in
theorem make_bad (N S T : Int) (A : Option Addr) (n c : Nat) (l : List ArcN) (er : Int) (w : World) (hA : Arcs w w.heap.size A n l) (hn : n ≤ 100000) (hc : checkF N S T l = er) (he : er ≠ 0) :
    Calls Try.prog 17 #[.agg #[.int .i64 N, .int .i64 S, .int .i64 T, .slice A n c]] w fun e w' => e = .returned (.tuple #[csrZ, .int .i64 er]) ∧ Below w.heap.size w w' := by
  have HC := Lib.hid hc; clear hc
  have hne : (er != 0) = true := by simpa using he
  go_enter Try.func17, Try.ntmps17
  go_wp2_with fail
  refine (check_is _ ((hA.onAlloc _).onAlloc _) (by omega) HC.out).mono ?_
  rintro e w1 ⟨rfl, B1⟩
  have K2 : Blk w1 (w.heap.size + 1) 45 #[.int .i64 0, .int .i64 0, .int .i64 0, .slice none 0 0, .slice none 0 0, .slice none 0 0, .slice none 0 0, .slice none 0 0, .slice none 0 0] := (Blk.new (by simp)).below B1 (by simp)
  have Bw1 : Below w.heap.size w w1 := below_step ((below_alloc _).alloc (by simp) _) B1
  obtain ⟨b0, b1, b2, b3, b4, b5, b6, b7, b8⟩ := K2.at9
  obtain ⟨f0, f1, f2, f3, f4, f5, f6, f7, f8⟩ := K2.free9
  have hz := K2.lt
  have KQ := K2.set9 (.int .i64 0) (.int .i64 0) (.int .i64 0) (.slice none 0 0) (.slice none 0 0) (.slice none 0 0) (.slice none 0 0) (.slice none 0 0) (.slice none 0 0)
  have HK := Lib.hid KQ
  clear B1 hA KQ
  go_wp2_with fail
  obtain ⟨q0, q1, q2, q3, q4, q5, q6, q7, q8⟩ := HK.out.at9
  refine bodyPost_ret (v := .tuple #[csrZ, .int .i64 er]) (by simp [results, Try.results17, go_sem, q0, q1, q2, q3, q4, q5, q6, q7, q8]) rfl ⟨rfl, ?_⟩
  exact ((((((((Bw1.setCell (by simp) _).setCell (by simp) _).setCell (by simp) _).setCell (by simp) _).setCell (by simp) _).setCell (by simp) _).setCell (by simp) _).setCell (by simp) _).setCell (by simp) _

set_option maxHeartbeats 2000000 in
theorem fsolve_bad (N S T : Int) (A : Option Addr) (n c : Nat) (l : List ArcN) (er : Int) (w : World) (hA : Arcs w w.heap.size A n l) (hn : n ≤ 100000) (hc : checkF N S T l = er) (he : er ≠ 0) :
    Calls Try.prog 10 #[.agg #[.int .i64 N, .int .i64 S, .int .i64 T, .slice A n c]] w fun e w' => e = .returned (.tuple #[.agg #[.slice none 0 0, .slice none 0 0, .int .i64 0], .agg #[.int .i64 0, .int .i64 0], .int .i64 er]) ∧ Below w.heap.size w w' := by
  have hne : (er != 0) = true := by simpa using he
  go_enter Try.func10, Try.ntmps10
  go_wp2_with fail
  refine (make_bad N S T A n c l er _ (((hA.onAlloc _).onAlloc _).onAlloc _) hn hc he).mono ?_
  rintro e w1 ⟨rfl, B1⟩
  have B1' : Below w.heap.size w w1 := below_step (((below_alloc _).alloc (by simp) _).alloc (by simp; omega) _) B1
  have J2 : Blk w1 (w.heap.size + 1) 29 #[.slice none 0 0, .slice none 0 0, .int .i64 0] := ((Blk.new (by simp)).alloc _).below B1 (by simp)
  have J3 : Blk w1 (w.heap.size + 2) 31 #[.int .i64 0, .int .i64 0] := (Blk.new (by simp)).below B1 (by simp)
  clear B1 hA
  go_upto_region 2 with fail
  obtain ⟨w2, hw2⟩ : ∃ w2, w1.alloc (.cells #[.int .i64 0, .int .i64 0, .int .i64 0, .slice none 0 0, .slice none 0 0, .slice none 0 0, .slice none 0 0, .slice none 0 0, .slice none 0 0] 45) = w2 := ⟨_, rfl⟩
  have X2 : Below w1.heap.size w1 w2 := by rw [← hw2]; exact below_alloc _
  have K2 := J2.below X2 J2.lt; have K3 := J3.below X2 J3.lt; have Bw1 := below_step B1' X2
  first | rw [hw2] | skip
  clear hw2 X2 B1' J2 J3
  obtain ⟨⟨a0, a1, a2⟩, ⟨f0, f1, f2⟩, hz1⟩ := K2.full3
  have p0 := K3.cell 0; have p1 := K3.cell 1; have r0 := K3.frozen 0; have r1 := K3.frozen 1
  simp only [List.getElem?_toArray, List.getElem?_cons_zero, List.getElem?_cons_succ] at p0 p1
  have hz2 := K3.lt
  have hw2' : w.heap.size + 1 + 1 = w.heap.size + 2 := by omega
  have k4 := K2.put3 (x := .slice none 0 0) (y := .slice none 0 0) (z := .int .i64 0)
  have k5 := K3.far3 (g := w.heap.size + 1) (x := .slice none 0 0) (y := .slice none 0 0) (z := .int .i64 0) (by omega)
  have b5 := below_put3 (g := w.heap.size + 1) (x := .slice none 0 0) (y := .slice none 0 0) (z := .int .i64 0) Bw1 (by omega)
  dsimp only [put3] at k4 k5 b5
  have HK4 := Lib.hid ((k4.far (p := ⟨w.heap.size + 2, 0, none⟩) (by show w.heap.size + 1 ≠ w.heap.size + 2; omega) (.int .i64 0)).far (p := ⟨w.heap.size + 2, 1, none⟩) (by show w.heap.size + 1 ≠ w.heap.size + 2; omega) (.int .i64 0))
  have HK5 := Lib.hid ((k5.set 0 (.int .i64 0)).set 1 (.int .i64 0))
  have HB5 := Lib.hid ((b5.setCell (p := ⟨w.heap.size + 2, 0, none⟩) (by show w.heap.size ≤ w.heap.size + 2; omega) (.int .i64 0)).setCell (p := ⟨w.heap.size + 2, 1, none⟩) (by show w.heap.size ≤ w.heap.size + 2; omega) (.int .i64 0))
  clear k4 k5 b5 K2 K3 Bw1
  go_wp2_with fail
  have q4 := HK4.out.full3.1
  have u0 := HK5.out.cell 0; have u1 := HK5.out.cell 1
  simp at u0 u1
  clear a0 a1 a2 p0 p1
  obtain ⟨a0, a1, a2⟩ := q4
  refine bodyPost_ret (v := .tuple #[.agg #[.slice none 0 0, .slice none 0 0, .int .i64 0], .agg #[.int .i64 0, .int .i64 0], .int .i64 er]) (by simp [results, Try.results10, go_sem, a0, a1, a2, u0, u1]) rfl ⟨rfl, HB5.out⟩

set_option maxHeartbeats 2000000 in
theorem fmost_bad (N S T : Int) (A : Option Addr) (n c : Nat) (l : List ArcN) (er : Int) (w : World) (hA : Arcs w w.heap.size A n l) (hn : n ≤ 100000) (hc : checkF N S T l = er) (he : er ≠ 0) :
    Calls Try.prog 16 #[.agg #[.int .i64 N, .int .i64 S, .int .i64 T, .slice A n c]] w fun e w' => e = .returned (.tuple #[.agg #[.int .i64 0, .int .i64 0], .int .i64 er]) ∧ Below w.heap.size w w' := by
  have hne : (er != 0) = true := by simpa using he
  go_enter Try.func16, Try.ntmps16
  go_wp2_with fail
  refine (make_bad N S T A n c l er _ ((hA.onAlloc _).onAlloc _) hn hc he).mono ?_
  rintro e w1 ⟨rfl, B1⟩
  have B1' : Below w.heap.size w w1 := below_step ((below_alloc _).alloc (by simp) _) B1
  have J3 : Blk w1 (w.heap.size + 1) 31 #[.int .i64 0, .int .i64 0] := (Blk.new (by simp)).below B1 (by simp)
  clear B1 hA
  go_upto_region 2 with fail
  obtain ⟨w2, hw2⟩ : ∃ w2, w1.alloc (.cells #[.int .i64 0, .int .i64 0, .int .i64 0, .slice none 0 0, .slice none 0 0, .slice none 0 0, .slice none 0 0, .slice none 0 0, .slice none 0 0] 45) = w2 := ⟨_, rfl⟩
  have X2 : Below w1.heap.size w1 w2 := by rw [← hw2]; exact below_alloc _
  have K3 := J3.below X2 J3.lt; have Bw1 := below_step B1' X2
  first | rw [hw2] | skip
  clear hw2 X2 B1' J3
  have p0 := K3.cell 0; have p1 := K3.cell 1; have r0 := K3.frozen 0; have r1 := K3.frozen 1
  simp only [List.getElem?_toArray, List.getElem?_cons_zero, List.getElem?_cons_succ] at p0 p1
  have hz2 := K3.lt
  have HK5 := Lib.hid ((K3.set 0 (.int .i64 0)).set 1 (.int .i64 0))
  have HB5 := Lib.hid ((Bw1.setCell (p := ⟨w.heap.size + 1, 0, none⟩) (by show w.heap.size ≤ w.heap.size + 1; omega) (.int .i64 0)).setCell (p := ⟨w.heap.size + 1, 1, none⟩) (by show w.heap.size ≤ w.heap.size + 1; omega) (.int .i64 0))
  clear K3 Bw1
  go_wp2_with fail
  have u0 := HK5.out.cell 0; have u1 := HK5.out.cell 1
  simp at u0 u1
  clear p0 p1
  refine bodyPost_ret (v := .tuple #[.agg #[.int .i64 0, .int .i64 0], .int .i64 er]) (by simp [results, Try.results16, go_sem, u0, u1]) rfl ⟨rfl, HB5.out⟩

/-- Nothing is active behind the beginning. -/
theorem lone_calm {N M s t : Nat} {c : Int} {l : List ArcN} {fst hd rv ai : Nat → Nat} {cp : Nat → Int} {bk : Nat → Bool} (hG : PNet N M s t fst hd rv ai cp bk)
    (hx : ∀ X E H, StIs N M s t hd rv cp X E H → FlowIn (lone l s t c) (flF ai bk X (lone l s t c).length M) ∧ ∀ u : Nat, u < N → hOf E u = exOf (lone l s t c) (flF ai bk X (lone l s t c).length M) (u : Int)) :
    ∀ u, u < N → actB s t (begE fst hd rv cp M N s (fst (s + 1) - fst s)) u = false := fun u hu => by
  obtain ⟨h1, h2⟩ := hx _ _ _ (beg_ok hG (k := fst (s + 1) - fst s) (by have := hG.g.mono s hG.hs; omega))
  rw [← Bool.not_eq_true, act_iff]
  rintro ⟨a1, a2, a3⟩
  rw [h2 u hu, lone_rest h1 (by omega) (by omega)] at a3
  omega

theorem some_owned {w w1 : World} {base n1 c1 : Nat} {A1 : Option Addr} {l1 : List ArcN} {u0 u1 u2 u3 : Value} (K1 : Blk w1 w.heap.size 24 #[u0, u1, u2, u3]) (o1 : w1.ownsRow base 64 3 (.slice A1 n1 c1) n1 (l1.flatMap arcCells)) (v0 v1 v2 : Value) :
    ((((w1.setCell ⟨w.heap.size, 0, none⟩ v0).setCell ⟨w.heap.size, 1, none⟩ v1).setCell ⟨w.heap.size, 2, none⟩ v2).setCell ⟨w.heap.size, 3, none⟩ (.slice A1 n1 c1)).ownsRow base 64 3 (.slice A1 n1 c1) n1 (l1.flatMap arcCells) := by
  have hne := own_ne o1 K1 (by decide)
  exact own_far (own_far (own_far (own_far o1 hne _) hne _) hne _) hne _

set_option maxHeartbeats 16000000 in
theorem fgreat_walk (N S T : Int) (A : Option Addr) (n c : Nat) (l : List ArcN) (cc : Int) (w : World) (hA : Arcs w w.heap.size A n l) (hf : FitsAll l) (hnc : n ≤ c) :
    Calls Try.prog 8 #[.agg #[.int .i64 N, .int .i64 S, .int .i64 T, .slice A n c], .int .i64 cc] w fun e w' => e = .returned (.bool true) ∧ Below w.heap.size w w' := by
  obtain ⟨i0, hi, hz0, hz1, hz2⟩ := info_parts arc_info
  have HI := Lib.hid hi; have HZ0 := Lib.hid hz0; have HZ1 := Lib.hid hz1; have HZ2 := Lib.hid hz2
  clear hi hz0 hz1 hz2
  have hso := fun W hW => some_any N S T A n c 12 20 l W hW hf hnc (by omega) (by omega) (by omega)
  obtain ⟨N1, hN1, hN2, hN3, hck, hln, hmem⟩ := some_net N S T 12 20 l (by omega) (by omega) (by omega)
  rw [hN1] at hso hck hln hmem
  generalize S % (N1 : Int) = S1 at *
  generalize someT (N1 : Int) S T = T1 at *
  generalize someL (N1 : Int) 20 l = l1 at *
  obtain ⟨-, hN, -, -, hs0, hs1, ht0, ht1, hst, -, -⟩ := ends_in hck
  obtain ⟨s, rfl⟩ := Int.eq_ofNat_of_zero_le hs0
  obtain ⟨t, rfl⟩ := Int.eq_ofNat_of_zero_le ht0
  have hlc := lone_check (c := cc) hck (by omega)
  have HSO := Lib.hid hso; have HLC := Lib.hid hlc
  clear hso hck hN1 hmem hs0 hs1 ht0 ht1 hlc
  go_enter Try.func8, Try.ntmps8
  go_wp2_with fail
  refine (HSO.out _ (hA.onAlloc _)).mono ?_
  rintro e w1 ⟨A1, n1, c1, rfl, o1, hl1, B1⟩
  have K1 : Blk w1 w.heap.size 24 #[.int .i64 N, .int .i64 S, .int .i64 T, .slice A n c] := (Blk.new rfl).below B1 (by simp)
  have hz1 := K1.lt
  obtain ⟨r0, r1, r2, r3⟩ := K1.at4
  obtain ⟨f0, f1, f2, f3⟩ := K1.free4
  have ST := some_stored K1 o1 hl1 (below_step (below_alloc _) B1) (.int .i64 (N1 : Int)) (.int .i64 (s : Int)) (.int .i64 (t : Int))
  have SO := some_owned K1 (own_less (base' := w.heap.size + 1) o1 (by simp)) (.int .i64 (N1 : Int)) (.int .i64 (s : Int)) (.int .i64 (t : Int))
  go_upto_region 2 with fail
  generalize (((w1.setCell ⟨w.heap.size, 0, none⟩ (.int .i64 (N1 : Int))).setCell ⟨w.heap.size, 1, none⟩ (.int .i64 (s : Int))).setCell ⟨w.heap.size, 2, none⟩ (.int .i64 (t : Int))).setCell ⟨w.heap.size, 3, none⟩ (.slice A1 n1 c1) = w0 at *
  obtain ⟨K0, -, Bw0⟩ := ST
  clear r0 r1 r2 r3 f0 f1 f2 f3 K1 o1 B1 hz1 HSO hA hf
  obtain ⟨r0, r1, r2, r3⟩ := K0.at4
  have hz0 := K0.lt
  have SO0 := Lib.hid SO
  clear SO
  go_wp2_with fail
  go_loopw [5, 16] (fun _ i wr => ∃ k : Nat, k ≤ n1 ∧ i = .int .i64 k ∧ Below w.heap.size w wr ∧ Blk wr w.heap.size 24 #[.int .i64 (N1 : Int), .int .i64 (s : Int), .int .i64 (t : Int), .slice A1 n1 c1] ∧
      wr.ownsRow (w.heap.size + 1) 64 3 (.slice A1 n1 c1) n1 ((mapTo noneArc l1 k).flatMap arcCells)) (fun _ i _ => n1 - (intOf i).toNat)
  case atStart => exact ⟨0, Nat.zero_le _, rfl, Bw0, K0, by rw [mapTo_zero]; exact SO0.out⟩
  case round =>
    clear SO0 K0 Bw0 r0 r1 r2 r3 hz0
    obtain ⟨k, hk, rfl, hb, HK, ho⟩ := hrel
    have HO := Lib.hid ho; clear ho
    obtain ⟨r0, r1, r2, r3⟩ := HK.at4
    have hzk := HK.lt
    by_cases hlt : k < n1
    · obtain ⟨g, rfl, hg1, hg2⟩ := own_form HO.out (by omega)
      obtain ⟨x, hx, x0, x1, x2, q0, q1, q2⟩ := own_cells3 HO.out ((mapTo_len _ _ _).trans hl1) hlt
      obtain ⟨a, ha⟩ : ∃ a, l1[k]? = some a := ⟨_, List.getElem?_eq_getElem (by omega)⟩
      obtain rfl : x = a := by have := hx.symm.trans (mapTo_at noneArc ha); injection this
      have HX := Lib.hid hx; have HAA := Lib.hid ha; clear hx ha
      go_wp2_with fail
      go_roundw
      case rel =>
        have hne := own_ne HO.out HK (by decide) g rfl
        refine ⟨k + 1, by omega, by go_num, hb.setCell (by simp; omega) _, HK.far (Ne.symm hne) _, ?_⟩
        rw [← mapTo_set noneArc HAA.out]
        exact own_setCap HO.out HX.out _
      case measure => simp [intOf]; omega
    · have ho := HO.out
      rw [mapTo_end noneArc l1 hl1 hlt] at ho
      have HP := Lib.hid ho
      clear ho HO
      obtain ⟨f0, f1, f2, f3⟩ := HK.free4
      go_wp2_with (at_builtin; refine wpList_append_row _ rfl (.tmp 26) (.tmp 33) _ rfl (w.heap.size + 1) 64 i0 _ 3 24 Try.underlying22 HI.out HZ0.out HZ1.out HZ2.out rfl (by omega) A1 n1 c1 _ rfl (HP.out.alloc _) (some ⟨wr.heap.size, 0, none⟩) 1 1 ([(⟨s, t, cc⟩ : ArcN)].flatMap arcCells) rfl rfl ?_ arc_one ?_ ?_ ?_ ?_)
      · intro _
        refine ⟨_, rfl, fun j u hu => ?_⟩
        rw [addr_add, Nat.zero_add]
        exact ((Blk.new rfl : Blk (wr.alloc _) wr.heap.size 64 #[.int .i64 (s : Int), .int .i64 (t : Int), .int .i64 cc]).cell j).trans (by simpa [arcCells] using hu)
      · unfold maxLen; omega
      · omega
      · simp; omega
      · intro A4 c4 w4 HO4 hg4 HX4
        have T4 := (HK.alloc _).grownO hg4 (HP.out.alloc _) (by decide)
        have B4 := below_grown (hb.alloc (by omega) _) hg4 (HP.out.alloc _) (by omega) (by simp; omega)
        clear r0 r1 r2 r3 f0 f1 f2 f3 hg4 HX4
        obtain ⟨r0, r1, r2, r3⟩ := T4.at4
        obtain ⟨f0, f1, f2, f3⟩ := T4.free4
        have hzz := T4.lt
        have T5 := T4.set4' (.slice A4 (n1 + 1) c4)
        have ho4 : w4.ownsRow (w.heap.size + 1) 64 3 (.slice A4 (n1 + 1) c4) (n1 + 1) ((lone l1 s t cc).flatMap arcCells) := by
          have := HO4.out
          unfold lone
          rw [List.flatMap_append]
          exact this
        have a5 := arcs_own (own_far (p := ⟨w.heap.size, 3, none⟩) ho4 (own_ne ho4 T4 (by decide)) (.slice A4 (n1 + 1) c4)) (by rw [lone_len, hl1])
        have B5 := B4.setCell (p := ⟨w.heap.size, 3, none⟩) (by simp) (.slice A4 (n1 + 1) c4)
        clear HO4 ho4
        go_upto_region 8 with fail
        generalize w4.setCell ⟨w.heap.size, 3, none⟩ (.slice A4 (n1 + 1) c4) = w5 at *
        obtain ⟨n2, hn2⟩ : ∃ n2, n1 + 1 = n2 := ⟨_, rfl⟩
        rw [hn2] at T5 a5
        obtain ⟨l2, hl2⟩ : ∃ l2, lone l1 (s : Int) (t : Int) cc = l2 := ⟨_, rfl⟩
        rw [hl2] at a5
        have hn22 : l2.length = n2 := by rw [← hl2, lone_len, hl1, hn2]
        clear r0 r1 r2 r3 f0 f1 f2 f3 T4 B4 HK HP hb hzk hzz
        obtain ⟨r0, r1, r2, r3⟩ := T5.at4
        have hzz := T5.lt
        by_cases hg : checkF (N1 : Int) (s : Int) (t : Int) l2 = 0
        · obtain ⟨M, fst, hd, rv, ai, cp, bk, hMe, hG, hI, hai, hEnd, hEx⟩ := net_rowf hg
          have hM := hG.nM
          have hcalm : ∀ u, u < N1 → actB s t (begE fst hd rv cp M N1 s (fst (s + 1) - fst s)) u = false := by
            subst hl2
            exact lone_calm hG hEx
          have hcc : 0 ≤ cc ∧ cc ≤ 4611686018427387904 := HLC.out.1 (by rw [hl2]; exact hg)
          have hsv := fsolve_is N1 M s t n2 c4 A4 l2 fst hd rv ai cp bk w5 a5 hg hMe hG hI hai hEnd
          have hmo := fun W (hb : Below w5.heap.size w5 W) => fmost_is N1 M s t A4 n2 c4 l2 W (a5.on hb) hg hMe hM
          have hst2 : ∀ F K v σ, SolIs N1 M s t fst hd rv cp l2 F K v σ → v = cc ∧ σ.P = 0 ∧ σ.L = 0 ∧ F.length = n2 ∧ F[n1]? = some cc := by
            intro F K v σ h
            obtain ⟨g1, g2⟩ := h.rest hcalm
            have hv : v = cc := by
              rw [← h.val, ← acc_value hg h.cut h.right, (acc_cap h.flow).2.2 h.tight, ← hl2]
              exact lone_cap h.cut
            refine ⟨hv, g1, g2, h.flow.len.trans hn22, ?_⟩
            have h1 := h.flow; have h2 := h.tight
            rw [← hl2] at h1 h2
            have := lone_last h1 h.cut h2
            rwa [hl1] at this
          have HSV := Lib.hid hsv; have HMO := Lib.hid hmo; have HST := Lib.hid hst2
          clear hsv hmo hst2 hG hI hai hEnd hEx hcalm hMe hg HLC
          go_wp2_with fail
          refine HSV.out.mono ?_
          rintro e w6 ⟨gf, gs, F, K, v, σ, rfl, hgg, hbf, hbk, hsl, B6⟩
          obtain ⟨rfl, hP, hL, hFl, hFc⟩ := HST.out _ _ _ _ hsl
          rw [hP, hL]
          have T6 := T5.below B6 T5.lt
          have Bw6 := below_step B5 B6
          have HF6 := Lib.hid hbf; have HFC := Lib.hid hFc
          have hm6 := HMO.out
          clear hgg hbk hsl B5 HST hP hL hFc r0 r1 r2 r3 hzz HSV hbf
          go_upto_region 9 with fail
          obtain ⟨w7, hw7⟩ : ∃ w7, ((w6.alloc (.cells #[.slice (some ⟨gf, 0, none⟩) n2 n2, .slice (some ⟨gs, 0, none⟩) N1 N1, .int .i64 v] 29)).alloc (.cells #[.int .i64 0, .int .i64 0] 31)) = w7 := ⟨_, rfl⟩
          have X2 : Below w6.heap.size w6 w7 := by rw [← hw7]; exact (below_alloc _).alloc (by simp) _
          obtain ⟨ga, hga⟩ : ∃ g, w6.heap.size = g := ⟨_, rfl⟩
          obtain ⟨gw, hgw⟩ : ∃ g, ga + 1 = g := ⟨_, rfl⟩
          have Q7 : Blk w7 ga 29 #[.slice (some ⟨gf, 0, none⟩) n2 n2, .slice (some ⟨gs, 0, none⟩) N1 N1, .int .i64 v] := by rw [← hw7, ← hga]; exact (Blk.new rfl).alloc _
          have V7 : Blk w7 gw 31 #[.int .i64 0, .int .i64 0] := by rw [← hw7, ← hgw, ← hga]; exact Blk.new (by simp)
          have T7 := T6.below X2 T6.lt; have Bw7 := below_step Bw6 X2; have B57 := below_step B6 X2
          have HF7 := Lib.hid (HF6.out.below X2 HF6.out.lt)
          first | rw [hw7, hga, hgw] | (simp only [Int.natCast_zero] at hw7 ⊢; rw [hw7, hga, hgw])
          clear hw7 hga hgw X2 T6 Bw6 B6 HF6 hm6
          obtain ⟨r0, r1, r2, r3⟩ := T7.at4
          have hzz := T7.lt
          go_wp2_with fail
          refine (HMO.out w7 B57).mono ?_
          rintro e w8 ⟨rfl, B8⟩
          have T8 := T7.below B8 T7.lt; have Bw8 := below_step Bw7 B8; have Q8 := Q7.below B8 Q7.lt; have V8 := V7.below B8 V7.lt; have F8 := HF7.out.below B8 HF7.out.lt
          clear r0 r1 r2 r3 hzz T7 Bw7 B57 Q7 V7 HF7 B8 HMO
          go_upto_region 10 with fail
          obtain ⟨w9, hw9⟩ : ∃ w9, w8.alloc (.cells #[.int .i64 (mostP N1 M), .int .i64 (mostL N1)] 31) = w9 := ⟨_, rfl⟩
          have X2 : Below w8.heap.size w8 w9 := by rw [← hw9]; exact below_alloc _
          have T9 := T8.below X2 T8.lt; have Bw9 := below_step Bw8 X2; have Q9 := Q8.below X2 Q8.lt; have V9 := V8.below X2 V8.lt; have F9 := F8.below X2 F8.lt
          rw [hw9]
          clear hw9 X2 T8 Bw8 Q8 V8 F8
          obtain ⟨r0, r1, r2, r3⟩ := T9.at4
          obtain ⟨⟨q0, q1, q2⟩, -, hzq⟩ := Q9.full3
          have p0 := V9.cell 0; have p1 := V9.cell 1
          simp only [List.getElem?_toArray, List.getElem?_cons_zero, List.getElem?_cons_succ] at p0 p1
          have hzv := V9.lt
          have hzz := T9.lt
          obtain ⟨g1, g2⟩ := hcc
          have hfc := F9.cell n1
          rw [ivs_at HFC.out] at hfc
          have hzf := F9.lt
          have hsub : (n2 : Int) - 1 = (n1 : Int) := by omega
          have hsw : IntKind.i64.wrap ((n2 : Int) - 1) = (n1 : Int) := by rw [hsub]; exact wrap_in (by omega) (by omega)
          have hltn : n1 < n2 := by omega
          have hltn' : (n1 : Int) < (n2 : Int) := by omega
          go_wp2_with fail
          refine (awake8_is w9).mono ?_
          rintro e w10 ⟨rfl, X2⟩
          go_wp2_with fail
          go_ret
          exact ⟨rfl, below_step Bw9 X2⟩
        · obtain ⟨er, her⟩ : ∃ er, checkF (N1 : Int) (s : Int) (t : Int) l2 = er := ⟨_, rfl⟩
          have he0 : er ≠ 0 := by rw [← her]; exact hg
          have hcc : ¬ (0 ≤ cc ∧ cc ≤ 4611686018427387904) := fun h => hg (by rw [← hl2]; exact HLC.out.2 h)
          have hsv := fsolve_bad N1 s t A4 n2 c4 l2 er w5 a5 (by omega) her he0
          have hmo := fun W (hb : Below w5.heap.size w5 W) => fmost_bad N1 s t A4 n2 c4 l2 er W (a5.on hb) (by omega) her he0
          have HSV := Lib.hid hsv; have HMO := Lib.hid hmo; have HCC := Lib.hid hcc
          clear hsv hmo hcc hg HLC her
          go_wp2_with fail
          refine HSV.out.mono ?_
          rintro e w6 ⟨rfl, B6⟩
          have T6 := T5.below B6 T5.lt
          have Bw6 := below_step B5 B6
          clear B5 r0 r1 r2 r3 hzz HSV
          go_upto_region 9 with fail
          obtain ⟨w7, hw7⟩ : ∃ w7, ((w6.alloc (.cells #[.slice none 0 0, .slice none 0 0, .int .i64 0] 29)).alloc (.cells #[.int .i64 0, .int .i64 0] 31)) = w7 := ⟨_, rfl⟩
          have X2 : Below w6.heap.size w6 w7 := by rw [← hw7]; exact (below_alloc _).alloc (by simp) _
          obtain ⟨ga, hga⟩ : ∃ g, w6.heap.size = g := ⟨_, rfl⟩
          have Q7 : Blk w7 ga 29 #[.slice none 0 0, .slice none 0 0, .int .i64 0] := by rw [← hw7, ← hga]; exact (Blk.new rfl).alloc _
          have T7 := T6.below X2 T6.lt; have Bw7 := below_step Bw6 X2; have B57 := below_step B6 X2
          rw [hw7, hga]
          clear hw7 hga X2 T6 Bw6 B6
          obtain ⟨r0, r1, r2, r3⟩ := T7.at4
          have hzz := T7.lt
          go_wp2_with fail
          refine (HMO.out w7 B57).mono ?_
          rintro e w8 ⟨rfl, B8⟩
          have T8 := T7.below B8 T7.lt; have Bw8 := below_step Bw7 B8; have Q8 := Q7.below B8 Q7.lt
          clear r0 r1 r2 r3 hzz T7 Bw7 B57 Q7 B8 HMO
          go_upto_region 10 with fail
          obtain ⟨w9, hw9⟩ : ∃ w9, w8.alloc (.cells #[.int .i64 0, .int .i64 0] 31) = w9 := ⟨_, rfl⟩
          have X2 : Below w8.heap.size w8 w9 := by rw [← hw9]; exact below_alloc _
          have Bw9 := below_step Bw8 X2; have Q9 := Q8.below X2 Q8.lt
          rw [hw9]
          clear hw9 X2 T8 Bw8 Q8
          obtain ⟨⟨q0, q1, q2⟩, -, hzq⟩ := Q9.full3
          have hne : (er != 0) = true := by simpa using he0
          have hne2 : (er == 0) = false := by simpa using he0
          have hne3 : (er != er) = false := by simp
          by_cases g1 : 0 ≤ cc
          · have g2 : ¬ cc ≤ 4611686018427387904 := fun h => HCC.out ⟨g1, h⟩
            go_wp2_with fail
            refine (awake8_is w9).mono ?_
            rintro e w10 ⟨rfl, X2⟩
            go_wp2_with fail
            go_ret
            exact ⟨rfl, below_step Bw9 X2⟩
          · go_wp2_with fail
            refine (awake8_is w9).mono ?_
            rintro e w10 ⟨rfl, X2⟩
            go_wp2_with fail
            go_ret
            exact ⟨rfl, below_step Bw9 X2⟩

end Go.Proofs.Ytfcjmhihheeifaa
