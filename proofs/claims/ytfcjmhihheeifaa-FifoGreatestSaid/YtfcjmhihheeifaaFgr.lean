/- FifoGreatest: the walk. -/
import Derived.Test.YtfcjmhihheeifaaFawa
import Derived.Test.YtfcjmhihheeifaaSomes
import Derived.Test.YtfcjmhihheeifaaCuts
import Derived.Deep.DeepCutAuto
import Derived.Deep.CutBlock
import Derived.Deep.RegionHeld3
namespace Go.Proofs.Ytfcjmhihheeifaa
open Go.RowKit
set_option maxRecDepth 100000

theorem inS_putq {K : List Bool} {v : Nat} {b : Bool} (u : Nat) (hv : v < K.length) : inS (K.set v b) (u : Int) = if u = v then b else inS K (u : Int) := by
  unfold inS
  simp only [Int.toNat_natCast, List.getElem?_set]
  by_cases e : v = u
  · subst e; simp [hv]
  · rw [if_neg e, if_neg (fun e' => e e'.symm)]

theorem wpList_copyb {P : Program} {w : World} {ops : Array Oper} {rest : List Oper} {o : Oper} {a : Act} {Q : Exit → Act → World → Prop} (hgd : o.guard = none) (d s : Operand) (dT sT : TypeId)
    (ho : o.op = .call { callee := .builtin .copy, args := #[d, s], argTypes := #[dT, sT] }) (elem : TypeId) (hu : P.underlying dT = some (.slice elem)) (hi : (P.info? elem).map (·.size) = some 1)
    (g n dc m sc B : Nat) (A : Option Addr) (hd : a.eval d = .slice (some ⟨g, 0, none⟩) n dc) (hsv : a.eval s = .slice A m sc) (t : TypeId) (L K : List Bool) (hg : Blk w g t (bvs L)) (hL : L.length = n) (hK : Bools w B A m K)
    (h : ∀ (w' : World) (M : List Bool) (v : Value), M.length = n → Blk w' g t (bvs M) → w.grownBy w' (some g) → w'.heap.size = w.heap.size → wpList P ops Q rest (a.put o.dst v) w') :
    wpList P ops Q (o :: rest) a w := by
  refine wpList_plain hgd fun Kq hKq => ?_
  by_cases h0 : Nat.min m n = 0
  · have hrun := run_copy_none (P := P) w dT sT o.type elem (some ⟨g, 0, none⟩) A n dc m sc hu hi h0
    unfold Oper.wp
    simp [execOp, ho, resolve, invoke, builtin, hd, hsv, hrun, Result.andThen]
    exact hKq _ _ (h w L _ hL hg ⟨rfl, rfl, rfl, Nat.le_refl _, fun _ _ _ => rfl⟩ rfl)
  · have hm : 0 < m := by
      rcases Nat.eq_zero_or_pos m with e | e
      · subst e; exact absurd (Nat.zero_min n) h0
      · exact e
    obtain ⟨b, off, rfl, _, hc⟩ := hK.2 hm
    have hkl := hK.len
    have hmin : Nat.min m n ≤ m ∧ Nat.min m n ≤ n := ⟨Nat.min_le_left m n, Nat.min_le_right m n⟩
    have hq : ∃ q, Nat.min m n = q := ⟨_, rfl⟩
    obtain ⟨q, hq⟩ := hq
    rw [hq] at hmin
    have hcl : ((K.take q).map Value.bool).length = q := by simp; omega
    have hrun := run_copy_row (P := P) w dT sT o.type elem g 0 n dc ⟨b, off, none⟩ m sc (bvs L) t ((K.take q).map Value.bool) hu hi hg (hcl.trans hq.symm) (fun j v hj => by
      rw [addr_add]
      simp only [List.getElem?_map, Option.map_eq_some_iff] at hj
      obtain ⟨x, hx, rfl⟩ := hj
      have hjl := (List.getElem?_eq_some_iff.1 hx).1
      simp at hjl
      rw [List.getElem?_take_of_lt (by omega)] at hx
      have := hc j x hx 0 _ rfl
      simpa using this) (by simp [bvs]; omega) (fun v hv => by
      obtain ⟨x, _, rfl⟩ := List.mem_map.1 hv
      rfl)
    unfold Oper.wp
    simp only [execOp, ho, resolve, invoke, builtin, Sem.run_bind, Sem.run_pure, Result.andThen_ok, List.map_toArray, List.map_cons, List.map_nil, hd, hsv, hrun]
    have e : ((bvs L).toList.take 0 ++ (K.take (q)).map Value.bool ++ (bvs L).toList.drop (0 + ((K.take (q)).map Value.bool).length)).toArray = bvs (K.take (q) ++ L.drop (q)) := by
      apply Array.ext'
      rw [hcl]
      simp [bvs, List.map_drop]
    rw [e]
    exact hKq _ _ (h _ (K.take (q) ++ L.drop (q)) _ (by simp; omega) (setRow_heap w g _ _ t _ hg) ⟨rfl, rfl, rfl, by simp [World.setRow], fun k _ hne => setRow_other w g k _ (fun e => hne (by rw [e]))⟩ (by simp [World.setRow]))

theorem value_anyq (N : Nat) (S T : Int) (A : Option Addr) (n c : Nat) (l : List ArcN) (AF : Option Addr) (m cF : Nat) (F : List Int) (w : World) (hA : Arcs w w.heap.size A n l) (hck : checkF N S T l = 0)
    (hF : Ints w w.heap.size AF m F) (hm : m ≤ 1000000000000) (hfl : FlowIn l F) :
    Calls Try.prog 11 #[.agg #[.int .i64 N, .int .i64 S, .int .i64 T, .slice A n c], .slice AF m cF] w fun e w' => (∃ x er : Int, e = .returned (.tuple #[.int .i64 x, .int .i64 er]) ∧ (er = 0 → x = exOf l F T ∧ RightIn N S T l F)) ∧ Below w.heap.size w w' := by
  by_cases h : RightIn N S T l F
  · exact (value_good N S T A n c l AF m cF F w hA hck hF hm hfl h).mono fun e w' ⟨h1, h2⟩ => ⟨⟨_, 0, h1, fun _ => ⟨rfl, h⟩⟩, h2⟩
  · exact (value_bad N S T A n c l AF m cF F w hA hck hF hm (fun h' => h h'.2)).mono fun e w' ⟨h1, h2⟩ => ⟨⟨0, 20, h1, fun h => by omega⟩, h2⟩

/-- What the statement compares. -/
theorem SolIs.caps {N M s t : Nat} {fst hd rv : Nat → Nat} {cp : Nat → Int} {l : List ArcN} {F : List Int} {K : List Bool} {v : Int} {σ : FS} (h : SolIs N M s t fst hd rv cp l F K v σ) (hck : checkF N s t l = 0) :
    capX K l = v ∧ (∀ X, FlowIn l X → RightIn N s t l X → exOf l X t ≤ v) ∧ ∀ C, IsCut N s t C → v ≤ capX C l := by
  have hc : capX K l = v := by rw [← (acc_cap h.flow).2.2 h.tight, acc_value hck h.cut h.right, h.val]
  refine ⟨hc, fun X hX hR => ?_, fun C hC => ?_⟩
  · rw [← acc_value hck h.cut hR, ← hc]; exact (acc_cap hX).1
  · rw [← h.val, ← acc_value hck hC h.right]; exact (acc_cap h.flow).1

set_option maxHeartbeats 16000000 in
theorem fgreatest_walk (N S T : Int) (A : Option Addr) (n c : Nat) (l : List ArcN) (AL : Option Addr) (nl cl : Nat) (L : List Int) (AK : Option Addr) (nk ck : Nat) (KK : List Bool) (w : World) (hA : Arcs w w.heap.size A n l) (hf : FitsAll l) (hnc : n ≤ c) (hL : Ints w w.heap.size AL nl L) (hLR : ∀ x ∈ L, InR x)
    (hKK : Bools w w.heap.size AK nk KK) :
    Calls Try.prog 3 #[.agg #[.int .i64 N, .int .i64 S, .int .i64 T, .slice A n c], .slice AL nl cl, .slice AK nk ck] w fun e w' => e = .returned (.bool true) ∧ Below w.heap.size w w' := by
  have hso := fun W hW => some_any N S T A n c 20 50 l W hW hf hnc (by omega) (by omega) (by omega)
  obtain ⟨N1, hN1, hN2, hN3, hck, hln, hmem⟩ := some_net N S T 20 50 l (by omega) (by omega) (by omega)
  rw [hN1] at hso hck hln hmem
  generalize S % (N1 : Int) = S1 at *
  generalize someT (N1 : Int) S T = T1 at *
  generalize someL (N1 : Int) 50 l = l1 at *
  obtain ⟨-, hN, -, -, hs0, hs1, ht0, ht1, hst, -, -⟩ := ends_in hck
  obtain ⟨s, rfl⟩ := Int.eq_ofNat_of_zero_le hs0
  obtain ⟨t, rfl⟩ := Int.eq_ofNat_of_zero_le ht0
  have hsN : s < N1 := by omega
  have htN : t < N1 := by omega
  obtain ⟨M, fst, hd, rv, ai, cp, bk, hMe, hG, hI, hai, hEnd⟩ := net_rowe hck
  have hsol := fun A n c W (hA : Arcs W W.heap.size A n l1) => fsolve_is N1 M s t n c A l1 fst hd rv ai cp bk W hA hck hMe hG hI hai hEnd
  obtain ⟨i1, hi, hz0, hz1, hz2⟩ := info_parts bool_info
  have hml := fun W => run_make_lit (P := Try.prog) 26 4 i1 _ Try.underlying26 hi hz0 N1 (by rw [hz2]; omega) (by omega) W
  rw [hz1, bvs_made] at hml
  have hsz : (Try.prog.info? 4).map (·.size) = some 1 := by kernel_rfl
  have HML := Lib.hid hml
  clear hi hz0 hz1 hz2 hml
  have HSO := Lib.hid hso; have HCK := Lib.hid hck; have HSOL := Lib.hid hsol; have HMEM := Lib.hid hmem
  clear hso hck hN1 hmem hs0 hs1 ht0 ht1 hsol hMe hG hI hai hEnd
  go_enter Try.func3, Try.ntmps3
  go_wp2_with fail
  refine (HSO.out _ (hA.onAlloc _)).mono ?_
  rintro e w1 ⟨A1, n1, c1, rfl, o1, hl1, B1⟩
  have K1 : Blk w1 w.heap.size 24 #[.int .i64 N, .int .i64 S, .int .i64 T, .slice A n c] := (Blk.new rfl).below B1 (by simp)
  have hz1 := K1.lt
  obtain ⟨r0, r1, r2, r3⟩ := K1.at4
  obtain ⟨f0, f1, f2, f3⟩ := K1.free4
  have ST := some_stored K1 o1 hl1 (below_step (below_alloc _) B1) (.int .i64 (N1 : Int)) (.int .i64 (s : Int)) (.int .i64 (t : Int))
  go_upto_region 2 with fail
  generalize (((w1.setCell ⟨w.heap.size, 0, none⟩ (.int .i64 (N1 : Int))).setCell ⟨w.heap.size, 1, none⟩ (.int .i64 (s : Int))).setCell ⟨w.heap.size, 2, none⟩ (.int .i64 (t : Int))).setCell ⟨w.heap.size, 3, none⟩ (.slice A1 n1 c1) = w0 at *
  obtain ⟨K0, a0, Bw0⟩ := ST
  have hn1 := a0.len
  clear r0 r1 r2 r3 f0 f1 f2 f3 K1 o1 B1 hz1 HSO hA hf
  obtain ⟨r0, r1, r2, r3⟩ := K0.at4
  have hz0 := K0.lt
  go_wp2_with fail
  refine (HSOL.out A1 n1 c1 w0 a0).mono ?_
  rintro e w2 ⟨gf, gs, F, K, v, σ0, rfl, hgg, hbf, hbk, hsl, B2⟩
  obtain ⟨hcap, hmost, hleast⟩ := hsl.caps HCK.out
  have hFl := hsl.flow; have hRi := hsl.right; have hCu := hsl.cut; have hTi := hsl.tight; have hVa := hsl.val
  have HCAP := Lib.hid hcap; have HMOST := Lib.hid hmost; have HLEAST := Lib.hid hleast; have HFL := Lib.hid hFl; have HRI := Lib.hid hRi; have HCU := Lib.hid hCu; have HTI := Lib.hid hTi; have HVA := Lib.hid hVa
  have hFlen : F.length = n1 := hFl.len.trans hn1
  have hKlen : K.length = N1 := hCu.len
  have HK2 := Lib.hid (K0.below B2 K0.lt); have HA2 := Lib.hid (a0.on B2); have HB2 := Lib.hid (below_step Bw0 B2); have HF2 := Lib.hid hbf; have HS2 := Lib.hid hbk
  clear hsl hcap hmost hleast hFl hRi hCu hTi hVa K0 a0 Bw0 B2 hbf hbk hgg r0 r1 r2 r3 hz0 HSOL
  go_upto_region 3 with fail
  obtain ⟨v0, hv0⟩ : ∃ v0, ((w2.alloc (.cells #[.slice (some ⟨gf, 0, none⟩) n1 n1, .slice (some ⟨gs, 0, none⟩) N1 N1, .int .i64 v] 29)).alloc (.cells #[.int .i64 (σ0.P : Int), .int .i64 (σ0.L : Int)] 31)) = v0 := ⟨_, rfl⟩
  have X2 : Below w2.heap.size w2 v0 := by rw [← hv0]; exact (below_alloc _).alloc (by simp) _
  obtain ⟨ga, hga⟩ : ∃ g, w2.heap.size = g := ⟨_, rfl⟩
  have Q3 : Blk v0 ga 29 #[.slice (some ⟨gf, 0, none⟩) n1 n1, .slice (some ⟨gs, 0, none⟩) N1 N1, .int .i64 v] := by rw [← hv0, ← hga]; exact (Blk.new rfl).alloc _
  rw [hv0, hga]
  have K3 := HK2.out.below X2 HK2.out.lt; have a3 := HA2.out.on X2; have Bw3 := below_step HB2.out X2; have F3 := HF2.out.below X2 HF2.out.lt; have S3 := HS2.out.below X2 HS2.out.lt
  clear hv0 X2 hga HK2 HA2 HB2 HF2 HS2
  obtain ⟨r0, r1, r2, r3⟩ := K3.at4
  obtain ⟨⟨q0, q1, q2⟩, -, hzq⟩ := Q3.full3
  have hz3 := K3.lt
  go_wp2_with fail
  refine (value_good N1 s t A1 n1 c1 l1 _ n1 _ F _ a3 HCK.out (F3.ints hFlen) (by omega) HFL.out HRI.out).mono ?_
  rintro e w4 ⟨rfl, B4⟩
  rw [HVA.out]
  have K4 := K3.below B4 K3.lt; have a4 := a3.on B4; have Bw4 := below_step Bw3 B4; have F4 := F3.below B4 F3.lt; have S4 := S3.below B4 S3.lt; have Q4 := Q3.below B4 Q3.lt
  clear r0 r1 r2 r3 q0 q1 q2 hzq hz3 K3 a3 Bw3 F3 S3 Q3 B4
  obtain ⟨r0, r1, r2, r3⟩ := K4.at4
  obtain ⟨⟨q0, q1, q2⟩, -, hzq⟩ := Q4.full3
  have hz3 := K4.lt
  go_wp2_with fail
  refine (cap_good N1 s t A1 n1 c1 l1 _ N1 _ K _ a4 HCK.out (S4.bools hKlen) HCU.out).mono ?_
  rintro e w5 ⟨rfl, B5⟩
  rw [HCAP.out]
  have K5 := K4.below B5 K4.lt; have a5 := a4.on B5; have Bw5 := below_step Bw4 B5; have F5 := F4.below B5 F4.lt; have S5 := S4.below B5 S4.lt; have Q5 := Q4.below B5 Q4.lt
  clear r0 r1 r2 r3 q0 q1 q2 hzq hz3 K4 a4 Bw4 F4 S4 Q4 B5
  obtain ⟨r0, r1, r2, r3⟩ := K5.at4
  obtain ⟨⟨q0, q1, q2⟩, -, hzq⟩ := Q5.full3
  have hz3 := K5.lt
  have hvv : (v != v) = false := by simp
  go_wp2_with fail
  refine (tight_is N1 s t A1 n1 c1 l1 _ n1 _ F _ N1 _ K true _ a5 HCK.out (F5.ints hFlen) HFL.out (S5.bools hKlen) HCU.out ⟨fun _ => HTI.out, fun _ => rfl⟩).mono ?_
  rintro e w6 ⟨rfl, B6⟩
  have K6 := K5.below B6 K5.lt; have a6 := a5.on B6; have Bw6 := below_step Bw5 B6
  clear r0 r1 r2 r3 q0 q1 q2 hzq hz3 K5 a5 Bw5 F5 S5 Q5 B6 hvv
  obtain ⟨r0, r1, r2, r3⟩ := K6.at4
  have hz3 := K6.lt
  go_upto_region 7 with fail
  have HAA : Hid (∀ W, Below w6.heap.size w6 W → Arcs W W.heap.size A1 n1 l1) := Lib.hid fun W hB => a6.on hB
  have HLL : Hid (∀ W, Below w6.heap.size w6 W → Ints W W.heap.size AL nl L) := Lib.hid fun W hB => (hL.below (below_step Bw6 hB)).more (below_step Bw6 hB).size
  have HK := Lib.hid K6
  clear K6
  go_region_held3 (fun W => Below w6.heap.size w6 W ∧ W.cell? ⟨w.heap.size, 0, none⟩ = some (.int .i64 (N1 : Int)) ∧ W.cell? ⟨w.heap.size, 1, none⟩ = some (.int .i64 (s : Int)) ∧ W.cell? ⟨w.heap.size, 2, none⟩ = some (.int .i64 (t : Int)) ∧ W.cell? ⟨w.heap.size, 3, none⟩ = some (.slice A1 n1 c1))
    (first
      | exact room_keep HK.out (Below.refl _ _).drew
      | (go_split_ands
         exact room_keep HK.out (by refine below_step ?_ (by assumption); assumption)))
    (first
      | (go_at_call 14; go_split_ands; ((with_reducible refine (withinL_any N1 s t A1 n1 c1 l1 AL nl cl L _ (HAA.out _ (by assumption)) (by omega) (fun a ha => by have := HMEM.out a ha; omega) (HLL.out _ (by assumption)) hLR).mono ?_); rintro e W4 ⟨gX, X, rfl, hgX, X4, WX, B4⟩))
      | (go_at_call 11; go_split_ands; ((with_reducible refine (value_anyq N1 s t A1 n1 c1 l1 _ n1 _ X _ (HAA.out _ (by assumption)) HCK.out (X4.ints (WX.len.trans hl1)) (by omega) (WX.flow hl1)).mono ?_); rintro e W5 ⟨⟨xv, er, rfl, hxv⟩, B5⟩)))
  go_split_ands
  have Bh : Below w6.heap.size w6 W5 := by assumption
  have hdd : (er = 0 ∧ ¬ v < xv) ∨ er ≠ 0 := by
    by_cases he : er = 0
    · obtain ⟨h1, h2⟩ := hxv he
      have := HMOST.out X (WX.flow hl1) h2
      exact .inl ⟨he, by omega⟩
    · exact .inr he
  have K5 := HK.out.below Bh HK.out.lt
  have a5 := HAA.out _ Bh
  have Bw5 := below_step Bw6 Bh
  have hz5 := K5.lt
  have k5 : Bools W5 W5.heap.size AK nk KK := (hKK.below Bw5).more Bw5.size
  clear HK HAA HLL B4 X4 WX Bh B5 a6 Bw6 hL hKK hLR hxv HMOST HFL HRI HCU HTI HVA HCAP HMEM
  clear r0 r1 r2 r3 hz3
  obtain ⟨r0, r1, r2, r3⟩ := K5.at4
  have hml := HML.out
  rcases hdd with ⟨rfl, hxv⟩ | hxv
  case' inr => have hxn : (er == 0) = false := by simpa using hxv
  all_goals
    go_upto_region 10 with fail
    go_wp2_with (with_reducible refine wpList_copyb rfl (.tmp 90) (.tmp 91) _ _ rfl 4 Try.underlying26 hsz W5.heap.size N1 N1 nk ck _ AK rfl rfl 4 (List.replicate N1 false) KK (Blk.new rfl) (by simp) (k5.onAlloc _) ?_)
    intro w7 M' v' hMl M7 hg7 hs7
    have B57 : Below W5.heap.size W5 w7 := (below_alloc _).grown hg7 (by simp) (fun k hk => by injection hk with hk; omega)
    have K7 := K5.below B57 K5.lt
    clear hml hg7 hxv r0 r1 r2 r3
    obtain ⟨x0, x1, x2, x3⟩ := K7.at4
    have hz1 := K7.lt
    have hz2 := M7.lt
    have hgn1 : W5.heap.size ≠ w.heap.size := by omega
    have hgn2 : ¬ w.heap.size = W5.heap.size := by omega
    have hgn3 : w.heap.size ≠ W5.heap.size := by omega
    have d1 := M7.bat (at_inS (K := M') (v := s) (by omega))
    have d2 := M7.bat (at_inS (K := M') (v := t) (by omega))
    have f1 := M7.frozen s
    have f2 := M7.frozen t
    clear hs7
    go_upto_region 12 with fail
    go_region_held3 (fun W' => W'.cell? ⟨w.heap.size, 1, none⟩ = some (.int .i64 (s : Int)) ∧ W'.cell? ⟨w.heap.size, 2, none⟩ = some (.int .i64 (t : Int))) (go_keep) (first | fail)
    have M8 := ((M7.bset s true).bset t false).drew
    have B58 := ((B57.setCell (p := ⟨W5.heap.size, s, none⟩) (by simp) (.bool true)).setCell (p := ⟨W5.heap.size, t, none⟩) (by simp) (.bool false)).drew
    have hMs : ((M'.set s true).set t false).length = N1 := by simp [hMl]
    have hcut : IsCut N1 (s : Int) (t : Int) ((M'.set s true).set t false) := by
      refine ⟨hMs, ?_, ?_⟩
      · rw [inS_putq s (by simp; omega), if_neg (by omega), inS_putq s (by omega), if_pos rfl]
      · rw [inS_putq t (by simp; omega), if_pos rfl]
    have hcp := HLEAST.out _ hcut
    have HCT := Lib.hid hcut
    clear hcut x0 x1 x2 x3 d1 d2 f1 f2
    generalize (M'.set s true).set t false = K9 at *
    obtain ⟨y, hy⟩ : ∃ y, capX K9 l1 = y := ⟨_, rfl⟩
    have K8 := K5.below B58 K5.lt
    have a8 := a5.on B58
    have Bw8 := below_step Bw5 B58
    have HC9 := cap_good N1 s t A1 n1 c1 l1 _ N1 N1 K9 _ a8 HCK.out (M8.bools hMs) HCT.out
    rw [hy] at hcp HC9
    have HC10 := Lib.hid HC9
    clear HC9 hy M7 B57 K7
    obtain ⟨x0, x1, x2, x3⟩ := K8.at4
    have hz4 := K8.lt
    go_wp2_with fail
    refine HC10.out.mono ?_
    rintro e w9 ⟨rfl, B9⟩
    go_wp2_with fail
    refine (awake8_is w9).mono ?_
    rintro e w10 ⟨rfl, B10⟩
    go_wp2_with fail
    go_ret
    exact ⟨rfl, below_step (below_step Bw8 B9) B10⟩

end Go.Proofs.Ytfcjmhihheeifaa
