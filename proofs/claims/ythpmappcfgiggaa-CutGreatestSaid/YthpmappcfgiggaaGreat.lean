/- The helper greatest: a flow to which no way can be added, one way after another. -/
import Derived.Test.YthpmappcfgiggaaHunt
import Derived.Test.YthpmappcfgiggaaLex
import Derived.Deep.DeepCutAuto
import Derived.Deep.CutBlock
namespace Go.Proofs.Ythpmappcfgiggaa
open Go.RowKit
set_option maxRecDepth 100000

theorem great_lex14 : lexAt Try.f18 14 = true := by kernel_rfl
theorem great_lex17 : lexAt Try.f18 17 = true := by kernel_rfl

theorem blk_src {W : World} {g : Nat} {t : TypeId} {cs : Array Value} (h : Blk W g t cs) : ∀ j u, cs.toList[j]? = some u → W.cell? ((⟨g, 0, none⟩ : Addr).add j) = some u := World.news_of_block h
theorem arc_mid {W : World} {g : Nat} {t : TypeId} {a b c : Value} (h : Blk W g t #[a, b, c]) : W.cell? ⟨g, 1, none⟩ = some b := h.cell 1
theorem arc_first {W : World} {g : Nat} {t : TypeId} {a b c : Value} (h : Blk W g t #[a, b, c]) : W.cell? ⟨g, 0, none⟩ = some a := h.cell 0
/-- Numbers that are a flow, in a block of their own. -/
structure Held (N : Nat) (S T : Int) (l : List ArcN) (n B g : Nat) (F : List Int) (W : World) : Prop where
  blk : Blk W g 2 (ivs F)
  len : F.length = n
  far : B < g
  flow : FlowIn l F
  right : RightIn N S T l F

theorem Held.on {N : Nat} {S T : Int} {l : List ArcN} {n B g : Nat} {F : List Int} {W W' : World} (h : Held N S T l n B g F W) (hb : Below W.heap.size W W') : Held N S T l n B g F W' := ⟨h.blk.below hb h.blk.lt, h.len, h.far, h.flow, h.right⟩
theorem arcs_get {w : World} {B n b off k : Nat} {l : List ArcN} {a : ArcN} (h : Arcs w B (some ⟨b, off, none⟩) n l) (ha : l[k]? = some a) : b < B ∧ w.cell? ⟨b, off + k * 3, none⟩ = some (.int .i64 a.frm) ∧ w.cell? ⟨b, off + k * 3 + 1, none⟩ = some (.int .i64 a.to) := by
  have hk := (List.getElem?_eq_some_iff.1 ha).1
  obtain ⟨b', off', a', e, h1, h2, h3, h4, h5⟩ := arcs_at h (k := k) (by rw [← h.len]; exact hk)
  injection e with e
  injection e with e1 e2
  subst e1; subst e2
  rw [ha] at h2
  injection h2 with h2
  subst h2
  exact ⟨h1, h3, h4⟩
/-- A slice's length. -/
def lenOf : Value → Nat
  | .slice _ m _ => m
  | _ => 0

set_option maxHeartbeats 16000000 in
theorem greatest_is (N s t : Nat) (A : Option Addr) (n c : Nat) (l : List ArcN) (w : World) (hA : Arcs w w.heap.size A n l) (hck : checkF N s t l = 0) (hNb : N ≤ 1001) (hnb : n ≤ 1000) :
    Calls Try.prog 18 #[.agg #[.int .i64 N, .int .i64 s, .int .i64 t, .slice A n c]] w fun e w' => ∃ g F ok, e = .returned (.tuple #[.slice (some ⟨g, 0, none⟩) n n, .bool ok]) ∧
      Held N s t l n w.heap.size g F w' ∧ (ok = true → ¬ Star (Opn l F) (s : Int) (t : Int)) ∧ Below w.heap.size w w' := by
  have hend := ends_in hck
  have hla := hA.len
  obtain ⟨hN2, hN3, hn3, hE, hS0, hS1, hT0, hT1, hST, hnn, -⟩ := hend
  have hsN : s < N := by omega
  have htN : t < N := by omega
  have hst : ¬ t = s := fun e => hST (by rw [e])
  have HST := Lib.hid hst; clear hst
  have HE := Lib.hid hE; have HNN := Lib.hid hnn; have HCK := Lib.hid hck
  clear hE hnn hck hS0 hS1 hT0 hT1 hST
  obtain ⟨i0, hi, hz0, hz1, hz2⟩ := info_parts long_info
  have hml := fun W => run_make_lit (P := Try.prog) 25 2 i0 _ Try.underlying25 hi hz0 n (by rw [hz2]; omega) (by omega) W
  simp only [hz1, ivs_made] at hml
  clear hi hz0 hz1 hz2
  obtain ⟨i1, hi, hz0, hz1, hz2⟩ := info_parts hop_info
  have hmh := fun W => run_make_lit (P := Try.prog) 59 62 i1 _ Try.underlying59 hi hz0 N (by rw [hz2]; omega) (by omega) W
  simp only [hz1, hops_made] at hmh
  have HI := Lib.hid hi; have HZ0 := Lib.hid hz0; have HZ1 := Lib.hid hz1; have HZ2 := Lib.hid hz2
  clear hi hz0 hz1 hz2
  obtain ⟨i2, hi, hz0, hz1, hz2⟩ := info_parts bool_info
  have hmb := fun W => run_make_lit (P := Try.prog) 26 4 i2 _ Try.underlying26 hi hz0 N (by rw [hz2]; omega) (by omega) W
  simp only [hz1, bvs_made] at hmb
  clear hi hz0 hz1 hz2
  obtain ⟨i3, hi, hz0, hz1, hz2⟩ := info_parts int_info
  have HJ := Lib.hid hi; have HY0 := Lib.hid hz0; have HY1 := Lib.hid hz1; have HY2 := Lib.hid hz2
  clear hi hz0 hz1 hz2
  have HMH := Lib.hid hmh; have HMB := Lib.hid hmb; clear hmh hmb
  go_enter Try.func18, Try.ntmps18
  go_wp2_with fail
  clear hml
  have K0 : Blk ((w.alloc (.cells #[.int .i64 (N : Int), .int .i64 (s : Int), .int .i64 (t : Int), .slice A n c] 24)).alloc (.cells (ivs (List.replicate n 0)) 2)) w.heap.size 24 #[.int .i64 (N : Int), .int .i64 (s : Int), .int .i64 (t : Int), .slice A n c] := (Blk.new rfl).alloc _
  have G0 : Blk ((w.alloc (.cells #[.int .i64 (N : Int), .int .i64 (s : Int), .int .i64 (t : Int), .slice A n c] 24)).alloc (.cells (ivs (List.replicate n 0)) 2)) (w.heap.size + 1) 2 (ivs (List.replicate n 0)) := Blk.new (by simp)
  have B0 : Below w.heap.size w ((w.alloc (.cells #[.int .i64 (N : Int), .int .i64 (s : Int), .int .i64 (t : Int), .slice A n c] 24)).alloc (.cells (ivs (List.replicate n 0)) 2)) := (below_alloc _).alloc (by simp) _
  generalize (w.alloc (.cells #[.int .i64 (N : Int), .int .i64 (s : Int), .int .i64 (t : Int), .slice A n c] 24)).alloc (.cells (ivs (List.replicate n 0)) 2) = w0 at *
  have hgr : Held N s t l n w.heap.size (w.heap.size + 1) (List.replicate n 0) w0 := ⟨G0, by simp, Nat.lt_succ_self _, flow_zeros HNN.out hla, right_zeros _ _ _ _ _⟩
  clear G0
  go_loopw [4, 5, 6, 7, 8, 9, 10, 11, 12, 13, 14, 15, 16, 17, 22] (fun s4 _ _ _ _ _ _ _ _ _ _ _ _ _ i wr => ∃ (k g : Nat) (F : List Int), k ≤ 400 ∧ i = .int .i64 k ∧ s4 = .slice (some ⟨g, 0, none⟩) n n ∧ Held N s t l n w.heap.size g F wr ∧ Blk wr w.heap.size 24 #[.int .i64 (N : Int), .int .i64 (s : Int), .int .i64 (t : Int), .slice A n c] ∧ Below w.heap.size w wr) (fun _ _ _ _ _ _ _ _ _ _ _ _ _ _ i _ => 400 - (intOf i).toNat)
  case atStart => exact ⟨0, _, _, by omega, rfl, rfl, hgr, K0, B0⟩
  case round =>
    clear hgr K0 B0
    obtain ⟨k, g, F, hk, rfl, rfl, HG, K1, B1⟩ := hrel
    obtain ⟨r0, r1, r2, r3⟩ := K1.at4
    have hz1 := K1.lt
    by_cases hlt : k < 400
    · have hmh := HMH.out
      have hmb := HMB.out
      have hdk : decide ((k : Int) < 400) = true := decide_eq_true (by omega)
      go_upto_region 6 with fail
      have P2 : Blk ((wr.alloc (.cells (hvs (List.replicate N ⟨0, false⟩)) 62)).alloc (.cells (bvs (List.replicate N false)) 4)) wr.heap.size 62 (hvs (List.replicate N ⟨0, false⟩)) := (Blk.new rfl).alloc _
      have Q2 : Blk ((wr.alloc (.cells (hvs (List.replicate N ⟨0, false⟩)) 62)).alloc (.cells (bvs (List.replicate N false)) 4)) (wr.heap.size + 1) 4 (bvs (List.replicate N false)) := Blk.new (by simp)
      have B2 : Below wr.heap.size wr ((wr.alloc (.cells (hvs (List.replicate N ⟨0, false⟩)) 62)).alloc (.cells (bvs (List.replicate N false)) 4)) := (below_alloc _).alloc (by simp) _
      have hz2 : ((wr.alloc (.cells (hvs (List.replicate N ⟨0, false⟩)) 62)).alloc (.cells (bvs (List.replicate N false)) 4)).heap.size = wr.heap.size + 1 + 1 := by simp
      have x1 := (K1.below B2 K1.lt).at4.2.1
      generalize (wr.alloc (.cells (hvs (List.replicate N ⟨0, false⟩)) 62)).alloc (.cells (bvs (List.replicate N false)) 4) = w2 at *
      have cx := Q2.bat (i := s) (b := false) (by simp [hsN])
      have fx := Q2.frozen s
      clear r0 r1 r2 r3 hmh hmb
      obtain ⟨W0, hW0⟩ : ∃ W0, W0 = wr := ⟨_, rfl⟩
      subst hW0
      have hzz : ¬ W0.heap.size + 1 = w.heap.size := by omega
      have HH : Hunt W0 W0.heap.size ((List.replicate N false).set s true) (List.replicate N ⟨0, false⟩) [(s : Int)] (some ⟨W0.heap.size + 1 + 1, 0, none⟩) 1 1 ((w2.setCell ⟨W0.heap.size + 1, s, none⟩ (.bool true)).alloc (.cells #[.int .i64 (s : Int)] 3)) :=
        ⟨(B2.setCell (p := ⟨W0.heap.size + 1, s, none⟩) (Nat.le_succ _) _).alloc (by simp; omega) _, (P2.far (Nat.ne_of_lt (Nat.lt_succ_self _)) _).alloc _, (Q2.bset s true).alloc _, own_of_block (Blk.new (by simp [hz2])) (Nat.le_refl _) (by unfold maxLen; omega) rfl⟩
      go_upto_region 8 with fail
      clear P2 Q2 B2 x1 cx fx hzz
      generalize (w2.setCell ⟨W0.heap.size + 1, s, none⟩ (.bool true)).alloc (.cells #[.int .i64 (s : Int)] 3) = wb at *
      clear hz2
      have hB0 : Bfs l F N s 0 ((List.replicate N false).set s true) [(s : Int)] (List.replicate N ⟨0, false⟩) := Bfs.start hsN
      have HB0 := Lib.hid hB0; clear hB0
      have H1 := Lib.hid K1; have H2 := Lib.hid HG.blk; have H3 := Lib.hid HG; have H4 := Lib.hid B1
      have hFl := HG.len
      clear K1 HG B1
      go_wp2_with fail
      go_loopw [7, 8, 9, 10, 46] (fun s7 i8 _ _ _ wr => ∃ (i m c' : Nat) (K : List Bool) (P : List HopN) (xs : List Int) (A' : Option Addr), i8 = .int .i64 i ∧ s7 = .slice A' m c' ∧ i ≤ m ∧ Bfs l F N s i K xs P ∧ Hunt W0 W0.heap.size K P xs A' m c' wr) (fun _ i _ _ _ _ => N - (intOf i).toNat)
      case atStart => exact ⟨0, 1, 1, _, _, _, _, rfl, rfl, by omega, HB0.out, HH⟩
      case round =>
        obtain ⟨i, m, c', K, P, xs, A', rfl, rfl, him, hB, hh⟩ := hrel
        have HB := Lib.hid hB
        have hmN : m ≤ N := by rw [← hh.len]; exact hB.seek.le
        clear hB HH
        by_cases hlt2 : i < m
        · obtain ⟨v, hv⟩ : ∃ v, xs[i]? = some v := ⟨_, List.getElem?_eq_getElem (by rw [hh.len]; exact hlt2)⟩
          obtain ⟨v, rfl, hvN, hKv, hSv⟩ := HB.out.nat hv
          have HV := Lib.hid hv; clear hv hKv hSv
          have r3 := (H1.out.below hh.bel H1.out.lt).at4.2.2.2
          go_upto_region 11 with fail
          go_wp2_with fail
          go_loopw [7, 9, 10, 46] (fun s7 _ _ i46 wr => ∃ (q m c' : Nat) (K : List Bool) (P : List HopN) (xs : List Int) (A' : Option Addr), q ≤ n ∧ i46 = .int .i64 q ∧ s7 = .slice A' m c' ∧ i < m ∧ xs[i]? = some (v : Int) ∧ Bfs l F N s i K xs P ∧ Seen4 l F K (v : Int) q ∧ Hunt W0 W0.heap.size K P xs A' m c' wr) (fun _ _ _ i46 _ => n - (intOf i46).toNat)
          case atStart => exact ⟨0, m, c', K, P, xs, A', by omega, rfl, rfl, hlt2, HV.out, HB.out, Seen4.zero _, hh⟩
          case round =>
            clear HV HB hmN him hh r3 hlt2
            obtain ⟨q, m, c', K, P, xs, A', hqn, rfl, rfl, hlt2, hv, hB, hS, hh⟩ := hrel
            have HV := Lib.hid hv; have HB := Lib.hid hB; have HS := Lib.hid hS
            have hmN : m ≤ N := by rw [← hh.len]; exact hB.seek.le
            clear hv hB hS
            by_cases hlt3 : q < n
            · obtain ⟨b, off, ⟨f, u, z⟩, rfl, hbb, hla2, c0, c1, c2⟩ := arcs_at (hA.below (below_step H4.out hh.bel)) hlt3
              simp only at c0 c1 c2
              have he := HE.out _ (mem_at hla2)
              simp only at he
              obtain ⟨f, rfl⟩ := Int.eq_ofNat_of_zero_le he.1
              obtain ⟨u, rfl⟩ := Int.eq_ofNat_of_zero_le he.2.2.1
              have hfN : f < N := by omega
              have huN : u < N := by omega
              obtain ⟨x, hx⟩ : ∃ x, F[q]? = some x := ⟨_, List.getElem?_eq_getElem (by omega)⟩
              have HA3 := Lib.hid hla2; have HX := Lib.hid hx
              have hb1 : b < wr.heap.size := by have := hh.bel.size; have := H1.out.lt; omega
              clear hla2 hx he
              go_upto_region 14 with fail
              have EA : Blk (wr.alloc (.cells #[.int .i64 (f : Int), .int .i64 (u : Int), .int .i64 z] 46)) wr.heap.size 46 #[.int .i64 (f : Int), .int .i64 (u : Int), .int .i64 z] := Blk.new rfl
              have HH3 := hh.alloc (.cells #[.int .i64 (f : Int), .int .i64 (u : Int), .int .i64 z] 46)
              have hgaz := hh.hK.lt
              clear c0 c1 c2 hb1 hh hbb
              generalize wr.heap.size = ga at *
              generalize wr.alloc (.cells #[.int .i64 (f : Int), .int .i64 (u : Int), .int .i64 z] 46) = wa at *
              have hKl := HB.out.seek.len
              obtain ⟨br, offr, v', rfl, hbr, hv', cr⟩ := intl_at HH3.ints hlt2
              obtain rfl : v' = (v : Int) := by have := HV.out; rw [hv'] at this; injection this
              obtain ⟨yu, hyu⟩ : ∃ y, inS K (u : Int) = y := ⟨_, rfl⟩
              go_cut [74] (fun s74 wx => s74 = .bool (decide (f = v) && (!yu && decide (x < z))) ∧ ∃ nq, wx = wa.drewN nq)
              case first =>
                -- SLOW
                as_aux_lemma =>
                  have cF := (H2.out.below HH3.bel H2.out.lt).iat HX.out
                  have km := HH3.hK.bat (at_inS (K := K) (v := u) (by omega))
                  rw [hyu] at km
                  have x0 := EA.cell 0
                  have x1 := EA.cell 1
                  have x2 := EA.cell 2
                  simp only [List.getElem?_toArray, List.getElem?_cons_zero, List.getElem?_cons_succ] at x0 x1 x2
                  clear hyu hv'
                  refine wp_region_quiet_lit (by kernel_rfl) (lex_of great_lex14 (by kernel_rfl)) ?_
                  by_cases hfv : f = v
                  · subst hfv
                    cases yu
                    · by_cases hxz : x < z
                      · have hd1 : decide (x < z) = true := decide_eq_true hxz
                        repeat (go_big_quiet_step (fail))
                        refine wpQuiet_nil ?_
                        rintro _ ⟨nq, rfl⟩
                        go_wp2_with fail
                        go_meet
                        exact ⟨by simp [hd1], nq, rfl⟩
                      · have hd1 : decide (x < z) = false := decide_eq_false hxz
                        repeat (go_big_quiet_step (fail))
                        refine wpQuiet_nil ?_
                        rintro _ ⟨nq, rfl⟩
                        go_wp2_with fail
                        go_meet
                        exact ⟨by simp [hd1], nq, rfl⟩
                    · repeat (go_big_quiet_step (fail))
                      refine wpQuiet_nil ?_
                      rintro _ ⟨nq, rfl⟩
                      go_wp2_with fail
                      go_meet
                      exact ⟨by simp, nq, rfl⟩
                  · have hfz : ((f : Int) == (v : Int)) = false := by simp; omega
                    repeat (go_big_quiet_step (fail))
                    refine wpQuiet_nil ?_
                    rintro _ ⟨nq, rfl⟩
                    go_wp2_with fail
                    go_meet
                    exact ⟨by simp [hfv], nq, rfl⟩
                -- END
              case rest =>
                obtain ⟨rfl, nq, rfl⟩ := hcut
                have HYU := Lib.hid hyu
                have EA4 := EA.drewN nq
                have HH4 := HH3.drewN nq
                clear EA HH3 hyu hv' cr hbr
                generalize wa.drewN nq = wd at *
                go_upto_if 74 with fail
                go_cut [7] (fun s7 wx => ∃ (m2 c2 : Nat) (K2 : List Bool) (P2 : List HopN) (xs2 : List Int) (A2 : Option Addr), s7 = .slice A2 m2 c2 ∧ i < m2 ∧ xs2[i]? = some (v : Int) ∧ Bfs l F N s i K2 xs2 P2 ∧ Seen4 l F K2 (v : Int) q ∧ (f = v → x < z → inS K2 (u : Int) = true) ∧ Hunt W0 W0.heap.size K2 P2 xs2 A2 m2 c2 wx ∧ Blk wx ga 46 #[.int .i64 (f : Int), .int .i64 (u : Int), .int .i64 z])
                case first =>
                  -- SLOW
                  by_cases hc : f = v ∧ yu = false ∧ x < z
                  · obtain ⟨rfl, rfl, hxz⟩ := hc
                    have hbt : (decide (f = f) && (!false && decide (x < z))) = true := by simp [hxz]
                    rw [hbt]
                    have hlP := HB.out.tree.len
                    have km := HH4.hK.bat (at_inS (K := K) (v := u) (by omega))
                    have fm := HH4.hK.frozen u
                    obtain ⟨hu0, hu1⟩ := hvs_at (P := P) (v := u) (List.getElem?_eq_getElem (by omega))
                    have kp0 := (HH4.hP.cell (u * 2)).trans hu0
                    have kp1 := (HH4.hP.cell (u * 2 + 1)).trans hu1
                    have fp0 := HH4.hP.frozen (u * 2)
                    have fp1 := HH4.hP.frozen (u * 2 + 1)
                    have x1 := EA4.cell 1
                    simp only [List.getElem?_toArray, List.getElem?_cons_zero, List.getElem?_cons_succ] at x1
                    have hn1 : ¬ ga = W0.heap.size + 1 := by omega
                    have hn2 : ¬ ga = W0.heap.size := by omega
                    clear hu0 hu1
                    go_upto_region 15 with fail
                    go_region_held3 (fun W => W.cell? ⟨ga, 1, none⟩ = some (.int .i64 (u : Int)))
                      (first
                        | exact arc_mid EA4.drew
                        | exact arc_mid (EA4.far hn1 _).drew
                        | exact arc_mid (((EA4.far hn1 _).far hn2 _).far hn2 _).drew)
                      (first | fail)
                    have EA5 := (((EA4.far (p := ⟨W0.heap.size + 1, u, none⟩) hn1 (.bool true)).far (p := ⟨W0.heap.size, u * 2, none⟩) hn2 (.int .i64 (q : Int))).far (p := ⟨W0.heap.size, u * 2 + 1, none⟩) hn2 (.bool false)).drew
                    have HH5 := ((HH4.mark u true).hop (v := u) ⟨(q : Int), false⟩ (by omega)).drew
                    simp only at HH5
                    clear EA4 HH4 km fm kp0 kp1 fp0 fp1 x1
                    generalize (((wd.setCell ⟨W0.heap.size + 1, u, none⟩ (.bool true)).setCell ⟨W0.heap.size, u * 2, none⟩ (.int .i64 (q : Int))).setCell ⟨W0.heap.size, u * 2 + 1, none⟩ (.bool false)).drew = we at *
                    have x1 := arc_mid EA5
                    have hro := HB.out.room huN HYU.out
                    rw [HH5.len] at hro
                    have hez := HH5.hK.lt
                    go_wp2_with (at_builtin; refine wpList_append_row _ rfl (.tmp 85) (.tmp 88) _ rfl (W0.heap.size + 1 + 1) 3 i3 _ 1 8 Try.underlying60 HJ.out HY0.out HY1.out HY2.out rfl (by omega) (some ⟨br, offr, none⟩) m c' _ rfl (HH5.alloc _).row (some ⟨we.heap.size, 0, none⟩) 1 1 [.int .i64 (u : Int)] rfl rfl (fun _ => ⟨_, rfl, blk_src (cs := #[.int .i64 (u : Int)]) (Blk.new rfl)⟩) (fun y hy => by simp at hy; subst hy; rfl) (by unfold maxLen; omega) (by omega) (by simp; omega) ?_)
                    intro A6 c6 w6 HO6 hg6 HX6
                    have HH6 := (HH5.alloc _).grow hg6 HO6.out
                    have EA6 := (EA5.alloc (.cells #[.int .i64 (u : Int)] 3)).grownO hg6 (HH5.alloc _).row (by decide)
                    clear HX6 HO6 hg6 HH5 EA5 x1 hez
                    go_wp2_with fail
                    go_meet
                    exact ⟨_, _, _, _, _, _, rfl, by omega, by rw [List.getElem?_append_left (List.getElem?_eq_some_iff.1 HV.out).1]; exact HV.out, HB.out.fwd HV.out huN HYU.out HA3.out HX.out hxz, HS.out.set HE.out (by omega), fun _ _ => by rw [inS_set (by omega) (by omega)]; simp, HH6, EA6⟩
                  · have hbf : (decide (f = v) && (!yu && decide (x < z))) = false := by
                      cases hq : (decide (f = v) && (!yu && decide (x < z)))
                      · rfl
                      · simp at hq; exact absurd hq hc
                    rw [hbf]
                    go_wp2_with fail
                    go_meet
                    refine ⟨_, _, _, _, _, _, rfl, hlt2, HV.out, HB.out, HS.out, fun e1 e2 => ?_, HH4, EA4⟩
                    rw [HYU.out]
                    cases yu
                    · exact absurd ⟨e1, rfl, e2⟩ hc
                    · rfl
                  -- END
                case rest =>
                  clear HV HB HS hmN hlt2 hKl HYU HH4 EA4
                  obtain ⟨m2, c2, K2, P2, xs2, A2, rfl, hlt2, hv, hB, hS, hto, HH4, EA4⟩ := hcut
                  have HV := Lib.hid hv; have HB := Lib.hid hB; have HS := Lib.hid hS; have HTO := Lib.hid hto
                  have hmN : m2 ≤ N := by rw [← HH4.len]; exact hB.seek.le
                  have hKl := hB.seek.len
                  clear hv hB hS hto
                  obtain ⟨br2, offr2, v', rfl, hbr, hv', cr⟩ := intl_at HH4.ints hlt2
                  obtain rfl : v' = (v : Int) := by have := HV.out; rw [hv'] at this; injection this
                  obtain ⟨yf, hyf⟩ : ∃ y, inS K2 (f : Int) = y := ⟨_, rfl⟩
                  go_upto_region 17 with fail
                  go_cut [111] (fun s111 wx => s111 = .bool (decide (u = v) && (!yf && decide (0 < x))) ∧ ∃ nq, wx = wc.drewN nq)
                  case first =>
                    -- SLOW
                    as_aux_lemma =>
                      have cF := (H2.out.below HH4.bel H2.out.lt).iat HX.out
                      have km := HH4.hK.bat (at_inS (K := K2) (v := f) (by omega))
                      rw [hyf] at km
                      have x0 := EA4.cell 0
                      have x1 := EA4.cell 1
                      simp only [List.getElem?_toArray, List.getElem?_cons_zero, List.getElem?_cons_succ] at x0 x1
                      clear hyf hv'
                      refine wp_region_quiet_lit (by kernel_rfl) (lex_of great_lex17 (by kernel_rfl)) ?_
                      by_cases huv : u = v
                      · subst huv
                        cases yf
                        · by_cases hxz : 0 < x
                          · have hd1 : decide (0 < x) = true := decide_eq_true hxz
                            repeat (go_big_quiet_step (fail))
                            refine wpQuiet_nil ?_
                            rintro _ ⟨nq, rfl⟩
                            go_wp2_with fail
                            go_meet
                            exact ⟨by simp [hd1], nq, rfl⟩
                          · have hd1 : decide (0 < x) = false := decide_eq_false hxz
                            repeat (go_big_quiet_step (fail))
                            refine wpQuiet_nil ?_
                            rintro _ ⟨nq, rfl⟩
                            go_wp2_with fail
                            go_meet
                            exact ⟨by simp [hd1], nq, rfl⟩
                        · repeat (go_big_quiet_step (fail))
                          refine wpQuiet_nil ?_
                          rintro _ ⟨nq, rfl⟩
                          go_wp2_with fail
                          go_meet
                          exact ⟨by simp, nq, rfl⟩
                      · have hfz : ((u : Int) == (v : Int)) = false := by simp; omega
                        repeat (go_big_quiet_step (fail))
                        refine wpQuiet_nil ?_
                        rintro _ ⟨nq, rfl⟩
                        go_wp2_with fail
                        go_meet
                        exact ⟨by simp [huv], nq, rfl⟩
                    -- END
                  case rest =>
                    obtain ⟨rfl, nq2, rfl⟩ := hcut
                    have HYF := Lib.hid hyf
                    have EA5 := EA4.drewN nq2
                    have HH5 := HH4.drewN nq2
                    clear EA4 HH4 hyf hv' cr hbr
                    generalize wc.drewN nq2 = we at *
                    go_upto_if 111 with fail
                    -- SLOW
                    by_cases hc : u = v ∧ yf = false ∧ 0 < x
                    · obtain ⟨rfl, rfl, hxz⟩ := hc
                      have hbt : (decide (u = u) && (!false && decide (0 < x))) = true := by simp [hxz]
                      rw [hbt]
                      have hlP := HB.out.tree.len
                      have km := HH5.hK.bat (at_inS (K := K2) (v := f) (by omega))
                      have fm := HH5.hK.frozen f
                      obtain ⟨hu0, hu1⟩ := hvs_at (P := P2) (v := f) (List.getElem?_eq_getElem (by omega))
                      have kp0 := (HH5.hP.cell (f * 2)).trans hu0
                      have kp1 := (HH5.hP.cell (f * 2 + 1)).trans hu1
                      have fp0 := HH5.hP.frozen (f * 2)
                      have fp1 := HH5.hP.frozen (f * 2 + 1)
                      have x0 := arc_first EA5
                      have hn1 : ¬ ga = W0.heap.size + 1 := by omega
                      have hn2 : ¬ ga = W0.heap.size := by omega
                      clear hu0 hu1
                      go_upto_region 18 with fail
                      go_region_held3 (fun W => W.cell? ⟨ga, 0, none⟩ = some (.int .i64 (f : Int)))
                        (first
                          | exact arc_first EA5.drew
                          | exact arc_first (EA5.far hn1 _).drew
                          | exact arc_first (((EA5.far hn1 _).far hn2 _).far hn2 _).drew)
                        (first | fail)
                      have EA6 := (((EA5.far (p := ⟨W0.heap.size + 1, f, none⟩) hn1 (.bool true)).far (p := ⟨W0.heap.size, f * 2, none⟩) hn2 (.int .i64 (q : Int))).far (p := ⟨W0.heap.size, f * 2 + 1, none⟩) hn2 (.bool true)).drew
                      have HH6 := ((HH5.mark f true).hop (v := f) ⟨(q : Int), true⟩ (by omega)).drew
                      simp only at HH6
                      clear EA5 HH5 km fm kp0 kp1 fp0 fp1 x0
                      generalize (((we.setCell ⟨W0.heap.size + 1, f, none⟩ (.bool true)).setCell ⟨W0.heap.size, f * 2, none⟩ (.int .i64 (q : Int))).setCell ⟨W0.heap.size, f * 2 + 1, none⟩ (.bool true)).drew = wf at *
                      have x0 := arc_first EA6
                      have hro := HB.out.room hfN HYF.out
                      rw [HH6.len] at hro
                      have hez := HH6.hK.lt
                      go_wp2_with (at_builtin; refine wpList_append_row _ rfl (.tmp 122) (.tmp 125) _ rfl (W0.heap.size + 1 + 1) 3 i3 _ 1 8 Try.underlying60 HJ.out HY0.out HY1.out HY2.out rfl (by omega) (some ⟨br2, offr2, none⟩) m2 c2 _ rfl (HH6.alloc _).row (some ⟨wf.heap.size, 0, none⟩) 1 1 [.int .i64 (f : Int)] rfl rfl (fun _ => ⟨_, rfl, blk_src (cs := #[.int .i64 (f : Int)]) (Blk.new rfl)⟩) (fun y hy => by simp at hy; subst hy; rfl) (by unfold maxLen; omega) (by omega) (by simp; omega) ?_)
                      intro A7 c7 w7 HO7 hg7 HX7
                      have HH7 := (HH6.alloc _).grow hg7 HO7.out
                      clear HX7 HO7 hg7 HH6 EA6 x0 hez
                      go_wp2_with fail
                      go_roundw
                      case measure => simp [intOf]; omega
                      case rel =>
                      refine ⟨q + 1, _, _, _, _, _, _, by omega, by go_num, rfl, by omega, by rw [List.getElem?_append_left (List.getElem?_eq_some_iff.1 HV.out).1]; exact HV.out, HB.out.bwd HV.out hfN HYF.out HA3.out HX.out hxz, ?_, HH7⟩
                      refine (HS.out.set HE.out (by omega)).next HA3.out HX.out (fun e1 e2 => ?_) (fun _ _ => ?_)
                      · simp only at e1 e2 ⊢
                        rw [inS_set (by omega) (by omega), HTO.out (by omega) e2]; rfl
                      · simp only
                        rw [inS_set (by omega) (by omega)]; simp
                    · have hbf : (decide (u = v) && (!yf && decide (0 < x))) = false := by
                        cases hq : (decide (u = v) && (!yf && decide (0 < x)))
                        · rfl
                        · simp at hq; exact absurd hq hc
                      rw [hbf]
                      go_wp2_with fail
                      go_roundw
                      case measure => simp [intOf]; omega
                      case rel =>
                      refine ⟨q + 1, _, _, _, _, _, _, by omega, by go_num, rfl, hlt2, HV.out, HB.out, ?_, HH5⟩
                      refine HS.out.next HA3.out HX.out (fun e1 e2 => ?_) (fun e1 e2 => ?_)
                      · simp only at e1 e2 ⊢
                        exact HTO.out (by omega) e2
                      · simp only at e1 e2 ⊢
                        rw [HYF.out]
                        cases yf
                        · exact absurd ⟨by omega, rfl, e2⟩ hc
                        · rfl
                    -- END
            · obtain rfl : n = q := by omega
              go_wp2_with fail
              go_roundw
              case rel => exact ⟨i + 1, m, c', K, P, xs, A', by go_num, rfl, by omega, HB.out.next HV.out HS.out hla.symm, hh⟩
              case measure => simp [intOf]; omega
        · have hnl : ¬ i < xs.length := by rw [hh.len]; exact hlt2
          have hall := HB.out.all hnl HE.out (v := t)
          have hKl := HB.out.seek.len
          have q0 := hh.hK.bat (at_inS (K := K) (v := t) (by omega))
          have Kr := H1.out.below hh.bel H1.out.lt
          obtain ⟨r0, r1, r2, r3⟩ := Kr.at4
          have HALL := Lib.hid hall; clear hall
          cases hKt : inS K (t : Int)
          · rw [hKt] at q0
            have HKT := Lib.hid hKt; clear hKt
            go_wp2_with fail
            go_ret2
            exact ⟨g, F, true, rfl, H3.out.on hh.bel, fun _ h => (by rw [HALL.out.2 h] at HKT; exact absurd HKT.out (by decide)), below_step H4.out hh.bel⟩
          · rw [hKt] at q0
            have HKT := Lib.hid hKt; clear hKt
            go_upto_region 23 with fail
            go_wp2_with fail
            clear r0 r1 r2 r3 q0 Kr
            obtain ⟨W1, hW1⟩ : ∃ W1, W1 = wr := ⟨_, rfl⟩
            subst hW1
            have hmN : m ≤ N := by rw [← hh.len]; exact HB.out.seek.le
            have hlx := hh.len
            go_loopw [11, 12, 13] (fun s11 s12 _ wr => ∃ (v p c2 : Nat) (A2 : Option Addr) (Y : List HopN), s12 = .int .i64 v ∧ s11 = .slice A2 p c2 ∧ Y.length = p ∧ BackTo l t xs (v : Int) Y ∧ Hops wr wr.heap.size A2 p Y ∧ Below W1.heap.size W1 wr) (fun s11 _ _ _ => N - lenOf s11)
            case atStart => exact ⟨t, 0, 0, none, [], rfl, rfl, rfl, HB.out.back HKT.out, RdBy.empty, Below.refl _ _⟩
            case round =>
              obtain ⟨v, p, c2, A2, Y, rfl, rfl, hYl, hY, hops, hb⟩ := hrel
              have hpm : p < m := by obtain ⟨p', h1, h2, h3⟩ := hY; omega
              have HY := Lib.hid hY; clear hY
              have hbz := hb.size
              have HH2 := hh.on hb
              have Kr := H1.out.below HH2.bel H1.out.lt
              obtain ⟨r0, r1, r2, r3⟩ := Kr.at4
              have hkz := HH2.hK.lt
              by_cases hvs : v = s
              · obtain rfl : s = v := hvs.symm
                have hiw : IsWay l Y := HY.out.isWay
                have hwy : Way l (s : Int) Y (t : Int) := by obtain ⟨_, _, _, h⟩ := HY.out; exact h
                have HIW := Lib.hid hiw; have HWY := Lib.hid hwy
                have HF3 := H3.out.on HH2.bel
                have HF := Lib.hid HF3
                have hbw := below_step H4.out HH2.bel
                have HBW := Lib.hid hbw
                clear hiw hwy HF3 hbw
                go_wp2_with fail
                refine (room_good N s t A n c l _ n _ F A2 p c2 Y _ (hA.on HBW.out) HCK.out (HF.out.blk.ints HF.out.len) HF.out.flow hops (by omega) HIW.out).mono ?_
                rintro e w5 ⟨r, rfl, hr, B5⟩
                have HR := Lib.hid hr; clear hr
                have HF5 := Lib.hid (HF.out.on B5)
                have hops5 := hops.on B5
                have HBW5 := Lib.hid (below_step HBW.out B5)
                have Kr5 := Kr.below B5 Kr.lt
                clear r0 r1 r2 r3 hops hb HH2 Kr
                obtain ⟨y0, y1, y2, y3⟩ := Kr5.at4
                have hz5 := Kr5.lt
                go_wp2_with fail
                refine (send_good N s t A n c l _ n _ F A2 p c2 Y r r _ (hA.on HBW5.out) HCK.out (HF5.out.blk.ints HF5.out.len) HF5.out.flow hops5 (by omega) HIW.out HR.out HR.out.1 (Int.le_refl _)).mono ?_
                rintro e w6 ⟨g6, rfl, hg6, G6, hG6, B6⟩
                have Kr6 := Kr5.below B6 Kr5.lt
                have HF6 := Lib.hid (HF5.out.on B6)
                have HBW6 := Lib.hid (below_step HBW5.out B6)
                clear y0 y1 y2 y3 Kr5 hops5
                have hr0 := HR.out.1
                by_cases hr1 : r < 1
                · go_wp2_with fail
                  go_ret2
                  exact ⟨g, F, false, rfl, HF6.out, fun h => (by cases h), HBW6.out⟩
                · have hdr : decide (r < 1) = false := decide_eq_false hr1
                  go_wp2_with fail
                  go_roundw
                  case rel => exact ⟨k + 1, g6, sent F Y r, by omega, by go_num, rfl, ⟨G6, hG6, by omega, HR.out.sent hr0 (Int.le_refl _), right_sent HF6.out.flow.len HF6.out.right HWY.out⟩, Kr6, HBW6.out⟩
                  case measure => simp [intOf]; omega
              · have hvi : ¬ (v : Int) = (s : Int) := by omega
                have hvN : v < N := by
                  obtain ⟨p', h1, _, _⟩ := HY.out
                  obtain ⟨y, hy, h2, _⟩ := HB.out.nat h1
                  omega
                -- SLOW
                obtain ⟨⟨ar, bk⟩, u, hPv, hat, hback⟩ := HB.out.step HY.out hvs
                obtain ⟨u, rfl⟩ : ∃ y : Nat, u = (y : Int) := by
                  obtain ⟨p', hxp, _, _⟩ := hback
                  obtain ⟨y, e, _, _, _⟩ := HB.out.nat hxp
                  exact ⟨y, e⟩
                obtain ⟨har, ⟨a0, a1, a2⟩, hla2, hbeg, hend⟩ := hat
                simp only at har hla2 hbeg hend
                obtain ⟨j, rfl⟩ := Int.eq_ofNat_of_zero_le har
                rw [Int.toNat_natCast] at hla2
                have hjn : j < n := by rw [← hla]; exact (List.getElem?_eq_some_iff.1 hla2).1
                obtain ⟨h0, h1⟩ := hvs_at hPv
                have kp0 := (HH2.hP.cell (v * 2)).trans h0
                have kp1 := (HH2.hP.cell (v * 2 + 1)).trans h1
                have hbw := below_step H4.out HH2.bel
                obtain ⟨b, off, rfl⟩ : ∃ b off, A = some ⟨b, off, none⟩ := by obtain ⟨b, off, _, e, _⟩ := arcs_at (hA.below hbw) hjn; exact ⟨b, off, e⟩
                simp only at kp0 kp1
                have HBK := Lib.hid hback; have HLA := Lib.hid hla2; have HBG := Lib.hid hbeg
                clear hback hla2 hbeg hend h0 h1 hPv hbw har
                go_wp2_with (at_builtin; refine wpList_append_row _ rfl (.tmp 146) (.tmp 147) _ rfl (wr.heap.size + 1) 62 i1 _ 2 16 Try.underlying59 HI.out HZ0.out HZ1.out HZ2.out rfl (by omega) (some ⟨wr.heap.size + 1, 0, none⟩) 1 1 (hopCells ⟨(j : Int), bk⟩) rfl (own_of_block (Blk.new (by simp)) (Nat.le_refl _) (by unfold maxLen; omega) rfl) A2 p c2 (Y.flatMap hopCells) rfl (by rw [flat_len (hop_len Y), hYl]) (fun h => RdBy.src (hop_len Y) ((hops.onAlloc _).onAlloc _) h) hop_one (by unfold maxLen; omega) (by omega) (by simp) ?_)
                intro A3 c3 w5 HO5 hg5 HX5
                have E4 : Blk ((wr.alloc (.cells #[.int .i64 (j : Int), .bool bk] 62)).alloc (.cells #[.int .i64 (j : Int), .bool bk] 62)) wr.heap.size 62 #[.int .i64 (j : Int), .bool bk] := (Blk.new rfl).alloc _
                have E5 : Blk w5 wr.heap.size 62 #[.int .i64 (j : Int), .bool bk] := E4.grown hg5 (by simp [Value.ownBlock])
                have hb5 : Below W1.heap.size W1 w5 := ((hb.alloc hbz _).alloc (by simp; omega) _).grown hg5 (by simp; omega) (fun k hk => by simp [Value.ownBlock] at hk; omega)
                have hops5 : Hops w5 w5.heap.size A3 (1 + p) (⟨(j : Int), bk⟩ :: Y) := hops_own (by simpa [List.flatMap_cons] using HO5.out) (by simp [hYl]; omega)
                have HH3 := hh.on hb5
                obtain ⟨hbb5, d0, d1⟩ := arcs_get (hA.below (below_step H4.out HH3.bel)) HLA.out
                simp only at d0 d1
                have Kr5 := H1.out.below HH3.bel H1.out.lt
                obtain ⟨y0, y1, y2, y3⟩ := Kr5.at4
                have z0 := E5.cell 0
                have z1 := E5.cell 1
                simp only [List.getElem?_toArray, List.getElem?_cons_zero, List.getElem?_cons_succ] at z0 z1
                clear r0 r1 r2 r3 kp0 kp1 HH2 E4 HO5 hg5 HX5 hops Kr
                cases bk
                · have hbg : a0 = (u : Int) := HBG.out
                  subst hbg
                  go_wp2_with fail
                  go_roundw
                  case rel => exact ⟨u, 1 + p, c3, A3, _, rfl, rfl, by simp [hYl]; omega, HBK.out, hops5, hb5⟩
                  case measure => simp [lenOf]; omega
                · have hbg : a1 = (u : Int) := HBG.out
                  subst hbg
                  go_wp2_with fail
                  go_roundw
                  case rel => exact ⟨u, 1 + p, c3, A3, _, rfl, rfl, by simp [hYl]; omega, HBK.out, hops5, hb5⟩
                  case measure => simp [lenOf]; omega
                -- END
    · obtain rfl : k = 400 := by omega
      go_wp2_with fail
      go_ret2
      exact ⟨_, _, _, rfl, HG, fun h => (by cases h), B1⟩

end Go.Proofs.Ythpmappcfgiggaa
