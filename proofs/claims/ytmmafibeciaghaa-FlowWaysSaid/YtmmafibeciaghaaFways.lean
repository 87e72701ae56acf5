/- FlowWays: the walk. -/
import Derived.Test.YtmmafibeciaghaaAwake3
import Derived.Test.YtmmafibeciaghaaSendp
import Derived.Test.YtmmafibeciaghaaMakes
import Derived.Test.YtmmafibeciaghaaLast
import Derived.Deep.AppendLies
import Derived.Deep.DeepCutAuto
import Derived.Deep.CutBlock
namespace Go.Proofs.Ytmmafibeciaghaa
open Go.RowKit

theorem own_none (W : World) : (W.alloc (.cells #[] 43)).ownsRow W.heap.size 43 2 (.slice (some ⟨W.heap.size, 0, none⟩) 0 0) 0 [] :=
  World.ownsRow_made W #[] 0 (Nat.le_refl _) (Nat.zero_le _) rfl
theorem own_none_at {W : World} {g : Nat} (h : W.heap.size = g) : (W.alloc (.cells #[] 43)).ownsRow g 43 2 (.slice (some ⟨g, 0, none⟩) 0 0) 0 [] := by
  subst h
  exact own_none W
theorem isway_snoc {l : List ArcN} {v x y : Int} {H : List HopN} (hw : Way l v H x) : IsWay l (H ++ [⟨y, false⟩]) ↔ (0 ≤ y ∧ y < l.length) ∧ (H = [] ∨ ∀ a, l[y.toNat]? = some a → a.frm = x) := by
  constructor
  · intro h
    have h1 := h.arcs ⟨y, false⟩ (by simp)
    refine ⟨h1, ?_⟩
    by_cases hH : H = []
    · exact .inl hH
    · refine .inr fun a ha => ?_
      have := h.next (k := H.length) (h := ⟨y, false⟩) (a := a) (v := v) (w := x) (by simp) ha (fun e => hH (List.eq_nil_of_length_eq_zero e)) (by rw [List.take_left']; exact hw; rfl)
      simpa [hBegin] using this
  · rintro ⟨⟨h0, h1⟩, h2⟩
    obtain ⟨a, ha⟩ : ∃ a, l[y.toNat]? = some a := ⟨_, List.getElem?_eq_getElem (by omega)⟩
    have hop : HopAt l ⟨y, false⟩ a.frm a.to := ⟨h0, a, ha, rfl, rfl⟩
    rcases h2 with rfl | h2
    · exact .inr ⟨a.frm, a.to, a.to, hop, rfl⟩
    · rw [h2 a ha] at hop
      exact .inr ⟨v, a.to, hw.snoc hop⟩
theorem flow_spoilt {l : List ArcN} {F : List Int} {a : ArcN} (ha : l[0]? = some a) (hl : F.length = l.length) : ¬ FlowIn l (F.set 0 (a.cap + 1)) := fun h => by
  have hlt := (List.getElem?_eq_some_iff.1 ha).1
  have := h.ent 0 a (a.cap + 1) ha (by rw [List.getElem?_set_self (by omega)])
  omega

set_option maxRecDepth 100000 in
set_option maxHeartbeats 8000000 in
theorem fways_walk (N S T : Int) (A : Option Addr) (n c : Nat) (l : List ArcN) (AL : Option Addr) (nl cl : Nat) (L : List Int) (fr : Nat) (AU : Option Addr) (nu cu : Nat) (U : List Int) (arc : Int) (w : World) (hA : Arcs w w.heap.size A n l) (hf : FitsAll l) (hnc : n ≤ c) (hL : Ints w w.heap.size AL nl L) (hLR : ∀ x ∈ L, InR x)
    (hfr : fr ≤ 255) (hU : Bytes w w.heap.size AU nu U) (hUR : ∀ x ∈ U, 0 ≤ x ∧ x ≤ 255) (hnu : nu ≤ cu) (harc : InR arc) :
    Calls Try.prog 6 #[.agg #[.int .i64 N, .int .i64 S, .int .i64 T, .slice A n c], .slice AL nl cl, .int .u8 fr, .slice AU nu cu, .int .i64 arc] w fun e w' => e = .returned (.bool true) ∧ Below w.heap.size w w' := by
  have hso := fun W hW => some_any N S T A n c 40 80 l W hW hf hnc (by omega) (by omega) (by omega)
  obtain ⟨N1, hN1, hN2, hN3, hck, hln, hmem⟩ := some_net N S T 40 80 l (by omega) (by omega) (by omega)
  rw [hN1] at hso hck hln hmem
  generalize S % (N1 : Int) = S1 at *
  generalize someT (N1 : Int) S T = T1 at *
  generalize someL (N1 : Int) 80 l = l1 at *
  have hE : EndsIn N1 l1 := (ends_in hck).2.2.2.1
  have htot := total_le (c := 1125899906842624) fun a ha => (hmem a ha).2.2.2.2.2
  have HSO := Lib.hid hso; have HCK := Lib.hid hck; have HMEM := Lib.hid hmem; have HE := Lib.hid hE
  clear hso hck hmem hN1 hE
  obtain ⟨q, hq⟩ : ∃ q, min nu 20 = q := ⟨_, rfl⟩
  obtain ⟨v, hv⟩ : ∃ v, fr % N1 = v := ⟨_, rfl⟩
  have hvN : v < N1 := by rw [← hv]; exact Nat.mod_lt _ (by omega)
  have ek2 : (fr : Int).tmod (N1 : Int) = (v : Int) := by rw [Int.tmod_eq_emod_of_nonneg (by omega), ← hv]; omega
  have hNz : ¬ (N1 : Int) = 0 := by omega
  have HV0 := Lib.hid hv
  clear hv
  go_enter Try.func6, Try.ntmps6
  go_wp2_with fail
  refine (HSO.out _ (hA.onAlloc _)).mono ?_
  rintro e w1 ⟨A1, n1, c1, rfl, o1, hl1, B1⟩
  have K1 : Blk w1 w.heap.size 24 #[.int .i64 N, .int .i64 S, .int .i64 T, .slice A n c] := (Blk.new rfl).below B1 (by simp)
  have hz1 := K1.lt
  obtain ⟨r0, r1, r2, r3⟩ := K1.at4
  obtain ⟨f0, f1, f2, f3⟩ := K1.free4
  have ST := some_stored K1 o1 hl1 (below_step (below_alloc _) B1) (.int .i64 (N1 : Int)) (.int .i64 S1) (.int .i64 T1)
  have hn1 : n1 ≤ 80 := by omega
  go_wp2_with fail
  generalize (((w1.setCell ⟨w.heap.size, 0, none⟩ (.int .i64 (N1 : Int))).setCell ⟨w.heap.size, 1, none⟩ (.int .i64 S1)).setCell ⟨w.heap.size, 2, none⟩ (.int .i64 T1)).setCell ⟨w.heap.size, 3, none⟩ (.slice A1 n1 c1) = w2 at *
  obtain ⟨K2, a2, Bw2⟩ := ST
  clear r0 r1 r2 r3 f0 f1 f2 f3 K1 o1 B1 hz1 HSO
  have hz2 := K2.lt
  refine (withinL_any N1 S1 T1 A1 n1 c1 l1 AL nl cl L _ a2 (by omega) (fun a ha => by have := HMEM.out a ha; omega) ((hL.below Bw2).more Bw2.size) hLR).mono ?_
  rintro e w3 ⟨gX, X, rfl, hgX, X3, WX, B3⟩
  have hXl : X.length = n1 := WX.len.trans hl1
  have K3 := K2.below B3 K2.lt
  have a3 := a2.on B3
  have Bw3 := below_step Bw2 B3
  have U3 : Bytes w3 w3.heap.size AU nu U := (hU.below Bw3).more Bw3.size
  have hfl := WX.flow hl1
  have HFL := Lib.hid hfl
  clear hfl WX
  have HA2 := Lib.hid a2
  have Bt3 := B3
  clear K2 a2 Bw2 B3
  obtain ⟨r0, r1, r2, r3⟩ := K3.at4
  have hz3 := K3.lt
  go_upto_region 3 with fail
  have HK := Lib.hid K3; have HAA := Lib.hid (fun (W : World) (hb : Below w3.heap.size w3 W) => a3.on hb); have HUU := Lib.hid (fun (W : World) (hb : Below w3.heap.size w3 W) => (U3.short (m := q) (by omega)).on hb)
  have hUR2 : ∀ x ∈ U.take q, 0 ≤ x ∧ x ≤ 255 := fun x hx => hUR x (List.mem_of_mem_take hx)
  have HUR2 := Lib.hid hUR2; clear hUR2
  go_cut [12, 13] (fun s12 s13 wx => ∃ (AH : Option Addr) (p cH : Nat) (H : List HopN) (x : Int), s12 = .slice AH p cH ∧ s13 = .int .i64 x ∧ Hops wx wx.heap.size AH p H ∧ p ≤ 30 ∧ Way l1 (v : Int) H x ∧ Below w3.heap.size w3 wx)
  case first =>
    have hcv : IntKind.i64.wrap (fr : Int) = (fr : Int) := wrap_id (by omega) (by omega)
    have hwv : IntKind.i64.wrap (v : Int) = (v : Int) := wrap_id (by omega) (by omega)
    have hNz3 : ¬ N1 = 0 := by omega
    have hfv := HV0.out
    have h0q : (0 : Int) ≤ (q : Int) := by omega
    have hqc : (q : Int) ≤ (cu : Int) := by omega
    have hsl := bytes_slice AU nu cu q (by omega)
    by_cases hqu : nu ≤ 20
    · obtain rfl : q = nu := by omega
      have h1 : (q : Int) ≤ 20 := by omega
      have h1' : ¬ (20 : Int) < (q : Int) := by omega
      have h1'' : min (q : Int) 20 = (q : Int) := by omega
      go_region_held3 (fun W => Below w3.heap.size w3 W ∧ W.cell? ⟨w.heap.size, 0, none⟩ = some (.int .i64 (N1 : Int)) ∧ W.cell? ⟨w.heap.size, 1, none⟩ = some (.int .i64 S1) ∧ W.cell? ⟨w.heap.size, 2, none⟩ = some (.int .i64 T1) ∧ W.cell? ⟨w.heap.size, 3, none⟩ = some (.slice A1 n1 c1))
        (first
          | exact hops_keep HK.out (Below.refl _ _).drew
          | (go_split_ands
             exact hops_keep HK.out (by refine below_step ?_ (by assumption); assumption)))
        (first
          | (go_at_call 16; go_split_ands; ((with_reducible refine (hops_any _ _ _ A1 n1 c1 l1 (v : Int) AU q _ (U.take q) _ (HAA.out _ (by assumption)) (by omega) (HUU.out _ (by assumption)) (by omega) HUR2.out).mono ?_); rintro e W4 ⟨AH, p, cH, H, x, rfl, oH, hlH, hpH, hwH, B4⟩)))
      go_split_ands
      go_wp2_with fail
      go_meet
      exact ⟨AH, p, cH, H, x, rfl, rfl, hops_own oH hlH, by omega, hwH, by assumption⟩
    · obtain rfl : q = 20 := by omega
      have hsl' : ∀ W, (Instr.sliceAt 35 (.slice AU nu cu) none (some (.int .i64 20)) none).run Try.prog W = .ok (.slice AU 20 cu) W := hsl
      have h1 : ¬ (nu : Int) ≤ 20 := by omega
      have h1' : (20 : Int) < (nu : Int) := by omega
      go_region_held3 (fun W => Below w3.heap.size w3 W ∧ W.cell? ⟨w.heap.size, 0, none⟩ = some (.int .i64 (N1 : Int)) ∧ W.cell? ⟨w.heap.size, 1, none⟩ = some (.int .i64 S1) ∧ W.cell? ⟨w.heap.size, 2, none⟩ = some (.int .i64 T1) ∧ W.cell? ⟨w.heap.size, 3, none⟩ = some (.slice A1 n1 c1))
        (first
          | exact hops_keep HK.out (Below.refl _ _).drew
          | (go_split_ands
             exact hops_keep HK.out (by refine below_step ?_ (by assumption); assumption)))
        (first
          | (go_at_call 16; go_split_ands; ((with_reducible refine (hops_any _ _ _ A1 n1 c1 l1 (v : Int) AU 20 _ (U.take 20) _ (HAA.out _ (by assumption)) (by omega) (HUU.out _ (by assumption)) (by omega) HUR2.out).mono ?_); rintro e W4 ⟨AH, p, cH, H, x, rfl, oH, hlH, hpH, hwH, B4⟩)))
      go_split_ands
      go_wp2_with fail
      go_meet
      exact ⟨AH, p, cH, H, x, rfl, rfl, hops_own oH hlH, by omega, hwH, by assumption⟩
  case rest =>
    obtain ⟨AH, p, cH, H, x, rfl, rfl, H4, hp, hw, B4⟩ := hcut
    have K4 := HK.out.below B4 HK.out.lt
    have a4 := a3.on B4
    have X4 := X3.below B4 X3.lt
    have Bw4 := below_step Bw3 B4
    have Bt4 := below_step Bt3 B4
    have HW := Lib.hid hw
    have hlH := H4.len
    clear K3 a3 X3 Bw3 B4 r0 r1 r2 r3 hz3 HK HAA HUU HUR2 U3 hw hU
    obtain ⟨i0, hi, hz0, hz1, hz2⟩ := info_parts hop_info
    have HI := Lib.hid hi; have HZ0 := Lib.hid hz0; have HZ1 := Lib.hid hz1; have HZ2 := Lib.hid hz2
    clear hi hz0 hz1 hz2
    have hz4 := K4.lt
    go_wp2_with (at_builtin; refine wpList_append_row _ rfl (.tmp 47) (.tmp 48) _ rfl wc.heap.size 43 i0 _ 2 16 Try.underlying37 HI.out HZ0.out HZ1.out HZ2.out rfl (by omega) (some ⟨wc.heap.size, 0, none⟩) 0 0 [] rfl (own_none wc) AH p cH (H.flatMap hopCells) rfl ?_ ?_ hop_one ?_ ?_ ?_ ?_)
    · rw [flat_len (hop_len H), hlH]
    · exact RdBy.src (hop_len H) (H4.onAlloc _)
    · unfold maxLen; omega
    · omega
    · simp
    · intro A5 c5 w5 HO5 hg5 HX5
      have B5 := below_grown (below_alloc _) hg5 (own_none wc) (Nat.le_refl _) (by simp)
      have HO5' : Hid (w5.ownsRow wc.heap.size 43 2 (.slice A5 p c5) p ((H ++ backWay (H.drop p)).flatMap hopCells)) := by
        refine Lib.hid ?_
        rw [← hlH, back_none, List.append_nil]
        rw [hlH]
        simpa using HO5.out
      clear HO5 hg5 HX5
      go_wp2_with fail
      go_loopw [14, 15] (fun s14 s15 wr => ∃ (j nB : Nat) (AB : Option Addr) (cB : Nat) (z : Int), nB + j = p + p ∧ j ≤ p ∧ z + 1 = (j : Int) ∧ s15 = .int .i64 z ∧ s14 = .slice AB nB cB ∧ wr.ownsRow wc.heap.size 43 2 (.slice AB nB cB) nB ((H ++ backWay (H.drop j)).flatMap hopCells) ∧ Below wc.heap.size wc wr) (fun _ i _ => (intOf i + 1).toNat)
      case atStart => exact ⟨p, p, A5, c5, (p : Int) - 1, by omega, by omega, by omega, rfl, rfl, HO5'.out, B5⟩
      case round =>
        obtain ⟨j, nB, AB, cB, z, hnb, hjp, hz, rfl, rfl, ho, hb⟩ := hrel
        have HO := Lib.hid ho; clear ho HO5' B5
        have hzB := hb.size
        by_cases hj : j = 0
        · subst hj
          obtain rfl : z = -1 := by omega
          obtain rfl : nB = p + p := by omega
          rw [List.drop_zero] at HO
          have bB := hops_own HO.out (by rw [List.length_append, backWay_len]; omega)
          have hwb := HW.out.append HW.out.back
          have HWB := Lib.hid hwb
          have K6 := K4.below hb K4.lt
          have a6 := a4.on hb
          have X6 := X4.below hb X4.lt
          have H6 := H4.on hb
          have Bw6 := below_step Bw4 hb
          have Bt6 := below_step Bt4 hb
          clear K4 a4 X4 H4 Bw4 hb HO hz hnb hwb
          obtain ⟨r0, r1, r2, r3⟩ := K6.at4
          have hz6 := K6.lt
          go_wp2_with fail
          refine (room_good N1 S1 T1 A1 n1 c1 l1 _ n1 _ X AB (p + p) cB _ _ a6 HCK.out (X6.ints hXl) HFL.out bB (by omega) (way_is HWB.out)).mono ?_
          rintro e w7 ⟨r, rfl, hr, B7⟩
          have hrm := hr.both HFL.out
          unfold maxSum at hrm
          subst hrm
          have HR := Lib.hid hr
          have K7 := K6.below B7 K6.lt
          have a7 := a6.on B7
          have X7 := X6.below B7 X6.lt
          have H7 := H6.on B7
          have b7 := bB.on B7
          have Bw7 := below_step Bw6 B7
          have Bt7 := below_step Bt6 B7
          clear r0 r1 r2 r3 hz6 K6 a6 X6 H6 bB Bw6 B7 hr
          obtain ⟨r0, r1, r2, r3⟩ := K7.at4
          have hz7 := K7.lt
          go_wp2_with fail
          refine (send_good N1 S1 T1 A1 n1 c1 l1 _ n1 _ X AB (p + p) cB _ _ 4611686018427387904 _ a7 HCK.out (X7.ints hXl) HFL.out b7 (by omega) (way_is HWB.out) HR.out (by omega) (by omega)).mono ?_
          rintro e w8 ⟨gs, rfl, hgs, S8, -, B8⟩
          rw [sent_none X _ _ (surp_both H)] at S8
          have K8 := K7.below B8 K7.lt
          have a8 := a7.on B8
          have X8 := X7.below B8 X7.lt
          have H8 := H7.on B8
          have Bw8 := below_step Bw7 B8
          have Bt8 := below_step Bt7 B8
          clear r0 r1 r2 r3 hz7 K7 a7 X7 H7 b7 Bw7 B8
          obtain ⟨r0, r1, r2, r3⟩ := K8.at4
          have hz8 := K8.lt
          go_wp2_with fail
          refine (longs_is (n := n1) (m := n1) _ _ (S8.ints hXl) (X8.ints hXl) (by omega) (by omega) (v := true) (by simp)).mono ?_
          rintro e w9 ⟨rfl, B9⟩
          have K9 := K8.below B9 K8.lt
          have a9 := a8.on B9
          have X9 := X8.below B9 X8.lt
          have H9 := H8.on B9
          have Bw9 := below_step Bw8 B9
          have Bt9 := below_step Bt8 B9
          clear r0 r1 r2 r3 hz8 K8 a8 X8 H8 Bw8 B9 S8
          obtain ⟨r0, r1, r2, r3⟩ := K9.at4
          have hz9 := K9.lt
          go_upto_region 13 with fail
          go_cut [20] (fun s20 wx => ∃ b : Bool, s20 = .bool b ∧ Says b (IsWay l1 (H ++ [⟨arc, false⟩])) ∧ wx = w9)
          case first =>
            by_cases h0 : arc < 0
            · have h0' : decide (0 ≤ arc) = false := by simpa using h0
              go_wp2_with fail
              go_meet
              exact ⟨false, rfl, Says.mk (by rw [isway_snoc HW.out]; simp; omega), rfl⟩
            · by_cases h1 : (n1 : Int) ≤ arc
              · have h1' : decide (arc < (n1 : Int)) = false := by simpa using h1
                go_wp2_with fail
                go_meet
                exact ⟨false, rfl, Says.mk (by rw [isway_snoc HW.out]; simp; omega), rfl⟩
              · obtain ⟨i, rfl⟩ := Int.eq_ofNat_of_zero_le (show 0 ≤ arc by omega)
                have hi : i < n1 := by omega
                have hin : (i : Int) < (n1 : Int) := by omega
                by_cases hp0 : p = 0
                · subst hp0
                  have hH0 : H = [] := List.eq_nil_of_length_eq_zero hlH
                  have HH0 := Lib.hid hH0; clear hH0
                  go_wp2_with fail
                  go_meet
                  exact ⟨true, rfl, Says.mk (by rw [isway_snoc HW.out]; simp [HH0.out]; omega), rfl⟩
                · have hp0' : ((p : Int) == 0) = false := by simp; omega
                  obtain ⟨b, off, a, rfl, hbl, hla, z0, z1, z2⟩ := arcs_at a9 hi
                  have HLA := Lib.hid hla; clear hla
                  have hHne : H ≠ [] := fun e => hp0 (by rw [← hlH, e]; rfl)
                  have HHN := Lib.hid hHne; clear hHne
                  cases hax : (a.frm == x)
                  all_goals
                    have HAX := Lib.hid hax
                    go_wp2_with fail
                    go_meet
                    refine ⟨_, rfl, Says.mk ?_, rfl⟩
                    rw [isway_snoc HW.out]
                    have hax' := HAX.out
                    have hhn := HHN.out
                    have hla := HLA.out
                    simp only [Int.toNat_natCast, hla, Option.some.injEq, hhn, false_or]
                    simp at hax'
                    simp
                    first
                      | (intro _ h; exact hax' h)
                      | exact ⟨by omega, hax'⟩
                      | omega
          case rest =>
            obtain ⟨bt, rfl, hsays, hwx⟩ := hcut
            subst hwx
            have HS := Lib.hid hsays; clear hsays
            go_upto_region 14 with fail
            go_cut [21, 22] (fun s21 s22 wx => ∃ r : Int, s21 = .int .i64 r ∧ ((bt = true ∧ s22 = .int .i64 0) ∨ (bt = false ∧ s22 = .int .i64 13)) ∧ Below wc.heap.size wc wx)
            case first =>
              have HK := Lib.hid K9; have HAA := Lib.hid (fun (W : World) (hb : Below wc.heap.size wc W) => a9.on hb); have HXX := Lib.hid (fun (W : World) (hb : Below wc.heap.size wc W) => (X9.ints hXl).on hb)
              have HSR := Lib.hid (fun (W : World) (hb : Below wc.heap.size wc W) (h0 : 0 < p) => RdBy.src (hop_len H) (H9.on hb) h0)
              have HFLN : Hid ((H.flatMap hopCells).length = p * 2) := Lib.hid (by rw [flat_len (hop_len H), hlH])
              refine wp_region_held_drew (S := (fun W => Below wc.heap.size wc W ∧ W.cell? ⟨w.heap.size, 0, none⟩ = some (.int .i64 (N1 : Int)) ∧ W.cell? ⟨w.heap.size, 1, none⟩ = some (.int .i64 S1) ∧ W.cell? ⟨w.heap.size, 2, none⟩ = some (.int .i64 T1) ∧ W.cell? ⟨w.heap.size, 3, none⟩ = some (.slice A1 n1 c1))) (by kernel_rfl) (hops_keep HK.out (Below.refl _ _).drew) (fun hS0 => ?_)
              have hbd : Below wc.heap.size wc wc.drew := (Below.refl _ _).drew
              generalize wc.drew = wd at hS0 hbd ⊢
              have hzle := hbd.size
              refine takeD (i := 0) (v := ?_) (some 128) rfl rfl (by kernel_rfl) (by kernel_rfl) (by kernel_rfl) (fun _ _ _ h => h) (Or.inl ⟨by rfl, ?_⟩) (by assumption) ?_
              rotate_left
              · (intro W hSw; go_split_ands; go_simp; try with_reducible rfl)
              simp only [Act.put, List.setIfInBounds_toArray, List.set_cons_zero, List.set_cons_succ]
              refine takeD (i := 1) (v := ?_) (some 129) rfl rfl (by kernel_rfl) (by kernel_rfl) (by kernel_rfl) (fun _ _ _ h => h) (Or.inl ⟨by rfl, ?_⟩) (by assumption) ?_
              rotate_left
              · (intro W hSw; go_split_ands; go_simp; try with_reducible rfl)
              simp only [Act.put, List.setIfInBounds_toArray, List.set_cons_zero, List.set_cons_succ]
              refine takeD (i := 3) (v := ?_) (some 131) rfl rfl (by kernel_rfl) (by kernel_rfl) (by kernel_rfl) (fun _ _ _ h => h) (Or.inl ⟨by rfl, ?_⟩) (by assumption) ?_
              rotate_left
              · (intro W hSw; go_split_ands; go_simp; try with_reducible rfl)
              simp only [Act.put, List.setIfInBounds_toArray, List.set_cons_zero, List.set_cons_succ]
              refine takeD (i := 5) (v := ?_) (some 133) rfl rfl (by kernel_rfl) (by kernel_rfl) (by kernel_rfl) (fun _ _ _ h => h) (Or.inl ⟨by rfl, ?_⟩) (by assumption) ?_
              rotate_left
              · (intro W hSw; go_split_ands; go_simp; try with_reducible rfl)
              simp only [Act.put, List.setIfInBounds_toArray, List.set_cons_zero, List.set_cons_succ]
              refine takeD (i := 6) (v := ?_) (some 134) rfl rfl (by kernel_rfl) (by kernel_rfl) (by kernel_rfl) (fun _ _ _ h => h) (Or.inl ⟨by rfl, ?_⟩) (by assumption) ?_
              rotate_left
              · (intro W hSw; go_split_ands; go_simp; try with_reducible rfl)
              simp only [Act.put, List.setIfInBounds_toArray, List.set_cons_zero, List.set_cons_succ]
              refine (have tail : Hid ?T := ?tailp; ?main)
              case main =>
                refine wpAnyH_ready (rs := [2, 7]) (by kernel_rfl) (by simp) ?_
                refine AllReadyH.cons rfl (fun K hK => ?_) (AllReadyH.cons rfl (fun K hK => ?_) AllReadyH.nil)
                · go_simp
                  refine hK.out _ _ (hops_keep HK.out (hbd.alloc (by omega) _)) (fun _ => ?_)
                  clear hK K
                  try simp only [Act.put, List.setIfInBounds_toArray, List.set_cons_zero, List.set_cons_succ]
                  refine wpAnyH_ready (rs := [4, 7]) (by kernel_rfl) (by simp) ?_
                  refine AllReadyH.cons rfl (fun K hK => ?_) (AllReadyH.cons rfl (fun K hK => ?_) AllReadyH.nil)
                  · refine step_append_row _ (by rfl) (.tmp 130) (.tmp 131) _ (by rfl) wd.heap.size 43 i0 _ 2 16 Try.underlying37 HI.out HZ0.out HZ1.out HZ2.out rfl (by omega) (some ⟨wd.heap.size, 0, none⟩) 0 0 [] (by rfl) (own_none wd) AH p cH (H.flatMap hopCells) (by rfl) HFLN.out (HSR.out _ (hbd.alloc (by omega) _)) hop_one (by unfold maxLen; omega) (by omega) (by first | omega | (simp; done) | (simp; omega)) ?_
                    intro A6 c6 w6 HO6 hg6 HX6
                    have B6 : Below wc.heap.size wc w6 := below_grown (hbd.alloc (by omega) _) hg6 (own_none wd) (by omega) (by simp; omega)
                    have hz6 : wd.heap.size ≤ w6.heap.size := by have h := hg6.size; simp at h; omega
                    refine hK.out _ _ (hops_keep HK.out B6) (fun hS6 => ?_)
                    clear hK K
                    show wpAnyH _ _ _ _ _ _ _ (Act.put _ (some 132) _) _
                    simp only [Act.put, List.setIfInBounds_toArray, List.set_cons_zero, List.set_cons_succ, Nat.zero_add]
                    have HO7 : Hid (w6.ownsRow wd.heap.size 43 2 (.slice A6 p c6) p (H.flatMap hopCells)) := Lib.hid (by simpa using HO6.out)
                    refine wpAnyH_ready (rs := [7]) (by kernel_rfl) (by simp) ?_
                    refine AllReadyH.cons rfl (fun K hK => ?_) AllReadyH.nil
                    go_simp
                    have B7 : Below wc.heap.size wc (w6.alloc (.cells #[.int .i64 arc, .bool false] 43)) := B6.alloc (by have := B6.size; omega) _
                    refine hK.out _ _ (hops_keep HK.out B7) (fun hS7 => ?_)
                    clear hK K
                    try simp only [Act.put, List.setIfInBounds_toArray, List.set_cons_zero, List.set_cons_succ]
                    have hz7 : wd.heap.size ≤ (w6.alloc (.cells #[.int .i64 arc, .bool false] 43)).heap.size := by simp; omega
                    have eh7 : Blk (w6.alloc (.cells #[.int .i64 arc, .bool false] 43)) w6.heap.size 43 #[.int .i64 arc, .bool false] := Blk.new rfl
                    have pack := Lib.hid (And.intro (HO7.out.alloc (.cells #[.int .i64 arc, .bool false] 43)) (And.intro eh7 (And.intro B7 hz7)))
                    clear HO7 eh7 B7 hz7 HO6 hg6 HX6 B6 hz6
                    generalize w6.heap.size = gh at pack ⊢
                    generalize w6.alloc (.cells #[.int .i64 arc, .bool false] 43) = W7 at pack ⊢
                    clear hS6 hS7
                    clear w6
                    revert pack
                    revert W7
                    revert gh
                    revert c6
                    revert A6
                    generalize (Value.slice (some ⟨wd.heap.size, 0, none⟩) 0 0) = v0
                    revert v0
                    exact tail.out
                  · go_simp
                    refine hK.out _ _ (hops_keep HK.out ((hbd.alloc (by omega) _).alloc (by simp; omega) _)) (fun _ => ?_)
                    clear hK K
                    try simp only [Act.put, List.setIfInBounds_toArray, List.set_cons_zero, List.set_cons_succ]
                    refine wpAnyH_ready (rs := [4]) (by kernel_rfl) (by simp) ?_
                    refine AllReadyH.cons rfl (fun K hK => ?_) AllReadyH.nil
                    refine step_append_row _ (by rfl) (.tmp 130) (.tmp 131) _ (by rfl) wd.heap.size 43 i0 _ 2 16 Try.underlying37 HI.out HZ0.out HZ1.out HZ2.out rfl (by omega) (some ⟨wd.heap.size, 0, none⟩) 0 0 [] (by rfl) ((own_none wd).alloc _) AH p cH (H.flatMap hopCells) (by rfl) HFLN.out (HSR.out _ ((hbd.alloc (by omega) _).alloc (by simp; omega) _)) hop_one (by unfold maxLen; omega) (by omega) (by first | omega | (simp; done) | (simp; omega)) ?_
                    intro A6 c6 w6 HO6 hg6 HX6
                    have B6 : Below wc.heap.size wc w6 := below_grown ((hbd.alloc (by omega) _).alloc (by simp; omega) _) hg6 ((own_none wd).alloc _) (by omega) (by simp; omega)
                    have hz6 : wd.heap.size ≤ w6.heap.size := by have h := hg6.size; simp at h; omega
                    refine hK.out _ _ (hops_keep HK.out B6) (fun _ => ?_)
                    clear hK K
                    show wpAnyH _ _ _ _ _ _ _ (Act.put _ (some 132) _) _
                    simp only [Act.put, List.setIfInBounds_toArray, List.set_cons_zero, List.set_cons_succ, Nat.zero_add]
                    have HO7 : Hid (w6.ownsRow wd.heap.size 43 2 (.slice A6 p c6) p (H.flatMap hopCells)) := Lib.hid (by simpa using HO6.out)
                    have eh7 : Blk w6 (wd.heap.size + 1) 43 #[.int .i64 arc, .bool false] := (Blk.new (by simp) : Blk ((wd.alloc (.cells #[] 43)).alloc (.cells #[.int .i64 arc, .bool false] 43)) (wd.heap.size + 1) 43 #[.int .i64 arc, .bool false]).grown hg6 (by simp [Value.ownBlock])
                    rw [Array.setIfInBounds_comm true true (show (7:Nat) ≠ 4 by decide)]
                    exact tail.out (.slice (some ⟨wd.heap.size, 0, none⟩) 0 0) A6 c6 (wd.heap.size + 1) w6 (Lib.hid ⟨HO7.out, eh7, B6, hz6⟩)
                · go_simp
                  refine hK.out _ _ (hops_keep HK.out (hbd.alloc (by omega) _)) (fun _ => ?_)
                  clear hK K
                  try simp only [Act.put, List.setIfInBounds_toArray, List.set_cons_zero, List.set_cons_succ]
                  refine wpAnyH_ready (rs := [2]) (by kernel_rfl) (by simp) ?_
                  refine AllReadyH.cons rfl (fun K hK => ?_) AllReadyH.nil
                  go_simp
                  refine hK.out _ _ (hops_keep HK.out ((hbd.alloc (by omega) _).alloc (by simp; omega) _)) (fun _ => ?_)
                  clear hK K
                  try simp only [Act.put, List.setIfInBounds_toArray, List.set_cons_zero, List.set_cons_succ]
                  refine wpAnyH_ready (rs := [4]) (by kernel_rfl) (by simp) ?_
                  refine AllReadyH.cons rfl (fun K hK => ?_) AllReadyH.nil
                  refine step_append_row _ (by rfl) (.tmp 130) (.tmp 131) _ (by rfl) wd.heap.size 43 i0 _ 2 16 Try.underlying37 HI.out HZ0.out HZ1.out HZ2.out rfl (by omega) (some ⟨wd.heap.size + 1, 0, none⟩) 0 0 [] (by rfl) (own_less (base' := wd.heap.size) (own_none_at (g := wd.heap.size + 1) (W := wd.alloc (.cells #[.int .i64 arc, .bool false] 43)) (by simp)) (by omega)) AH p cH (H.flatMap hopCells) (by rfl) HFLN.out (HSR.out _ ((hbd.alloc (by omega) _).alloc (by simp; omega) _)) hop_one (by unfold maxLen; omega) (by omega) (by first | omega | (simp; done) | (simp; omega)) ?_
                  intro A6 c6 w6 HO6 hg6 HX6
                  have B6 : Below wc.heap.size wc w6 := below_grown ((hbd.alloc (by omega) _).alloc (by simp; omega) _) hg6 (own_less (base' := wd.heap.size) (own_none_at (g := wd.heap.size + 1) (W := wd.alloc (.cells #[.int .i64 arc, .bool false] 43)) (by simp)) (by omega)) (by omega) (by simp; omega)
                  have hz6 : wd.heap.size ≤ w6.heap.size := by have h := hg6.size; simp at h; omega
                  refine hK.out _ _ (hops_keep HK.out B6) (fun _ => ?_)
                  clear hK K
                  show wpAnyH _ _ _ _ _ _ _ (Act.put _ (some 132) _) _
                  simp only [Act.put, List.setIfInBounds_toArray, List.set_cons_zero, List.set_cons_succ, Nat.zero_add]
                  have HO7 : Hid (w6.ownsRow wd.heap.size 43 2 (.slice A6 p c6) p (H.flatMap hopCells)) := Lib.hid (by simpa using HO6.out)
                  have eh7 : Blk w6 wd.heap.size 43 #[.int .i64 arc, .bool false] := ((Blk.new rfl : Blk (wd.alloc (.cells #[.int .i64 arc, .bool false] 43)) wd.heap.size 43 #[.int .i64 arc, .bool false]).alloc (.cells #[] 43)).grown hg6 (by simp [Value.ownBlock])
                  rw [Array.setIfInBounds_comm true true (show (7:Nat) ≠ 2 by decide), Array.setIfInBounds_comm true true (show (7:Nat) ≠ 4 by decide)]
                  exact tail.out (.slice (some ⟨wd.heap.size + 1, 0, none⟩) 0 0) A6 c6 wd.heap.size w6 (Lib.hid ⟨HO7.out, eh7, B6, hz6⟩)
              case tailp =>
                refine Lib.hid ?_
                intro v0 A6 c6 gh W7 pack
                obtain ⟨ho7, eh7, B7, hz7⟩ := pack.out
                have HO7 := Lib.hid ho7; have EH7 := Lib.hid eh7; clear pack ho7 eh7
                have hsrc : 0 < 1 → ∃ ad, (some ⟨gh, 0, none⟩ : Option Addr) = some ad ∧ ∀ q u, ([(⟨arc, false⟩ : HopN)].flatMap hopCells)[q]? = some u → W7.cell? (ad.add q) = some u := fun _ => ⟨_, rfl, fun q u hu => by
                  rw [addr_add, Nat.zero_add]
                  exact (EH7.out.cell q).trans (by simpa [hopCells] using hu)⟩
                have HSRC := Lib.hid hsrc; clear hsrc
                have hz8 := B7.size
                refine wpAnyH_ready (rs := [8]) (by kernel_rfl) (by simp) ?_
                refine AllReadyH.cons rfl (fun K hK => ?_) AllReadyH.nil
                refine step_append_row _ (by rfl) (.tmp 132) (.tmp 135) _ (by rfl) wd.heap.size 43 i0 _ 2 16 Try.underlying37 HI.out HZ0.out HZ1.out HZ2.out rfl (by omega) A6 p c6 _ (by rfl) HO7.out (some ⟨gh, 0, none⟩) 1 1 ([(⟨arc, false⟩ : HopN)].flatMap hopCells) (by rfl) rfl HSRC.out hop_one (by unfold maxLen; omega) (by omega) hz7 ?_
                intro A8 c8 w8 HO8 hg8 HX8
                have B8 : Below wc.heap.size wc w8 := below_grown B7 hg8 HO7.out (by omega) (by omega)
                have h8 : Hops w8 w8.heap.size A8 (p + 1) (H ++ [⟨arc, false⟩]) := hops_own (by rw [List.flatMap_append]; exact HO8.out) (by simp; omega)
                refine hK.out _ _ (hops_keep HK.out B8) (fun _ => ?_)
                clear hK K
                show wpAnyH _ _ _ _ _ _ _ (Act.put _ (some 136) _) _
                simp only [Act.put, List.setIfInBounds_toArray, List.set_cons_zero, List.set_cons_succ]
                refine wpAnyH_ready (rs := [9]) (by kernel_rfl) (by simp) ?_
                refine AllReadyH.cons rfl (fun K hK => ?_) AllReadyH.nil
                go_simp
                go_at_call 17
                cases bt
                · refine (room_way N1 S1 T1 A1 n1 c1 l1 _ n1 _ X A8 (p + 1) c8 _ _ (HAA.out _ B8) HCK.out (HXX.out _ B8) HFL.out h8 (by omega) (fun h => by have := HS.out.iff.2 h; cases this)).mono ?_
                  rintro e w9 ⟨rfl, B9⟩
                  have B9' : Below wc.heap.size wc w9 := below_step B8 B9
                  refine hK.out _ _ (hops_keep HK.out B9') (fun _ => ?_)
                  clear hK K
                  try simp only [Act.put, List.setIfInBounds_toArray, List.set_cons_zero, List.set_cons_succ]
                  refine takeD (i := 10) (v := ?_) (some 127) rfl rfl (by kernel_rfl) (by kernel_rfl) (by kernel_rfl) (fun _ _ _ h => h) (Or.inl ⟨by rfl, ?_⟩) (by assumption) ?_
                  rotate_left
                  · (intro W hSw; go_split_ands; go_simp; try with_reducible rfl)
                  simp only [Act.put, List.setIfInBounds_toArray, List.set_cons_zero, List.set_cons_succ]
                  refine takeD (i := 11) (v := ?_) (some 138) rfl rfl (by kernel_rfl) (by kernel_rfl) (by kernel_rfl) (fun _ _ _ h => h) (Or.inl ⟨by rfl, ?_⟩) (by assumption) ?_
                  rotate_left
                  · (intro W hSw; go_split_ands; go_simp; try with_reducible rfl)
                  simp only [Act.put, List.setIfInBounds_toArray, List.set_cons_zero, List.set_cons_succ]
                  refine takeD (i := 12) (v := ?_) (some 139) rfl rfl (by kernel_rfl) (by kernel_rfl) (by kernel_rfl) (fun _ _ _ h => h) (Or.inl ⟨by rfl, ?_⟩) (by assumption) ?_
                  rotate_left
                  · (intro W hSw; go_split_ands; go_simp; try with_reducible rfl)
                  simp only [Act.put, List.setIfInBounds_toArray, List.set_cons_zero, List.set_cons_succ]
                  refine takeD (i := 13) (v := ?_) (some 21) rfl rfl (by kernel_rfl) (by kernel_rfl) (by kernel_rfl) (fun _ _ _ h => h) (Or.inl ⟨by rfl, ?_⟩) (by assumption) ?_
                  rotate_left
                  · (intro W hSw; go_split_ands; go_simp; try with_reducible rfl)
                  simp only [Act.put, List.setIfInBounds_toArray, List.set_cons_zero, List.set_cons_succ]
                  refine takeD (i := 14) (v := ?_) (some 22) rfl rfl (by kernel_rfl) (by kernel_rfl) (by kernel_rfl) (fun _ _ _ h => h) (Or.inl ⟨by rfl, ?_⟩) (by assumption) ?_
                  rotate_left
                  · (intro W hSw; go_split_ands; go_simp; try with_reducible rfl)
                  simp only [Act.put, List.setIfInBounds_toArray, List.set_cons_zero, List.set_cons_succ]
                  refine wpAnyH_done (by kernel_rfl) ?_ _
                  go_wp2_with fail
                  go_meet
                  exact ⟨0, rfl, .inr ⟨by first | rfl | trivial, by first | rfl | trivial⟩, B9'⟩
                · refine (room_good N1 S1 T1 A1 n1 c1 l1 _ n1 _ X A8 (p + 1) c8 _ _ (HAA.out _ B8) HCK.out (HXX.out _ B8) HFL.out h8 (by omega) (HS.out.iff.1 rfl)).mono ?_
                  rintro e w9 ⟨r9, rfl, -, B9⟩
                  have B9' : Below wc.heap.size wc w9 := below_step B8 B9
                  refine hK.out _ _ (hops_keep HK.out B9') (fun _ => ?_)
                  clear hK K
                  try simp only [Act.put, List.setIfInBounds_toArray, List.set_cons_zero, List.set_cons_succ]
                  refine takeD (i := 10) (v := ?_) (some 127) rfl rfl (by kernel_rfl) (by kernel_rfl) (by kernel_rfl) (fun _ _ _ h => h) (Or.inl ⟨by rfl, ?_⟩) (by assumption) ?_
                  rotate_left
                  · (intro W hSw; go_split_ands; go_simp; try with_reducible rfl)
                  simp only [Act.put, List.setIfInBounds_toArray, List.set_cons_zero, List.set_cons_succ]
                  refine takeD (i := 11) (v := ?_) (some 138) rfl rfl (by kernel_rfl) (by kernel_rfl) (by kernel_rfl) (fun _ _ _ h => h) (Or.inl ⟨by rfl, ?_⟩) (by assumption) ?_
                  rotate_left
                  · (intro W hSw; go_split_ands; go_simp; try with_reducible rfl)
                  simp only [Act.put, List.setIfInBounds_toArray, List.set_cons_zero, List.set_cons_succ]
                  refine takeD (i := 12) (v := ?_) (some 139) rfl rfl (by kernel_rfl) (by kernel_rfl) (by kernel_rfl) (fun _ _ _ h => h) (Or.inl ⟨by rfl, ?_⟩) (by assumption) ?_
                  rotate_left
                  · (intro W hSw; go_split_ands; go_simp; try with_reducible rfl)
                  simp only [Act.put, List.setIfInBounds_toArray, List.set_cons_zero, List.set_cons_succ]
                  refine takeD (i := 13) (v := ?_) (some 21) rfl rfl (by kernel_rfl) (by kernel_rfl) (by kernel_rfl) (fun _ _ _ h => h) (Or.inl ⟨by rfl, ?_⟩) (by assumption) ?_
                  rotate_left
                  · (intro W hSw; go_split_ands; go_simp; try with_reducible rfl)
                  simp only [Act.put, List.setIfInBounds_toArray, List.set_cons_zero, List.set_cons_succ]
                  refine takeD (i := 14) (v := ?_) (some 22) rfl rfl (by kernel_rfl) (by kernel_rfl) (by kernel_rfl) (fun _ _ _ h => h) (Or.inl ⟨by rfl, ?_⟩) (by assumption) ?_
                  rotate_left
                  · (intro W hSw; go_split_ands; go_simp; try with_reducible rfl)
                  simp only [Act.put, List.setIfInBounds_toArray, List.set_cons_zero, List.set_cons_succ]
                  refine wpAnyH_done (by kernel_rfl) ?_ _
                  go_wp2_with fail
                  go_meet
                  exact ⟨r9, rfl, .inl ⟨by first | rfl | trivial, by first | rfl | trivial⟩, B9'⟩
            case rest =>
              obtain ⟨r, rfl, hs22, B10⟩ := hcut
              have K10 := K9.below B10 K9.lt
              have a10 := a9.on B10
              have X10 := X9.below B10 X9.lt
              have Bw10 := below_step Bw9 B10
              have Bt10 := below_step Bt9 B10
              clear r0 r1 r2 r3 hz9 K9 a9 X9 H9 Bw9 Bt9 B10
              obtain ⟨r0, r1, r2, r3⟩ := K10.at4
              have hz10 := K10.lt
              rcases hs22 with ⟨rfl, rfl⟩ | ⟨rfl, rfl⟩
              all_goals
                by_cases hn0 : n1 = 0
                · have hn0' : ((n1 : Int) == 0) = true := by simp; omega
                  have HN0 := Lib.hid hn0; clear hn0
                  go_wp2_with fail
                  refine (awake3_any _).mono ?_
                  rintro e w11 ⟨rfl, B11⟩
                  go_wp2_with fail
                  go_ret
                  exact ⟨rfl, below_step Bw10 B11⟩
                · have hn0' : ((n1 : Int) == 0) = false := by simp; omega
                  obtain ⟨b, off, a, rfl, hbl, hla, z0, z1, z2⟩ := arcs_at a10 (k := 0) (by omega)
                  simp only [Nat.zero_mul, Nat.add_zero] at z0 z1 z2
                  have hca := HMEM.out a (mem_at hla)
                  have hbad := flow_spoilt hla (by omega : X.length = l1.length)
                  have HBAD := Lib.hid hbad; clear hbad hla
                  obtain ⟨x0, hx0⟩ : ∃ y, X[0]? = some y := ⟨_, List.getElem?_eq_getElem (by omega)⟩
                  have c0 := X10.iat hx0
                  have f0 := X10.frozen 0
                  have hin : (0 : Int) < (n1 : Int) := by omega
                  have hgw : w.heap.size ≠ gX := by omega
                  have hwr1 : IntKind.i64.wrap (a.cap + 1) = a.cap + 1 := wrap_id (by omega) (by omega)
                  clear hx0
                  go_upto_region 20 with fail
                  have K11 := K10.far (p := ⟨gX, 0, none⟩) hgw (.int .i64 (a.cap + 1))
                  have X11 := X10.iset 0 (a.cap + 1)
                  have Bt11 := Bt10.setCell (p := ⟨gX, 0, none⟩) hgX (.int .i64 (a.cap + 1))
                  have Bw11 := Bw10.setCell (p := ⟨gX, 0, none⟩) (by simp only; omega) (.int .i64 (a.cap + 1))
                  generalize wc.setCell ⟨gX, 0, none⟩ (.int .i64 (a.cap + 1)) = w11 at *
                  clear K10 X10 Bt10 Bw10 a10 c0 f0 z0 z1 z2 r0 r1 r2 r3 hz10
                  have a11 := HA2.out.on Bt11
                  have hXs : (X.set 0 (a.cap + 1)).length = n1 := by simp [hXl]
                  obtain ⟨r0, r1, r2, r3⟩ := K11.at4
                  have hz11 := K11.lt
                  go_wp2_with fail
                  refine (room_flow N1 S1 T1 _ n1 c1 l1 _ n1 _ (X.set 0 (a.cap + 1)) _ _ a11 HCK.out (X11.ints hXs) (by omega) HBAD.out).mono ?_
                  rintro e w12 ⟨rfl, B12⟩
                  have K12 := K11.below B12 K11.lt
                  have a12 := a11.on B12
                  have X12 := X11.below B12 X11.lt
                  have Bw12 := below_step Bw11 B12
                  clear r0 r1 r2 r3 hz11 K11 a11 X11 Bw11 B12 Bt11
                  obtain ⟨r0, r1, r2, r3⟩ := K12.at4
                  have hz12 := K12.lt
                  go_wp2_with fail
                  refine (send_flow N1 S1 T1 _ n1 c1 l1 _ n1 _ (X.set 0 (a.cap + 1)) _ 0 _ a12 HCK.out (X12.ints hXs) (by omega) HBAD.out).mono ?_
                  rintro e w13 ⟨rfl, B13⟩
                  have K13 := K12.below B13 K12.lt
                  have a13 := a12.on B13
                  have X13 := X12.below B13 X12.lt
                  have Bw13 := below_step Bw12 B13
                  clear r0 r1 r2 r3 hz12 K12 a12 X12 Bw12 B13
                  obtain ⟨r0, r1, r2, r3⟩ := K13.at4
                  have hz13 := K13.lt
                  go_wp2_with fail
                  refine (pre_any N1 S1 T1 _ n1 c1 l1 _ n1 _ (X.set 0 (a.cap + 1)) false _ a13 HCK.out (X13.ints hXs) (by omega) (by simp only [Bool.false_eq_true, false_iff]; exact fun h => HBAD.out h.1)).mono ?_
                  rintro e w14 ⟨rfl, B14⟩
                  have Bw14 := below_step Bw13 B14
                  go_wp2_with fail
                  refine (awake3_any _).mono ?_
                  rintro e w15 ⟨rfl, B15⟩
                  go_wp2_with fail
                  go_ret
                  exact ⟨rfl, below_step Bw14 B15⟩
        · obtain ⟨i, rfl⟩ := Int.eq_ofNat_of_zero_le (show 0 ≤ z by omega)
          obtain rfl : j = i + 1 := by omega
          clear hz
          obtain ⟨bh, oh, ⟨har, hbk⟩, rfl, hbh, hh, d0, d1⟩ := hops_at H4 (k := i) (by omega)
          have hbw : bh < wr.heap.size := by omega
          have har' := HW.out.arcs _ (mem_at hh)
          simp only at d0 d1 har'
          have hst := back_step hh
          have HST := Lib.hid hst; clear hst hh
          have hip : (i : Int) < (p : Int) := by omega
          have hsrc := hop_src' wr ⟨har, !hbk⟩
          have HSRC := Lib.hid hsrc; clear hsrc
          have HO2 : Hid (((wr.alloc (.cells #[.int .i64 har, .bool (!hbk)] 43)).drew).ownsRow wc.heap.size 43 2 (.slice AB nB cB) nB ((H ++ backWay (H.drop (i + 1))).flatMap hopCells)) := Lib.hid (HO.out.alloc _)
          have hbA : Below wc.heap.size wc ((wr.alloc (.cells #[.int .i64 har, .bool (!hbk)] 43)).drew) := (hb.alloc hzB _).drew
          have HD0 := Lib.hid d0; have HD1 := Lib.hid d1
          go_wp2_with fail
          go_region_held3 (fun W => Below wc.heap.size wc W ∧ W.cell? ⟨bh, oh + i * 2, none⟩ = some (.int .i64 har) ∧ W.cell? ⟨bh, oh + i * 2 + 1, none⟩ = some (.bool hbk))
            (first
              | exact hop_keep (x := ⟨har, hbk⟩) hbh HD0.out HD1.out hb.drew
              | exact hop_keep (x := ⟨har, hbk⟩) hbh HD0.out HD1.out hbA
              | exact hop_keep (x := ⟨har, hbk⟩) hbh HD0.out HD1.out (below_grown hbA (by assumption) HO2.out (Nat.le_refl _) (by simp; omega)))
            (first
              | (refine step_append_lies _ rfl (.tmp 57) (.tmp 70) _ rfl wc.heap.size 43 i0 _ 2 16 Try.underlying37 HI.out HZ0.out HZ1.out HZ2.out rfl (by omega) (.slice AB nB cB) nB _ rfl HO2.out ⟨wr.heap.size, 0, none⟩ 1 1 ([(⟨har, !hbk⟩ : HopN)].flatMap hopCells) rfl rfl HSRC.out hop_one (by omega) (by unfold maxLen; omega) (by omega) (by simp; omega) _ rfl ?_; intro g6 c6 w6 ho6 hg6 hat6 hlt6))
          go_split_ands
          have B6 := below_grown hbA hg6 HO2.out (Nat.le_refl _) (by simp; omega)
          have HO6 := Lib.hid ho6; clear ho6
          go_wp2_with fail
          go_roundw
          case rel =>
            refine ⟨i, nB + 1, some ⟨g6, 0, none⟩, c6, (i : Int) - 1, by omega, by omega, by omega, by go_num, rfl, ?_, B6⟩
            rw [HST.out, ← List.append_assoc, List.flatMap_append]
            exact HO6.out
          case measure => simp [intOf]

end Go.Proofs.Ytmmafibeciaghaa
