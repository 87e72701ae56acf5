/- The statements' own helpers: hops. -/
import Derived.Test.YtmmafibeciaghaaWaya
import Derived.Deep.DeepCutAuto
import Derived.Deep.CutBlock
import Derived.OwnWalk
namespace Go.Proofs.Ytmmafibeciaghaa
open Go.RowKit

def byteCells (x : Int) : List Value := [.int .u8 x]
abbrev Bytes := RdBy byteCells 1
theorem bytes_at {w : World} {B n : Nat} {A : Option Addr} {l : List Int} (h : Bytes w B A n l) {k : Nat} (hk : k < n) :
    ∃ (b off : Nat) (x : Int), A = some ⟨b, off, none⟩ ∧ b < B ∧ l[k]? = some x ∧ w.cell? ⟨b, off + k, none⟩ = some (.int .u8 x) := by
  obtain ⟨a, ha⟩ := h.get hk
  obtain ⟨b, off, e, hb, hc⟩ := h.2 (by omega)
  exact ⟨b, off, a, e, hb, ha, by simpa using hc k a ha 0 _ rfl⟩
/-- A shorter slice of the same. -/
theorem RdBy.short {α : Type} {f : α → List Value} {size : Nat} {w : World} {B n m : Nat} {A : Option Addr} {l : List α} (h : RdBy f size w B A n l) (hm : m ≤ n) : RdBy f size w B A m (l.take m) :=
  ⟨by rw [List.length_take, h.1]; omega, fun h0 => by
    obtain ⟨b, off, e, hb, hc⟩ := h.2 (by omega)
    refine ⟨b, off, e, hb, fun k a ha j u hu => hc k a ?_ j u hu⟩
    have hk : k < m := by have := (List.getElem?_eq_some_iff.1 ha).1; rw [List.length_take] at this; omega
    rwa [List.getElem?_take_of_lt hk] at ha⟩
theorem own_below {w w' : World} {base n c B : Nat} {e : TypeId} {size : Nat} {A : Option Addr} {xs : List Value} (h : w.ownsRow base e size (.slice A n c) n xs) (hb : Below B w w') (hB : w.heap.size ≤ B) : w'.ownsRow base e size (.slice A n c) n xs := by
  refine ⟨h.1, h.2.imp id ?_⟩
  rintro ⟨g, cap, cur, hv, h1, hh, r⟩
  have hlt := (Array.getElem?_eq_some_iff.1 hh).1
  exact ⟨g, cap, cur, hv, h1, (hb.block g (by omega)).trans hh, r⟩

theorem hop_src (W : World) (h : HopN) : ∀ q z, ([h].flatMap hopCells)[q]? = some z → (W.alloc (.cells (hopCells h).toArray 43)).cell? ((⟨W.heap.size, 0, none⟩ : Addr).add q) = some z := fun q z hz => by
  rw [addr_add, Nat.zero_add]
  exact ((Blk.new rfl : Blk (W.alloc _) W.heap.size 43 (hopCells h).toArray).cell q).trans (by simpa using hz)

theorem addr_zero (a : Addr) : a.add 0 = a := by
  obtain ⟨b, o, s⟩ := a
  cases s <;> simp [Addr.add]
/-- The first q of a slice. -/
theorem bytes_slice (A : Option Addr) (n c q : Nat) (hq : q ≤ c) (W : World) : (Instr.sliceAt 35 (.slice A n c) none (some (.int .i64 (q : Int))) none).run Try.prog W = .ok (.slice A q c) W := by
  have ht : Try.prog.underlying 35 = some (.slice (Try.prog.elem 35)) := by kernel_rfl
  have hs : ∃ s, ∀ W, (sizeOf (Try.prog.elem 35)).run Try.prog W = .ok s W := ⟨1, fun W => by kernel_rfl⟩
  obtain ⟨s, hs⟩ := hs
  rw [run_sliceAt_slice _ _ _ _ _ _ ht, run_slice_h _ _ _ _ _ ht _ _ (by omega) (by omega), hs]
  simp [Result.andThen, sliced, addr_zero]

/-- A way in new memory is answered, and where it ends. -/
def RetHops (l : List ArcN) (v : Int) (m : Nat) (w : World) (e : Ending) (w' : World) : Prop :=
  ∃ (A : Option Addr) (n c : Nat) (H : List HopN) (x : Int), e = .returned (.tuple #[.slice A n c, .int .i64 x]) ∧ w'.ownsRow w.heap.size 43 2 (.slice A n c) n (H.flatMap hopCells) ∧ H.length = n ∧ n ≤ m ∧ Way l v H x ∧ Below w.heap.size w w'

set_option maxHeartbeats 4000000 in
theorem hops_any (N S T : Int) (A : Option Addr) (n c : Nat) (l : List ArcN) (v : Int) (AU : Option Addr) (m cU : Nat) (U : List Int) (w : World) (hA : Arcs w w.heap.size A n l) (hn : n ≤ 1000000) (hU : Bytes w w.heap.size AU m U) (hm : m ≤ 1000000) (hUR : ∀ x ∈ U, 0 ≤ x ∧ x ≤ 255) :
    Calls Try.prog 16 #[.agg #[.int .i64 N, .int .i64 S, .int .i64 T, .slice A n c], .int .i64 v, .slice AU m cU] w (RetHops l v m w) := by
  have hln := hA.len
  obtain ⟨i0, hi, hz0, hz1, hz2⟩ := info_parts hop_info
  have HI := Lib.hid hi; have HZ0 := Lib.hid hz0; have HZ1 := Lib.hid hz1; have HZ2 := Lib.hid hz2
  clear hi hz0 hz1 hz2
  go_enter Try.func16, Try.ntmps16
  go_wp2_with fail
  go_loopw [1, 8, 10, 11, 12, 13, 14, 17] (fun s1 s8 _ _ _ _ _ i wr => ∃ (k : Nat) (u : Int) (AO : Option Addr) (nO cO : Nat) (HO : List HopN), k ≤ m ∧ i = .int .i64 k ∧ s1 = .int .i64 u ∧ s8 = .slice AO nO cO ∧ wr.ownsRow (w.heap.size + 1) 43 2 (.slice AO nO cO) nO (HO.flatMap hopCells) ∧ HO.length = nO ∧ nO ≤ k ∧ Way l v HO u ∧
      Below (w.heap.size + 1) (w.alloc (.cells #[.int .i64 N, .int .i64 S, .int .i64 T, .slice A n c] 24)) wr) (fun _ _ _ _ _ _ _ i _ => m - (intOf i).toNat)
  case atStart => exact ⟨0, v, none, 0, 0, [], Nat.zero_le _, rfl, rfl, rfl, by simpa using World.ownsRow_nil _ _ _ _, rfl, Nat.le_refl _, rfl, Below.refl _ _⟩
  case round =>
    obtain ⟨k, u, AO, nO, cO, HO, hk, rfl, rfl, rfl, ho, hlo, hno, hw, hb⟩ := hrel
    have HOW := Lib.hid ho; have HWAY := Lib.hid hw; clear ho hw
    have hb0 : Below w.heap.size w wr := (below_alloc _).trans (hb.mono (Nat.le_succ _))
    have Kr : Blk wr w.heap.size 24 #[.int .i64 N, .int .i64 S, .int .i64 T, .slice A n c] := (Blk.new rfl).below hb (by omega)
    have hzr := Kr.lt
    by_cases hlt : k < m
    · obtain ⟨bu, ou, x, rfl, hbu, hx, d0⟩ := bytes_at (hU.below hb0) hlt
      have hxr := hUR x (mem_at hx)
      obtain ⟨xn, rfl⟩ := Int.eq_ofNat_of_zero_le hxr.1
      clear hx
      obtain ⟨r0, r1, r2, r3⟩ := Kr.at4
      go_wp2_with fail
      have ar := (hA.below hb0).more hb0.size
      obtain ⟨W0, hW0⟩ : ∃ W0, W0 = wr := ⟨_, rfl⟩
      subst hW0
      go_loopw [11, 12, 13, 24] (fun s11 _ _ i wr => ∃ (j : Nat) (AM : Option Addr) (nM cM : Nat) (HM : List HopN), j ≤ n ∧ i = .int .i64 j ∧ s11 = .slice AM nM cM ∧ wr.ownsRow W0.heap.size 43 2 (.slice AM nM cM) nM (HM.flatMap hopCells) ∧ HM.length = nM ∧ nM ≤ 2 * j ∧ (∀ h ∈ HM, ∃ y, HopAt l h u y) ∧ Below W0.heap.size W0 wr) (fun _ _ _ i _ => n - (intOf i).toNat)
      case atStart => exact ⟨0, none, 0, 0, [], Nat.zero_le _, rfl, rfl, by simpa using World.ownsRow_nil _ _ _ _, rfl, Nat.le_refl _, by simp, Below.refl _ _⟩
      case round =>
        obtain ⟨j, AM, nM, cM, HM, hj, rfl, rfl, hom, hlm, hnm, hall, hbm⟩ := hrel
        have HOM := Lib.hid hom; have HALL := Lib.hid hall; clear hom hall
        have hzm := hbm.size
        by_cases hlt2 : j < n
        · obtain ⟨b, off, a, rfl, hbl, hla, c0, c1, c2⟩ := arcs_at (ar.below hbm) hlt2
          have HL := Lib.hid hla; clear hla
          have hop1 : a.frm = u → HopAt l ⟨(j : Int), false⟩ u a.to := fun e => ⟨by simp only; omega, a, by simpa using HL.out, e, rfl⟩
          have hop2 : a.to = u → HopAt l ⟨(j : Int), true⟩ u a.frm := fun e => ⟨by simp only; omega, a, by simpa using HL.out, e, rfl⟩
          have HOP1 := Lib.hid hop1; have HOP2 := Lib.hid hop2; clear hop1 hop2
          have hbl2 : b < wr.heap.size := by omega
          have hE : Blk (wr.alloc (.cells #[.int .i64 a.frm, .int .i64 a.to, .int .i64 a.cap] 50)) wr.heap.size 50 #[.int .i64 a.frm, .int .i64 a.to, .int .i64 a.cap] := Blk.new rfl
          have HE := Lib.hid hE
          clear hE
          go_upto_if 32 with fail
          go_cut [11] (fun s11 wx => ∃ (AM1 : Option Addr) (nM1 cM1 : Nat) (HM1 : List HopN), s11 = .slice AM1 nM1 cM1 ∧ wx.ownsRow W0.heap.size 43 2 (.slice AM1 nM1 cM1) nM1 (HM1.flatMap hopCells) ∧ HM1.length = nM1 ∧ nM1 ≤ 2 * j + 1 ∧ (∀ h ∈ HM1, ∃ y, HopAt l h u y) ∧ Below W0.heap.size W0 wx ∧ Blk wx wr.heap.size 50 #[.int .i64 a.frm, .int .i64 a.to, .int .i64 a.cap])
          case first =>
            cases h1 : (a.frm == u)
            · go_wp2_with fail
              go_meet
              exact ⟨AM, nM, cM, HM, rfl, HOM.out.alloc _, hlm, by omega, HALL.out, hbm.alloc hzm _, HE.out⟩
            · have hau : a.frm = u := by simpa using h1
              have HAU := Lib.hid hau; clear hau
              have hsrc := hop_src (wr.alloc (.cells #[.int .i64 a.frm, .int .i64 a.to, .int .i64 a.cap] 50)) ⟨(j : Int), false⟩
              have HSRC := Lib.hid hsrc; clear hsrc
              go_wp2_with (at_builtin; refine wpList_append_row _ rfl (.tmp 33) (.tmp 36) _ rfl W0.heap.size 43 i0 _ 2 16 Try.underlying37 HI.out HZ0.out HZ1.out HZ2.out rfl (by omega) AM nM cM _ rfl ((HOM.out.alloc _).alloc _) (some ⟨(wr.alloc (.cells #[.int .i64 a.frm, .int .i64 a.to, .int .i64 a.cap] 50)).heap.size, 0, none⟩) 1 1 ([(⟨(j : Int), false⟩ : HopN)].flatMap hopCells) (by simp [go_sem]) rfl ?_ hop_one ?_ ?_ ?_ ?_)
              · exact fun _ => ⟨_, rfl, HSRC.out⟩
              · unfold maxLen; omega
              · omega
              · simp; omega
              · intro A6 c6 w6 HO6 hg6 HX6
                have B6 := below_grown ((hbm.alloc hzm (.cells #[.int .i64 a.frm, .int .i64 a.to, .int .i64 a.cap] 50)).alloc (by simp; omega) _) hg6 ((HOM.out.alloc _).alloc _) (Nat.le_refl _) (by simp; omega)
                have E6 := (HE.out.alloc _).grownO hg6 ((HOM.out.alloc _).alloc _) (by decide)
                go_wp2_with fail
                go_meet
                refine ⟨A6, nM + 1, c6, HM ++ [⟨(j : Int), false⟩], rfl, ?_, by simp [hlm], by omega, fun h hh => ?_, B6, E6⟩
                · rw [List.flatMap_append]
                  simpa using HO6.out
                · rcases List.mem_append.1 hh with hh | hh
                  · exact HALL.out h hh
                  · simp only [List.mem_cons, List.not_mem_nil, or_false] at hh
                    subst hh
                    exact ⟨_, HOP1.out HAU.out⟩
          case rest =>
            obtain ⟨AM1, nM1, cM1, HM1, rfl, ho1, hl1, hn1, hall1, hb1, E1⟩ := hcut
            have HO1 := Lib.hid ho1; have HALL1 := Lib.hid hall1; clear ho1 hall1
            have e0 := E1.cell 0; have e1 := E1.cell 1; have e2 := E1.cell 2
            simp only [List.getElem?_toArray, List.getElem?_cons_zero, List.getElem?_cons_succ] at e0 e1 e2
            have hz1 := hb1.size
            have hE1 := E1.lt
            cases h2 : (a.to == u)
            · go_wp2_with fail
              go_roundw
              case rel => exact ⟨j + 1, AM1, nM1, cM1, HM1, by omega, by go_num, rfl, HO1.out, hl1, by omega, HALL1.out, hb1⟩
              case measure => simp [intOf]; omega
            · have hau : a.to = u := by simpa using h2
              have HAU := Lib.hid hau; clear hau
              have hsrc := hop_src wc ⟨(j : Int), true⟩
              have HSRC := Lib.hid hsrc; clear hsrc
              go_wp2_with (at_builtin; refine wpList_append_row _ rfl (.tmp 42) (.tmp 45) _ rfl W0.heap.size 43 i0 _ 2 16 Try.underlying37 HI.out HZ0.out HZ1.out HZ2.out rfl (by omega) AM1 nM1 cM1 _ rfl (HO1.out.alloc _) (some ⟨wc.heap.size, 0, none⟩) 1 1 ([(⟨(j : Int), true⟩ : HopN)].flatMap hopCells) rfl rfl ?_ hop_one ?_ ?_ ?_ ?_)
              · exact fun _ => ⟨_, rfl, HSRC.out⟩
              · unfold maxLen; omega
              · omega
              · simp; omega
              · intro A6 c6 w6 HO6 hg6 HX6
                have B6 := below_grown (hb1.alloc hz1 _) hg6 (HO1.out.alloc _) (Nat.le_refl _) (by simp; omega)
                go_wp2_with fail
                go_roundw
                case rel =>
                  refine ⟨j + 1, A6, nM1 + 1, c6, HM1 ++ [⟨(j : Int), true⟩], by omega, by go_num, rfl, ?_, by simp [hl1], by omega, fun h hh => ?_, B6⟩
                  · rw [List.flatMap_append]
                    simpa using HO6.out
                  · rcases List.mem_append.1 hh with hh | hh
                    · exact HALL1.out h hh
                    · simp only [List.mem_cons, List.not_mem_nil, or_false] at hh
                      subst hh
                      exact ⟨_, HOP2.out HAU.out⟩
                case measure => simp [intOf]; omega
        · have Km := Kr.below hbm Kr.lt
          have am := ar.on hbm
          have HOW2 := Lib.hid (own_below HOW.out hbm (Nat.le_refl _))
          obtain ⟨q0, q1, q2, q3⟩ := Km.at4
          have hzm2 := Km.lt
          have hlow : Below (w.heap.size + 1) (w.alloc (.cells #[.int .i64 N, .int .i64 S, .int .i64 T, .slice A n c] 24)) wr := hb.trans (hbm.mono (by have := Kr.lt; omega))
          have hlow0 : Below w.heap.size w wr := hb0.trans (hbm.mono hb0.size)
          by_cases hnz : nM = 0
          · subst hnz
            go_wp2_with fail
            go_ret2
            exact ⟨AO, nO, cO, HO, u, rfl, own_less HOW2.out (Nat.le_succ _), hlo, by omega, HWAY.out, hlow0⟩
          · have hnz' : ((nM : Int) == 0) = false := by simpa using hnz
            have hnz2 : ¬ (nM : Int) = 0 := by omega
            obtain ⟨q, hq⟩ : ∃ q, xn % nM = q := ⟨_, rfl⟩
            have hqM : q < nM := by rw [← hq]; exact Nat.mod_lt _ (by omega)
            have ek : (xn : Int).tmod (nM : Int) = (q : Int) := by rw [Int.tmod_eq_emod_of_nonneg (by omega), ← hq]; omega
            obtain ⟨gm, rfl, hgm1, hgm2⟩ := own_form HOM.out (by omega)
            have hms := hops_own HOM.out hlm
            obtain ⟨bm, om, ⟨ha, hbk⟩, hAM, hbm', hhm, d1, d2⟩ := hops_at hms hqM
            injection hAM with hAM
            injection hAM with hAM1 hAM2 _
            subst hAM1; subst hAM2
            obtain ⟨y, hy⟩ := HALL.out _ (mem_at hhm)
            obtain ⟨hy0, a, hay, hye1, hye2⟩ := hy
            have hyl := HopAt.lt ⟨hy0, a, hay, hye1, hye2⟩
            simp only at hy0 hay hye1 hye2 d1 d2 hyl
            obtain ⟨i, rfl⟩ := Int.eq_ofNat_of_zero_le hy0
            have hhop : HopAt l ⟨(i : Int), hbk⟩ u (hEnd a hbk) := ⟨by simp only; omega, a, hay, hye1, rfl⟩
            have HHOP := Lib.hid hhop
            obtain ⟨b, off, a', rfl, hbl, -, -, -, -⟩ := arcs_at (hA.below hlow0) (k := i) (by omega)
            have HLA : Hid (l[i]? = some a) := Lib.hid (by simpa using hay)
            clear a' hhm hay hye1 hye2 hms hhop hq
            have hin : (i : Int) < (n : Int) := by omega
            have hbw : b < wr.heap.size := by omega
            have hsrc := hop_src (wr.alloc (.cells #[.int .i64 (i : Int), .bool hbk] 43)) ⟨(i : Int), hbk⟩
            have HSRC := Lib.hid hsrc; clear hsrc
            simp only [Nat.zero_add] at d1 d2
            have E0 : Blk (wr.alloc (.cells #[.int .i64 (i : Int), .bool hbk] 43)) wr.heap.size 43 #[.int .i64 (i : Int), .bool hbk] := Blk.new rfl
            have hoz := HOW2.out
            go_wp2_with (at_builtin; refine wpList_append_row _ rfl (.tmp 59) (.tmp 61) _ rfl (w.heap.size + 1) 43 i0 _ 2 16 Try.underlying37 HI.out HZ0.out HZ1.out HZ2.out rfl (by omega) AO nO cO _ rfl ((HOW2.out.alloc _).alloc _) (some ⟨(wr.alloc (.cells #[.int .i64 (i : Int), .bool hbk] 43)).heap.size, 0, none⟩) 1 1 ([(⟨(i : Int), hbk⟩ : HopN)].flatMap hopCells) (by simp [go_sem]) rfl ?_ hop_one ?_ ?_ ?_ ?_)
            · first
                | exact fun _ => ⟨_, rfl, HSRC.out⟩
                | (intro q z hz; simpa [hopCells] using hz)
            · unfold maxLen; omega
            · omega
            · first
                | omega
                | (simp; omega)
            · intro A6 c6 w6 HO6 hg6 HX6
              have E6 := (E0.alloc (.cells #[.int .i64 (i : Int), .bool hbk] 43)).grownUp hg6 HOW2.out (Nat.le_refl _)
              have K6 := ((Km.alloc (.cells #[.int .i64 (i : Int), .bool hbk] 43)).alloc _).grownO hg6 ((HOW2.out.alloc _).alloc _) (by decide)
              have B6 := below_grown ((hlow.alloc (by first | omega | (simp; omega)) (.cells #[.int .i64 (i : Int), .bool hbk] 43)).alloc (by first | omega | (simp; omega)) _) hg6 ((HOW2.out.alloc _).alloc _) (Nat.le_refl _) (by simp; omega)
              have B60 : Below w.heap.size w w6 := (below_alloc _).trans (B6.mono (Nat.le_succ _))
              obtain ⟨_, _, a', hA2, _, hla, c0, c1, c2⟩ := arcs_at (hA.below B60) (k := i) (by omega)
              injection hA2 with hA2
              injection hA2 with hA2 hA3 _
              subst hA2; subst hA3
              have HO7 : Hid (w6.ownsRow (w.heap.size + 1) 43 2 (.slice A6 (nO + 1) c6) (nO + 1) ((HO ++ [(⟨(i : Int), hbk⟩ : HopN)]).flatMap hopCells)) := by
                refine Lib.hid ?_
                rw [List.flatMap_append]
                simpa using HO6.out
              have hbw6 : b < w6.heap.size := by have := B60.size; omega
              have e0 := E6.cell 0; have e1 := E6.cell 1
              simp only [List.getElem?_toArray, List.getElem?_cons_zero, List.getElem?_cons_succ] at e0 e1
              obtain ⟨k0, k1, k2, k3⟩ := K6.at4
              have hz6 := K6.lt
              have hE6 := E6.lt
              obtain rfl : a' = a := by have := hla.symm.trans HLA.out; injection this
              clear hla q0 q1 q2 q3 d1 d2
              cases hbk
              · go_wp2_with fail
                go_roundw
                case rel => exact ⟨k + 1, a'.to, A6, nO + 1, c6, HO ++ [⟨(i : Int), false⟩], by omega, by go_num, rfl, rfl, HO7.out, by simp [hlo], by omega, HWAY.out.snoc HHOP.out, B6⟩
                case measure => simp [intOf]; omega
              · go_wp2_with fail
                go_roundw
                case rel => exact ⟨k + 1, a'.frm, A6, nO + 1, c6, HO ++ [⟨(i : Int), true⟩], by omega, by go_num, rfl, rfl, HO7.out, by simp [hlo], by omega, HWAY.out.snoc HHOP.out, B6⟩
                case measure => simp [intOf]; omega
    · go_wp2_with fail
      go_ret2
      exact ⟨AO, nO, cO, HO, u, rfl, own_less HOW.out (Nat.le_succ _), hlo, by omega, HWAY.out, hb0⟩

end Go.Proofs.Ytmmafibeciaghaa
