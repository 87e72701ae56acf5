/- Layer 9: begun: a net's residual network, and its state with all of S's arcs full. -/
import Derived.Test.YtanifbofjecpmaaRbp
import Derived.Test.YtanifbofjecpmaaRlr
import Derived.Test.YtanifbofjecpmaaLefto
import Derived.Test.YtanifbofjecpmaaFlows
namespace Go.Proofs.Ytanifbofjecpmaa
open Go.RowKit Go.Shelf
set_option maxRecDepth 100000

theorem Held.sel {w : World} {base : Nat} {rs rs' : List Rw} (h : Held w base rs) (σ : Nat → Nat) (hinj : ∀ i j, i < rs'.length → j < rs'.length → σ i = σ j → i = j) (hr : ∀ i, i < rs'.length → rs'[i]? = rs[σ i]?) : Held w base rs' := by
  refine ⟨fun i r hi => ?_, fun i j r s hij hi hj => ?_⟩
  · have hl := (List.getElem?_eq_some_iff.1 hi).1
    exact h.own (σ i) r (by rw [← hr i hl]; exact hi)
  · have h1 := (List.getElem?_eq_some_iff.1 hi).1
    have h2 := (List.getElem?_eq_some_iff.1 hj).1
    exact h.ne (σ i) (σ j) r s (fun e => hij (hinj i j h1 h2 e)) (by rw [← hr i h1]; exact hi) (by rw [← hr j h2]; exact hj)
theorem make_ints (N : Nat) (hN : N ≤ 100000) (W : World) : (Instr.makeSlice 27 (.int .i64 (N : Int)) (.int .i64 (N : Int))).run Try.prog W = .ok (.slice (some ⟨W.heap.size, 0, none⟩) N N) (W.alloc (.cells (ivs (List.replicate N 0)) 3)) := by
  obtain ⟨i0, hi, hz0, hz1, hz2⟩ := info_parts int_info
  have h := run_make_lit (P := Try.prog) 27 3 i0 _ Try.underlying27 hi hz0 N (by rw [hz2]; omega) (by omega) W
  rw [hz1, ivs_made] at h
  exact h
/-- The flow's numbers, k of them laid. -/
def fillF (s : Nat) (l : List ArcN) (k : Nat) : List Int := (fullF s l).take k ++ List.replicate (l.length - k) 0
theorem fill_step {s : Nat} {l : List ArcN} {k : Nat} {a : ArcN} (ha : l[k]? = some a) : (fillF s l k).set k (fullA s a) = fillF s l (k + 1) := by
  have hk := (List.getElem?_eq_some_iff.1 ha).1
  refine List.ext_getElem? fun i => ?_
  unfold fillF
  have hl : (fullF s l).length = l.length := fullF_len
  rw [List.getElem?_set]
  have hlen : ((fullF s l).take k ++ List.replicate (l.length - k) 0).length = l.length := by simp [hl]; omega
  by_cases h1 : k = i
  · subst h1
    rw [if_pos rfl, hlen, if_pos hk, List.getElem?_append_left (by simp [hl]; omega), List.getElem?_take_of_lt (by omega), fullF_at ha]
  · rw [if_neg h1]
    by_cases h2 : i < k
    · rw [List.getElem?_append_left (by simp [hl]; omega), List.getElem?_append_left (by simp [hl]; omega), List.getElem?_take_of_lt h2, List.getElem?_take_of_lt (by omega)]
    · rw [List.getElem?_append_right (by simp [hl]; omega), List.getElem?_append_right (by simp [hl]; omega)]
      simp only [List.length_take, hl, List.getElem?_replicate, Nat.min_eq_left (Nat.le_of_lt hk), Nat.min_eq_left (show k + 1 ≤ l.length by omega)]
      by_cases h3 : i < l.length
      · rw [if_pos (by omega), if_pos (by omega)]
      · rw [if_neg (by omega), if_neg (by omega)]
theorem fill_skip {s : Nat} {l : List ArcN} {k : Nat} {a : ArcN} (ha : l[k]? = some a) (h0 : fullA s a = 0) : fillF s l (k + 1) = fillF s l k := by
  rw [← fill_step ha, h0]
  have hk := (List.getElem?_eq_some_iff.1 ha).1
  have hl : (fullF s l).length = l.length := fullF_len
  refine List.ext_getElem? fun i => ?_
  rw [List.getElem?_set]
  by_cases h1 : k = i
  · subst h1
    unfold fillF
    rw [if_pos rfl, if_pos (by simp [hl]; omega), List.getElem?_append_right (by simp [hl]; omega)]
    simp only [List.length_take, hl, List.getElem?_replicate, Nat.min_eq_left (Nat.le_of_lt hk)]
    rw [if_pos (by omega)]
  · rw [if_neg h1]
theorem fill_len {s : Nat} {l : List ArcN} {k : Nat} (hk : k ≤ l.length) : (fillF s l k).length = l.length := by
  unfold fillF; simp [fullF_len]; omega
theorem fill_end {s : Nat} {l : List ArcN} : fillF s l l.length = fullF s l := by
  unfold fillF
  rw [List.take_of_length_le (by rw [fullF_len]; exact Nat.le_refl _)]
  simp

/-- The call returned a residual network, and its first state in rows that may be written to. -/
def RetBegun (N s t : Nat) (l : List ArcN) (w : World) (e : Ending) (w' : World) : Prop :=
  ∃ (x0 : Nat) (K : CsrS) (F H R C Ai : List Int) (B : List Bool) (Q : PreS) (X : List Int), e = .returned (.tuple #[csrW N (firstOf l N) s t K, preW (firstOf l N) N N Q]) ∧ CsrL N l F H R C Ai B ∧ CsrIn w' x0 N (firstOf l N) K F H R C Ai B ∧ ResOf l (fullF s l) (firstOf l N) X ∧
    Hx w' w' x0 (pstR (firstOf l N) N N Q X (exList N l (fullF s l)) (begH N s)) ∧ w.heap.size ≤ x0 ∧ Below w.heap.size w w'

set_option maxHeartbeats 16000000 in
theorem begun_is (N s t : Nat) (A : Option Addr) (n c : Nat) (l : List ArcN) (w : World) (hA : Arcs w w.heap.size A n l) (hck : checkF N s t l = 0) (hcap : ∀ a ∈ l, a.cap ≤ 4611686018427387903) :
    Calls Try.prog 8 #[.agg #[.int .i64 (N : Int), .int .i64 (s : Int), .int .i64 (t : Int), .slice A n c]] w (RetBegun N s t l w) := by
  have hla := hA.len
  obtain ⟨h2, hN, hln, hE, hs0, hs, ht0, ht, hst, hnn, htot⟩ := ends_in hck
  have hmk := fun W (hb : Below w.heap.size w W) => rmake_good N s t A n c l W (hA.on hb) hck
  have HMK := Lib.hid hmk
  have hml := make_longs N (by omega)
  have hmn := make_longs n (by omega)
  have hmi := make_ints N (by omega)
  have HCK := Lib.hid hck; have HA := Lib.hid hA; have HE := Lib.hid hE; have HNN := Lib.hid hnn; have HTOT := Lib.hid htot; have HCAP := Lib.hid hcap
  clear hmk hA hck hE hnn htot hcap
  go_enter Try.func8, Try.ntmps8
  go_wp2_with fail
  obtain ⟨w1, hw1⟩ : ∃ w1, (((w.alloc (.cells #[.int .i64 (N : Int), .int .i64 (s : Int), .int .i64 (t : Int), .slice A n c] 24)).alloc (.cells #[.int .i64 0, .int .i64 0, .int .i64 0, .slice none 0 0, .slice none 0 0, .slice none 0 0, .slice none 0 0, .slice none 0 0, .slice none 0 0] 32)).alloc (.cells #[.slice none 0 0, .slice none 0 0, .slice none 0 0] 29)) = w1 := ⟨_, rfl⟩
  have S1 : w1.heap.size = w.heap.size + 3 := by rw [← hw1]; simp
  have B1 : Below w.heap.size w w1 := by rw [← hw1]; exact (((Below.refl _ w).alloc (Nat.le_refl _) _).alloc (by simp) _).alloc (by simp; omega) _
  have N1 : Blk w1 w.heap.size 24 #[.int .i64 (N : Int), .int .i64 (s : Int), .int .i64 (t : Int), .slice A n c] := by rw [← hw1]; exact ((Blk.new rfl).alloc _).alloc _
  have Y1 : Blk w1 (w.heap.size + 1) 32 #[.int .i64 0, .int .i64 0, .int .i64 0, .slice none 0 0, .slice none 0 0, .slice none 0 0, .slice none 0 0, .slice none 0 0, .slice none 0 0] := by rw [← hw1]; exact (Blk.new (by simp)).alloc _
  have Z1 : Blk w1 (w.heap.size + 1 + 1) 29 #[.slice none 0 0, .slice none 0 0, .slice none 0 0] := by rw [← hw1]; exact Blk.new (by simp)
  rw [hw1]
  clear hw1
  refine (HMK.out _ B1).mono ?_
  rintro e w2 ⟨⟨AF, cF, AH, cH, AR, cR, AC, cC, AA, cA, AB, cB⟩, F, H, R, C, Ai, B, rfl, hcl, I2, V2, B2⟩
  obtain ⟨M, hM⟩ : ∃ M, firstOf l N = M := ⟨_, rfl⟩
  rw [hM] at I2 ⊢
  dsimp only [csrW]
  have Bw2 := below_step B1 B2
  have N2 := N1.below B2 N1.lt; have Y2 := Y1.below B2 Y1.lt; have Z2 := Z1.below B2 Z1.lt
  have S2 := B2.size
  have HM := Lib.hid hM; have HCL := Lib.hid hcl; have HV2 := Lib.hid V2
  obtain ⟨r0, r1, r2, r3⟩ := N2.at4
  have hzn := N2.lt
  clear hM hcl V2 B1 B2 N1 Y1 Z1 HMK
  go_upto_region 4 with fail
  obtain ⟨w3, hw3⟩ : ∃ w3, w2.alloc (.cells #[.int .i64 (N : Int), .int .i64 (s : Int), .int .i64 (t : Int), .slice AF (N + 1) cF, .slice AH M cH, .slice AR M cR, .slice AC M cC, .slice AA M cA, .slice AB M cB] 32) = w3 := ⟨_, rfl⟩
  have S3 : w3.heap.size = w2.heap.size + 1 := by rw [← hw3]; simp
  have B3 : Below w.heap.size w w3 := by rw [← hw3]; exact Bw2.alloc Bw2.size _
  have C3 : Blk w3 w2.heap.size 32 #[.int .i64 (N : Int), .int .i64 (s : Int), .int .i64 (t : Int), .slice AF (N + 1) cF, .slice AH M cH, .slice AR M cR, .slice AC M cC, .slice AA M cA, .slice AB M cB] := by rw [← hw3]; exact Blk.new rfl
  have N3 : Blk w3 w.heap.size 24 #[.int .i64 (N : Int), .int .i64 (s : Int), .int .i64 (t : Int), .slice A n c] := by rw [← hw3]; exact N2.alloc _
  have Y3 : Blk w3 (w.heap.size + 1) 32 #[.int .i64 0, .int .i64 0, .int .i64 0, .slice none 0 0, .slice none 0 0, .slice none 0 0, .slice none 0 0, .slice none 0 0, .slice none 0 0] := by rw [← hw3]; exact Y2.alloc _
  have Z3 : Blk w3 (w.heap.size + 1 + 1) 29 #[.slice none 0 0, .slice none 0 0, .slice none 0 0] := by rw [← hw3]; exact Z2.alloc _
  have I3 := I2.onAlloc (.cells #[.int .i64 (N : Int), .int .i64 (s : Int), .int .i64 (t : Int), .slice AF (N + 1) cF, .slice AH M cH, .slice AR M cR, .slice AC M cC, .slice AA M cA, .slice AB M cB] 32)
  rw [hw3] at I3 ⊢
  obtain ⟨w5, hw5⟩ : ∃ w5, (w3.alloc (.cells (ivs (List.replicate n 0)) 2)).alloc (.cells (ivs (List.replicate N 0)) 2) = w5 := ⟨_, rfl⟩
  have S5 : w5.heap.size = w2.heap.size + 3 := by rw [← hw5]; simp; omega
  have B5 : Below w3.heap.size w3 w5 := by rw [← hw5]; exact (below_alloc _).alloc (by simp) _
  have F5 : Blk w5 (w2.heap.size + 1) 2 (ivs (fillF s l 0)) := by
    have h0 : fillF s l 0 = List.replicate n 0 := by unfold fillF; simp [hla]
    rw [← hw5, h0]; exact (Blk.new S3).alloc _
  have E5 : Blk w5 (w2.heap.size + 1 + 1) 2 (ivs (exList N (l.take 0) ((fullF s l).take 0))) := by
    rw [← hw5, exList_zero]; exact Blk.new (by simp; omega)
  rw [hw5]
  clear hw5 hml hmn N2 Y2 Z2 I2 Bw2 r0 r1 r2 r3
  have N5 := N3.below B5 N3.lt
  obtain ⟨r0, r1, r2, r3⟩ := N5.at4
  have hzn5 := N5.lt
  go_wp2_with fail
  go_loopw [28] (fun i wr => ∃ k : Nat, k ≤ n ∧ i = .int .i64 k ∧ Blk wr (w2.heap.size + 1) 2 (ivs (fillF s l k)) ∧ Blk wr (w2.heap.size + 1 + 1) 2 (ivs (exList N (l.take k) ((fullF s l).take k))) ∧ Below w3.heap.size w3 wr) (fun i _ => n - (intOf i).toNat)
  case atStart => exact ⟨0, Nat.zero_le _, rfl, F5, E5, B5⟩
  case round =>
    clear F5 E5 S5 B5 N5 r0 r1 r2 r3 hzn5
    obtain ⟨k, hk, rfl, FK, EK, hb⟩ := hrel
    have N6 := N3.below hb N3.lt
    obtain ⟨r0, r1, r2, r3⟩ := N6.at4
    have hz6 := N6.lt
    have hzF := FK.lt; have hzE := EK.lt
    have hwz := hb.size
    by_cases hlt : k < n
    · obtain ⟨b, off, ⟨x, y, z⟩, rfl, hbl, hla', c0, c1, c2⟩ := arcs_at ((HA.out.on B3).below hb) hlt
      have he := HE.out _ (mem_at hla')
      have hnz := HNN.out _ (mem_at hla')
      simp only at he c0 c1 c2 hnz
      obtain ⟨f, rfl⟩ := Int.eq_ofNat_of_zero_le he.1
      obtain ⟨g, rfl⟩ := Int.eq_ofNat_of_zero_le he.2.2.1
      have hfN : f < N := by omega
      have hgN : g < N := by omega
      have hbz : b < wr.heap.size := by omega
      have HLA := Lib.hid hla'
      by_cases hfs : f = s
      · by_cases hgs : g = s
        · have h0 : fullA s (⟨(f : Int), (g : Int), z⟩ : ArcN) = 0 := by unfold fullA; rw [if_neg]; rintro ⟨-, h⟩; exact h (by simp [hgs])
          have FK1 := Lib.hid ((fill_skip hla' h0).symm ▸ FK); have EK1 := Lib.hid ((ex_skip (N := N) hla' h0).symm ▸ EK)
          have hc1 : ((f : Int) == (s : Int)) = true := by simp [hfs]
          have hc2 : ((g : Int) != (s : Int)) = false := by simp [hgs]
          have HBB := Lib.hid hb
          clear hla' h0 FK EK he hb hfs hgs
          go_wp2_with fail
          go_roundw
          case rel => exact ⟨k + 1, by omega, by go_num, FK1.out.alloc _, EK1.out.alloc _, HBB.out.alloc HBB.out.size _⟩
          case measure => simp [intOf]; omega
        · have hx : fullA s (⟨(f : Int), (g : Int), z⟩ : ArcN) = z := by unfold fullA; exact if_pos ⟨by simp [hfs], fun h => hgs (by have h' : (g : Int) = (s : Int) := h; omega)⟩
          have hF1 := fill_step (s := s) hla'
          rw [hx] at hF1
          have hE1 := ex_step (N := N) (s := s) (f := f) (w := g) hla' rfl rfl (by omega) hx
          have hbd := exOf_bound ((full_in (s := s) HNN.out).take k) (f : Int)
          have hbd2 := exOf_bound ((full_in (s := s) HNN.out).take k) (g : Int)
          have htk := total_tk HNN.out (k + 1)
          have hbd3 := exOf_bound ((full_in (s := s) HNN.out).take (k + 1)) (g : Int)
          rw [exOf_take fullF_len hla' (fullF_at hla'), hx] at hbd3
          unfold dlt at hbd3
          rw [if_pos rfl, if_neg (show ¬ (f : Int) = (g : Int) by omega)] at hbd3
          have hbd4 := exOf_bound ((full_in (s := s) HNN.out).take (k + 1)) (f : Int)
          rw [exOf_take fullF_len hla' (fullF_at hla'), hx] at hbd4
          unfold dlt at hbd4
          rw [if_neg (show ¬ (g : Int) = (f : Int) by omega), if_pos rfl] at hbd4
          have hzt := total_at HNN.out hla'
          have hm0 := HTOT.out
          unfold maxSum at hm0
          simp only at hzt hnz
          have l1 : (exList N (l.take k) ((fullF s l).take k))[f]? = some (exOf (l.take k) ((fullF s l).take k) f) := exList_at _ _ hfN
          have l2 : (exList N (l.take k) ((fullF s l).take k))[g]? = some (exOf (l.take k) ((fullF s l).take k) g) := exList_at _ _ hgN
          have lF : (fillF s l k)[k]? = some 0 := by
            have := fill_len (s := s) (l := l) (k := k) (by omega)
            unfold fillF
            rw [List.getElem?_append_right (by simp [fullF_len]; omega)]
            simp only [List.length_take, fullF_len, List.getElem?_replicate, Nat.min_eq_left (show k ≤ l.length by omega)]
            rw [if_pos (by omega)]
          have mF := FK.iat lF; have nF := FK.frozen k
          have m1 := EK.iat l1; have n1 := EK.frozen f
          obtain ⟨ef, hef⟩ : ∃ ef, exOf (l.take k) ((fullF s l).take k) f = ef := ⟨_, rfl⟩
          obtain ⟨eg, heg⟩ : ∃ eg, exOf (l.take k) ((fullF s l).take k) g = eg := ⟨_, rfl⟩
          rw [hef] at hE1 hbd hbd4 l1 m1
          rw [heg] at hE1 hbd2 hbd3 l2
          have hw1 : IntKind.i64.wrap (ef - z) = ef - z := wrap_in (by omega) (by omega)
          have hw2 : IntKind.i64.wrap (eg + z) = eg + z := wrap_in (by omega) (by omega)
          have hc1 : ((f : Int) == (s : Int)) = true := by simp [hfs]
          have hc2 : ((g : Int) != (s : Int)) = true := by simpa using (show ¬ (g : Int) = (s : Int) by omega)
          have HBB := Lib.hid hb; have HF1 := Lib.hid hF1; have HE1 := Lib.hid hE1; have HFK := Lib.hid FK; have HEK := Lib.hid EK; have HL2 := Lib.hid l2
          have hfg : f ≠ g := by omega
          have HEF := Lib.hid hef; have HEG := Lib.hid heg
          have HTK := Lib.hid htk
          clear hla' hx hF1 hE1 FK EK he hb hfs hgs hef heg l1 l2 lF htk hbd hbd2 hbd3 hbd4 hzt hm0
          go_wp2_with fail
          obtain ⟨wa, hwa⟩ : ∃ wa, ((wr.setCell ⟨w2.heap.size + 1, k, none⟩ (.int .i64 z)).alloc (.cells #[.int .i64 (f : Int), .int .i64 (g : Int), .int .i64 z] 68)) = wa := ⟨_, rfl⟩
          have KA : Blk wa wr.heap.size 68 #[.int .i64 (f : Int), .int .i64 (g : Int), .int .i64 z] := by rw [← hwa]; exact Blk.new (by simp)
          have FA : Blk wa (w2.heap.size + 1) 2 (ivs (fillF s l (k + 1))) := by rw [← hwa, ← HF1.out]; exact (HFK.out.iset k z).alloc _
          have EA := HEK.out
          have EA2 : Blk wa (w2.heap.size + 1 + 1) 2 (ivs (exList N (l.take k) ((fullF s l).take k))) := by rw [← hwa]; exact (HEK.out.far (p := ⟨w2.heap.size + 1, k, none⟩) (by simp) _).alloc _
          have BA : Below w3.heap.size w3 wa := by rw [← hwa]; exact (HBB.out.setCell (by simp; omega) _).alloc (by simp; exact HBB.out.size) _
          rw [hwa]
          clear hwa mF nF m1 n1 EA c0 c1 c2 r0 r1 r2 r3
          obtain ⟨⟨k0, k1, k2⟩, -, hzk⟩ := KA.full3
          have hzA := FA.lt; have hzA2 := EA2.lt
          have m1 := EA2.iat (exList_at (l.take k) ((fullF s l).take k) hfN)
          rw [HEF.out] at m1
          have n1 := EA2.frozen f
          have HKA := Lib.hid KA; have HFA := Lib.hid FA; have HEA := Lib.hid EA2; have HBA := Lib.hid BA
          clear KA FA EA2 BA HFK HEK HBB hwz
          go_region
          obtain ⟨wb, hwb⟩ : ∃ wb, (wa.setCell ⟨w2.heap.size + 1 + 1, f, none⟩ (.int .i64 (ef - z))).drew = wb := ⟨_, rfl⟩
          have KB : Blk wb wr.heap.size 68 #[.int .i64 (f : Int), .int .i64 (g : Int), .int .i64 z] := by rw [← hwb]; exact (HKA.out.far (p := ⟨w2.heap.size + 1 + 1, f, none⟩) (by simp; omega) _).drew
          have FB : Blk wb (w2.heap.size + 1) 2 (ivs (fillF s l (k + 1))) := by rw [← hwb]; exact (HFA.out.far (p := ⟨w2.heap.size + 1 + 1, f, none⟩) (by simp) _).drew
          have EB : Blk wb (w2.heap.size + 1 + 1) 2 (ivs ((exList N (l.take k) ((fullF s l).take k)).set f (ef - z))) := by rw [← hwb]; exact (HEA.out.iset f (ef - z)).drew
          have BB : Below w3.heap.size w3 wb := by rw [← hwb]; exact (HBA.out.setCell (by simp; omega) _).drew
          rw [hwb]
          clear hwb m1 n1 k0 k1 k2 hzk hzA hzA2
          obtain ⟨⟨k0, k1, k2⟩, -, hzk⟩ := KB.full3
          have hzA := FB.lt; have hzA2 := EB.lt
          have l2 : ((exList N (l.take k) ((fullF s l).take k)).set f (ef - z))[g]? = some eg := by rw [List.getElem?_set, if_neg hfg, exList_at _ _ hgN, HEG.out]
          have m2 := EB.iat l2
          have n2 := EB.frozen g
          have HKA := Lib.hid KB; have HFA := Lib.hid FB; have HEA := Lib.hid EB; have HBA := Lib.hid BB
          clear KB FB EB BB l2
          go_wp2_with fail
          go_region
          go_wp2_with fail
          go_roundw
          case rel =>
            refine ⟨k + 1, by omega, by go_num, (HFA.out.far (p := ⟨w2.heap.size + 1 + 1, g, none⟩) (by simp) _).drew, ?_, (HBA.out.setCell (by simp; omega) _).drew⟩
            rw [← HE1.out]
            exact (HEA.out.iset g (eg + z)).drew
          case measure => simp [intOf]; omega
      · have h0 : fullA s (⟨(f : Int), (g : Int), z⟩ : ArcN) = 0 := by unfold fullA; rw [if_neg]; rintro ⟨h, -⟩; exact hfs (by have h' : (f : Int) = (s : Int) := h; omega)
        have FK1 := Lib.hid ((fill_skip hla' h0).symm ▸ FK); have EK1 := Lib.hid ((ex_skip (N := N) hla' h0).symm ▸ EK)
        have hc1 : ((f : Int) == (s : Int)) = false := by simp; omega
        have HBB := Lib.hid hb
        clear hla' h0 FK EK he hb hfs
        go_wp2_with fail
        go_roundw
        case rel => exact ⟨k + 1, by omega, by go_num, FK1.out.alloc _, EK1.out.alloc _, HBB.out.alloc HBB.out.size _⟩
        case measure => simp [intOf]; omega
    · have hkn : k = n := by omega
      rw [hkn] at FK EK
      have hfl : fillF s l n = fullF s l := by rw [← hla]; exact fill_end
      have hel : exList N (l.take n) ((fullF s l).take n) = exList N l (fullF s l) := by rw [List.take_of_length_le (by omega), List.take_of_length_le (by rw [fullF_len]; omega)]
      rw [hfl] at FK
      rw [hel] at EK
      have C6 := C3.below hb C3.lt
      have I6 := I3.on hb
      have hOF : Hx wr wr w3.heap.size [⟨2, some ⟨w2.heap.size + 1, 0, none⟩, n, n, lvs (fullF s l)⟩] := Hx.lone (own_of_block FK (by omega) (by unfold maxLen; omega) (by simp [fullF_len, hla])) hb.size (Below.refl _ _)
      have hOE : Hx wr wr w3.heap.size [⟨2, some ⟨w2.heap.size + 1 + 1, 0, none⟩, N, N, lvs (exList N l (fullF s l))⟩] := Hx.lone (own_of_block EK (by omega) (by unfold maxLen; omega) (by simp [exList_len])) hb.size (Below.refl _ _)
      have iF := hOF.held.ints (i := 0) rfl (by rw [fullF_len]; exact hla)
      have hM1 : M ≤ 100000000 := by have := (HCL.out.pnet HCK.out).1.nM; rw [HM.out] at this; omega
      have hres := rres_own N M s t ⟨AF, cF, AH, cH, AR, cR, AC, cC, AA, cA, AB, cB⟩ l F H R C Ai B (some ⟨w2.heap.size + 1, 0, none⟩) n n (fullF s l) wr HCL.out I6 HE.out HM.out hM1 iF (full_in HNN.out) (fun a ha => ⟨HNN.out a ha, HCAP.out a ha⟩)
      have HRES := Lib.hid hres
      dsimp only [csrW] at HRES
      obtain ⟨a0, a1, a2, a3, a4, a5, a6, a7, a8⟩ := C6.at9
      have hzc := C6.lt
      have HB6 := Lib.hid hb; have HOE := Lib.hid hOE
      clear hkn hfl hel FK EK I6 hOF hOE iF hres hb hM1
      go_wp2_with fail
      refine HRES.out.mono ?_
      rintro e w7 ⟨AX, cX, X, rfl, IX, RX, VX, B7, OX⟩
      have N7 := N6.below B7 N6.lt
      have Y7 := (Y3.below HB6.out Y3.lt).below B7 ((Y3.below HB6.out Y3.lt)).lt
      have Z7 := (Z3.below HB6.out Z3.lt).below B7 ((Z3.below HB6.out Z3.lt)).lt
      have C7 := C6.below B7 C6.lt
      have XE := HOE.out.add B7 OX
      have BB := below_step (B3.trans (HB6.out.mono B3.size)) B7
      have I7 := I3.below (below_step HB6.out B7)
      obtain ⟨r0', r1', r2', r3'⟩ := N7.at4
      have hz7 := N7.lt
      have S7 := B7.size
      have HI7 := Lib.hid I7; have HXE := Lib.hid XE; have HBB := Lib.hid BB; have HRX := Lib.hid RX
      have hw37 : w3.heap.size ≤ w7.heap.size := by have := HB6.out.size; omega
      have hv2 : ∀ {A : Option Addr}, Abv w1.heap.size A → ∀ a, A = some a → a.block ≠ w.heap.size + 1 := fun h a e => by have := h a e; omega
      have hv3 : ∀ {A : Option Addr}, Abv w1.heap.size A → ∀ a, A = some a → a.block ≠ w.heap.size + 1 + 1 := fun h a e => by have := h a e; omega
      clear I7 XE BB RX IX VX OX HOE HRES r0 r1 r2 r3 a0 a1 a2 a3 a4 a5 a6 a7 a8 B7
      go_upto_region 14 with fail
      obtain ⟨w8, hw8⟩ : ∃ w8, w7.alloc (.cells (ivs (List.replicate N 0)) 3) = w8 := ⟨_, rfl⟩
      have S8 : w8.heap.size = w7.heap.size + 1 := by rw [← hw8]; simp
      have H8 : Blk w8 w7.heap.size 3 (ivs (List.replicate N 0)) := by rw [← hw8]; exact Blk.new rfl
      have N8 : Blk w8 w.heap.size 24 #[.int .i64 (N : Int), .int .i64 (s : Int), .int .i64 (t : Int), .slice A n c] := by rw [← hw8]; exact N7.alloc _
      have Y8 : Blk w8 (w.heap.size + 1) 32 #[.int .i64 0, .int .i64 0, .int .i64 0, .slice none 0 0, .slice none 0 0, .slice none 0 0, .slice none 0 0, .slice none 0 0, .slice none 0 0] := by rw [← hw8]; exact Y7.alloc _
      have Z8 : Blk w8 (w.heap.size + 1 + 1) 29 #[.slice none 0 0, .slice none 0 0, .slice none 0 0] := by rw [← hw8]; exact Z7.alloc _
      have C8 : Blk w8 w2.heap.size 32 #[.int .i64 (N : Int), .int .i64 (s : Int), .int .i64 (t : Int), .slice AF (N + 1) cF, .slice AH M cH, .slice AR M cR, .slice AC M cC, .slice AA M cA, .slice AB M cB] := by rw [← hw8]; exact C7.alloc _
      have X8 := HXE.out.add (below_alloc (.cells (ivs (List.replicate N 0)) 3)) (own_zeros N 3 w7 (by unfold maxLen; omega))
      have I8 := HI7.out.below ((Below.refl _ w7).alloc hw37 (.cells (ivs (List.replicate N 0)) 3))
      have B8 := HBB.out.alloc HBB.out.size (.cells (ivs (List.replicate N 0)) 3)
      rw [hw8] at X8 I8 B8 ⊢
      clear hw8 N7 Y7 Z7 C7 r0' r1' r2' r3'
      obtain ⟨r0, r1, r2, r3⟩ := N8.at4
      have hzn8 := N8.lt
      have hsN : s < N := by omega
      have lH : (List.replicate N (0 : Int))[s]? = some 0 := by simp [hsN]
      have mH := H8.iat lH; have nH := H8.frozen s
      have hzH := H8.lt
      obtain ⟨a0, a1, a2, a3, a4, a5, a6, a7, a8⟩ := C8.at9
      have hzc8 := C8.lt
      obtain ⟨y0, y1, y2, y3, y4, y5, y6, y7, y8⟩ := Y8.at9
      obtain ⟨f0, f1, f2, f3, f4, f5, f6, f7, f8⟩ := Y8.free9
      obtain ⟨⟨z0, z1, z2⟩, ⟨g0, g1, g2⟩, hzz⟩ := Z8.full3
      have hzy := Y8.lt
      have HX8 := Lib.hid X8; have HI8 := Lib.hid I8; have HB8 := Lib.hid B8; have HY8 := Lib.hid Y8; have HZ8 := Lib.hid Z8
      clear X8 I8 B8 Y8 Z8 C8 N8 H8 lH
      have q1 : w2.heap.size ≠ w7.heap.size := by omega
      go_wp2_with fail
      obtain ⟨w9, hw9⟩ : ∃ w9, w8.setCell ⟨w7.heap.size, s, none⟩ (.int .i64 (N : Int)) = w9 := ⟨_, rfl⟩
      have Y9 : Blk w9 (w.heap.size + 1) 32 #[.int .i64 0, .int .i64 0, .int .i64 0, .slice none 0 0, .slice none 0 0, .slice none 0 0, .slice none 0 0, .slice none 0 0, .slice none 0 0] := by rw [← hw9]; exact HY8.out.far (p := ⟨w7.heap.size, s, none⟩) (by simp; omega) _
      have Z9 : Blk w9 (w.heap.size + 1 + 1) 29 #[.slice none 0 0, .slice none 0 0, .slice none 0 0] := by rw [← hw9]; exact HZ8.out.far (p := ⟨w7.heap.size, s, none⟩) (by simp; omega) _
      have X9 : Held w9 w3.heap.size (pstR M N N ⟨AX, cX, some ⟨w2.heap.size + 1 + 1, 0, none⟩, N, some ⟨w7.heap.size, 0, none⟩, N⟩ X (exList N l (fullF s l)) (begH N s)) := by
        rw [← hw9]
        have h1 := HX8.out.held.put (i := 2) rfl s (.int .i64 (N : Int))
        rw [← lvs_set] at h1
        refine h1.sel (fun i => if i = 0 then 1 else if i = 1 then 0 else i) ?_ ?_
        · intro i j hi hj e
          simp only [pstR, List.length_cons, List.length_nil] at hi hj
          split at e <;> split at e <;> (try split at e) <;> (try split at e) <;> omega
        · intro i hi
          simp only [pstR, List.length_cons, List.length_nil] at hi
          match i, hi with
          | 0, _ => rfl
          | 1, _ => rfl
          | 2, _ => rfl
      have I9 := HI8.out.below ((Below.refl _ w8).setCell (p := ⟨w7.heap.size, s, none⟩) hw37 (.int .i64 (N : Int)))
      have B9 := HB8.out.setCell (p := ⟨w7.heap.size, s, none⟩) (show w.heap.size ≤ w7.heap.size by omega) (.int .i64 (N : Int))
      rw [hw9] at I9 B9 ⊢
      have S9 : w9.heap.size = w7.heap.size + 1 := by rw [← hw9]; simpa using S8
      clear hw9
      obtain ⟨wa, hwa⟩ : ∃ wa, (((((((((w9.setCell ⟨w.heap.size + 1, 0, none⟩ (.int .i64 (N : Int))).setCell ⟨w.heap.size + 1, 1, none⟩ (.int .i64 (s : Int))).setCell ⟨w.heap.size + 1, 2, none⟩ (.int .i64 (t : Int))).setCell ⟨w.heap.size + 1, 3, none⟩ (.slice AF (N + 1) cF)).setCell ⟨w.heap.size + 1, 4, none⟩ (.slice AH M cH)).setCell ⟨w.heap.size + 1, 5, none⟩ (.slice AR M cR)).setCell ⟨w.heap.size + 1, 6, none⟩ (.slice AC M cC)).setCell ⟨w.heap.size + 1, 7, none⟩ (.slice AA M cA)).setCell ⟨w.heap.size + 1, 8, none⟩ (.slice AB M cB)) = wa := ⟨_, rfl⟩
      have YA := Y9.set9 (.int .i64 (N : Int)) (.int .i64 (s : Int)) (.int .i64 (t : Int)) (.slice AF (N + 1) cF) (.slice AH M cH) (.slice AR M cR) (.slice AC M cC) (.slice AA M cA) (.slice AB M cB)
      rw [hwa] at YA
      have ZA : Blk wa (w.heap.size + 1 + 1) 29 #[.slice none 0 0, .slice none 0 0, .slice none 0 0] := by rw [← hwa]; exact (((((((((Z9).far (by simp) _).far (by simp) _).far (by simp) _).far (by simp) _).far (by simp) _).far (by simp) _).far (by simp) _).far (by simp) _).far (by simp) _
      have XA : Held wa w3.heap.size (pstR M N N ⟨AX, cX, some ⟨w2.heap.size + 1 + 1, 0, none⟩, N, some ⟨w7.heap.size, 0, none⟩, N⟩ X (exList N l (fullF s l)) (begH N s)) := by rw [← hwa]; exact (((((((((X9).under (by simp; omega) _).under (by simp; omega) _).under (by simp; omega) _).under (by simp; omega) _).under (by simp; omega) _).under (by simp; omega) _).under (by simp; omega) _).under (by simp; omega) _).under (by simp; omega) _
      have BA : Below w.heap.size w wa := by rw [← hwa]; exact (((((((((B9).setCell (by simp) _).setCell (by simp) _).setCell (by simp) _).setCell (by simp) _).setCell (by simp) _).setCell (by simp) _).setCell (by simp) _).setCell (by simp) _).setCell (by simp) _
      have va := HV2.out
      have IA : CsrIn wa w3.heap.size N M ⟨AF, cF, AH, cH, AR, cR, AC, cC, AA, cA, AB, cB⟩ F H R C Ai B := by rw [← hwa]; exact ⟨I9.iF.far9 (hv2 va.aF), I9.iH.far9 (hv2 va.aH), I9.iR.far9 (hv2 va.aR), I9.iC.far9 (hv2 va.aC), I9.iA.far9 (hv2 va.aA), I9.iB.far9 (hv2 va.aB)⟩
      have SA : wa.heap.size = w7.heap.size + 1 := by rw [← hwa]; simpa using S9
      rw [hwa]
      clear hwa Y9 Z9 X9 I9 B9 S9
      have YB := YA.far3 (x := .slice AX M cX) (y := .slice (some ⟨w2.heap.size + 1 + 1, 0, none⟩) N N) (z := .slice (some ⟨w7.heap.size, 0, none⟩) N N) (g := w.heap.size + 1 + 1) (by omega)
      have ZB := ZA.put3 (x := .slice AX M cX) (y := .slice (some ⟨w2.heap.size + 1 + 1, 0, none⟩) N N) (z := .slice (some ⟨w7.heap.size, 0, none⟩) N N)
      have BB := below_put3 (g := w.heap.size + 1 + 1) (x := .slice AX M cX) (y := .slice (some ⟨w2.heap.size + 1 + 1, 0, none⟩) N N) (z := .slice (some ⟨w7.heap.size, 0, none⟩) N N) BA (by omega)
      have XB := ((XA.under (p := ⟨w.heap.size + 1 + 1, 0, none⟩) (by simp; omega) (.slice AX M cX)).under (p := ⟨w.heap.size + 1 + 1, 1, none⟩) (by simp; omega) (.slice (some ⟨w2.heap.size + 1 + 1, 0, none⟩) N N)).under (p := ⟨w.heap.size + 1 + 1, 2, none⟩) (by simp; omega) (.slice (some ⟨w7.heap.size, 0, none⟩) N N)
      have fb3 : ∀ {α : Type} {f : α → List Value} {size B n : Nat} {A : Option Addr} {L : List α}, RdBy f size wa B A n L → (∀ a, A = some a → a.block ≠ w.heap.size + 1 + 1) → RdBy f size (put3 wa (w.heap.size + 1 + 1) (.slice AX M cX) (.slice (some ⟨w2.heap.size + 1 + 1, 0, none⟩) N N) (.slice (some ⟨w7.heap.size, 0, none⟩) N N)) B A n L := fun h hg => ((h.farB hg 0 _).farB hg 1 _).farB hg 2 _
      obtain ⟨y0, y1, y2, y3, y4, y5, y6, y7, y8⟩ := YB.at9
      obtain ⟨⟨z0, z1, z2⟩, -, -⟩ := ZB.full3
      refine bodyPost_ret (v := .tuple #[csrW N M s t ⟨AF, cF, AH, cH, AR, cR, AC, cC, AA, cA, AB, cB⟩, preW M N N ⟨AX, cX, some ⟨w2.heap.size + 1 + 1, 0, none⟩, N, some ⟨w7.heap.size, 0, none⟩, N⟩]) (by simp [results, Try.results8, go_sem, y0, y1, y2, y3, y4, y5, y6, y7, y8, z0, z1, z2]) rfl ?_
      unfold RetBegun
      rw [HM.out]
      refine ⟨w3.heap.size, ⟨AF, cF, AH, cH, AR, cR, AC, cC, AA, cA, AB, cB⟩, F, H, R, C, Ai, B, ⟨AX, cX, some ⟨w2.heap.size + 1 + 1, 0, none⟩, N, some ⟨w7.heap.size, 0, none⟩, N⟩, X, rfl, HCL.out, ⟨fb3 IA.iF (hv3 va.aF), fb3 IA.iH (hv3 va.aH), fb3 IA.iR (hv3 va.aR), fb3 IA.iC (hv3 va.aC), fb3 IA.iA (hv3 va.aA), fb3 IA.iB (hv3 va.aB)⟩, HRX.out, ⟨XB, by simp; omega, Below.refl _ _⟩, B3.size, BB⟩
end Go.Proofs.Ytanifbofjecpmaa
