/- CutReach: the walk. -/
import Derived.Test.YthpmappcfgiggaaCutlaw
import Derived.Test.YthpmappcfgiggaaSomes
import Derived.Test.YthpmappcfgiggaaLex
import Derived.Deep.DeepCutAuto
import Derived.Deep.CutBlock
namespace Go.Proofs.Ythpmappcfgiggaa
open Go.RowKit
set_option maxRecDepth 100000

theorem Star.join {R : Int → Int → Prop} {v u x : Int} (h1 : Star R v u) (h2 : Star R u x) : Star R v x := by
  induction h2 with
  | here => exact h1
  | more _ h ih => exact .more ih h
def bothTo (K L : List Bool) : Nat → Bool
  | 0 => false
  | k + 1 => bothTo K L k || (inS K (k : Int) && !inS L (k : Int))
theorem bothTo_iff (K L : List Bool) : ∀ n, bothTo K L n = true ↔ ∃ v : Nat, v < n ∧ inS K (v : Int) = true ∧ inS L (v : Int) = false
  | 0 => by simp [bothTo]
  | n + 1 => by
    simp only [bothTo, Bool.or_eq_true, Bool.and_eq_true, Bool.not_eq_true', bothTo_iff K L n]
    constructor
    · rintro (⟨v, h1, h2⟩ | h)
      · exact ⟨v, by omega, h2⟩
      · exact ⟨n, by omega, h⟩
    · rintro ⟨v, h1, h2⟩
      by_cases e : v = n
      · subst e; exact .inr h2
      · exact .inl ⟨v, by omega, h2⟩

/-- What From and To answer. -/
structure FromTo (l : List ArcN) (F : List Int) (N s t : Nat) (K L : List Bool) : Prop where
  fromS : ∀ v : Int, 0 ≤ v → (inS K v = true ↔ Star (Opn l F) (s : Int) v)
  toT : ∀ v : Nat, v < N → (inS L (v : Int) = true ↔ ¬ Star (Opn l F) (v : Int) (t : Int))
section
variable {l : List ArcN} {F : List Int} {N s t : Nat} {K L : List Bool}
theorem FromTo.src (h : FromTo l F N s t K L) : inS K (s : Int) = true := (h.fromS _ (by omega)).2 (.here _)
theorem FromTo.snk (h : FromTo l F N s t K L) (ht : t < N) : inS L (t : Int) = false := by
  rw [← Bool.not_eq_true]
  exact fun e => (h.toT t ht).1 e (.here _)
theorem FromTo.other (h : FromTo l F N s t K L) (hs : s < N) : inS L (s : Int) = !inS K (t : Int) := by
  have h1 := h.toT s hs
  rw [← h.fromS (t : Int) (by omega)] at h1
  cases h2 : inS K (t : Int)
  · rw [h2] at h1; simp at h1; rw [h1]; rfl
  · rw [h2] at h1; simp at h1; rw [h1]; rfl
theorem FromTo.cutK (h : FromTo l F N s t K L) (hl : K.length = N) : (!inS K (t : Int)) = true ↔ IsCut N s t K :=
  ⟨fun e => ⟨hl, h.src, by simpa using e⟩, fun e => by rw [e.snk]; rfl⟩
theorem FromTo.cutL (h : FromTo l F N s t K L) (hl : L.length = N) (hs : s < N) (ht : t < N) : (!inS K (t : Int)) = true ↔ IsCut N s t L :=
  ⟨fun e => ⟨hl, by rw [h.other hs]; exact e, h.snk ht⟩, fun e => by rw [← h.other hs]; exact e.src⟩
theorem FromTo.both (h : FromTo l F N s t K L) (ht : t < N) : bothTo K L N = inS K (t : Int) := by
  rw [Bool.eq_iff_iff, bothTo_iff, h.fromS _ (by omega)]
  constructor
  · rintro ⟨v, hv, h1, h2⟩
    rw [h.fromS _ (by omega)] at h1
    refine h1.join (Classical.byContradiction fun e => ?_)
    rw [(h.toT v hv).2 e] at h2
    cases h2
  · intro e
    exact ⟨t, ht, (h.fromS _ (by omega)).2 e, h.snk ht⟩
theorem FromTo.stepK (h : FromTo l F N s t K L) {v u : Int} (hv : 0 ≤ v) (hu : 0 ≤ u) (hR : Opn l F v u) : inS K v = true → inS K u = true := by
  rw [h.fromS v hv, h.fromS u hu]
  exact fun h1 => .more h1 hR
theorem FromTo.stepL (h : FromTo l F N s t K L) {v u : Nat} (hv : v < N) (hu : u < N) (hR : Opn l F v u) : inS L (u : Int) = false → inS L (v : Int) = false := by
  intro h1
  rw [← Bool.not_eq_true] at h1 ⊢
  rw [h.toT u hu] at h1
  rw [h.toT v hv]
  exact fun h2 => h1 fun h3 => h2 (Star.ahead hR h3)
/-- What the law asks of each arc. -/
theorem FromTo.arc (h : FromTo l F N s t K L) {i f u : Nat} {c x : Int} (ha : l[i]? = some ⟨(f : Int), (u : Int), c⟩) (hx : F[i]? = some x) (hf : f < N) (hu : u < N) :
    (x < c → (inS K (f : Int) = true → inS K (u : Int) = true) ∧ (inS L (u : Int) = false → inS L (f : Int) = false)) ∧
      (0 < x → (inS K (u : Int) = true → inS K (f : Int) = true) ∧ (inS L (f : Int) = false → inS L (u : Int) = false)) := by
  by_cases e : f = u
  · subst e; exact ⟨fun _ => ⟨id, id⟩, fun _ => ⟨id, id⟩⟩
  · have hne : ((f : Nat) : Int) ≠ (u : Int) := by omega
    refine ⟨fun hlt => ?_, fun hlt => ?_⟩
    · have hR : Opn l F f u := ⟨i, _, x, ha, hx, hne, .inl ⟨rfl, rfl, hlt⟩⟩
      exact ⟨h.stepK (by omega) (by omega) hR, h.stepL hf hu hR⟩
    · have hR : Opn l F u f := ⟨i, _, x, ha, hx, hne, .inr ⟨rfl, rfl, hlt⟩⟩
      exact ⟨h.stepK (by omega) (by omega) hR, h.stepL hu hf hR⟩
end

theorem reach_keep {W0 W : World} {g n c gA gB s t : Nat} {N S T : Int} {A : Option Addr} {K L : List Bool} {x y z : Bool} (H : Blk W0 g 24 #[.int .i64 N, .int .i64 S, .int .i64 T, .slice A n c]) (PA : Blk W0 gA 4 (bvs K)) (PB : Blk W0 gB 4 (bvs L))
    (h1 : K[s]? = some x) (h2 : L[t]? = some y) (h3 : K[t]? = some z) (hB : Below W0.heap.size W0 W) :
    Below W0.heap.size W0 W ∧ W.cell? ⟨g, 0, none⟩ = some (.int .i64 N) ∧ W.cell? ⟨g, 1, none⟩ = some (.int .i64 S) ∧ W.cell? ⟨g, 2, none⟩ = some (.int .i64 T) ∧ W.cell? ⟨g, 3, none⟩ = some (.slice A n c) ∧
      W.cell? ⟨gA, s, none⟩ = some (.bool x) ∧ W.cell? ⟨gB, t, none⟩ = some (.bool y) ∧ W.cell? ⟨gA, t, none⟩ = some (.bool z) :=
  have k := (H.below hB H.lt).at4
  ⟨hB, k.1, k.2.1, k.2.2.1, k.2.2.2, (PA.below hB PA.lt).bat h1, (PB.below hB PB.lt).bat h2, (PA.below hB PA.lt).bat h3⟩

theorem reach_lex : lexAt Try.f5 16 = true := by kernel_rfl

set_option maxHeartbeats 16000000 in
theorem creach_walk (N S T : Int) (A : Option Addr) (n c : Nat) (l : List ArcN) (AL : Option Addr) (nl cl : Nat) (L : List Int) (w : World) (hA : Arcs w w.heap.size A n l) (hf : FitsAll l) (hnc : n ≤ c) (hL : Ints w w.heap.size AL nl L) (hLR : ∀ x ∈ L, InR x) :
    Calls Try.prog 5 #[.agg #[.int .i64 N, .int .i64 S, .int .i64 T, .slice A n c], .slice AL nl cl] w fun e w' => e = .returned (.bool true) ∧ Below w.heap.size w w' := by
  have hso := fun W hW => some_any N S T A n c 30 60 l W hW hf hnc (by omega) (by omega) (by omega)
  obtain ⟨N1, hN1, hN2, hN3, hck, hln, hmem⟩ := some_net N S T 30 60 l (by omega) (by omega) (by omega)
  rw [hN1] at hso hck hln hmem
  generalize S % (N1 : Int) = S1 at *
  generalize someT (N1 : Int) S T = T1 at *
  generalize someL (N1 : Int) 60 l = l1 at *
  have hend := ends_in hck
  obtain ⟨-, hN5, -, hE, hS0, hS1, hT0, hT1, hST, hnn, -⟩ := hend
  obtain ⟨s, rfl⟩ := Int.eq_ofNat_of_zero_le hS0
  obtain ⟨t, rfl⟩ := Int.eq_ofNat_of_zero_le hT0
  have hsN : s < N1 := by omega
  have htN : t < N1 := by omega
  have HSO := Lib.hid hso; have HCK := Lib.hid hck; have HMEM := Lib.hid hmem; have HE := Lib.hid hE
  clear hso hck hmem hN1 hE
  go_enter Try.func5, Try.ntmps5
  go_wp2_with fail
  refine (HSO.out _ (hA.onAlloc _)).mono ?_
  rintro e w1 ⟨A1, n1, c1, rfl, o1, hl1, B1⟩
  have K1 : Blk w1 w.heap.size 24 #[.int .i64 N, .int .i64 S, .int .i64 T, .slice A n c] := (Blk.new rfl).below B1 (by simp)
  have hz1 := K1.lt
  obtain ⟨r0, r1, r2, r3⟩ := K1.at4
  obtain ⟨f0, f1, f2, f3⟩ := K1.free4
  have ST := some_stored K1 o1 hl1 (below_step (below_alloc _) B1) (.int .i64 (N1 : Int)) (.int .i64 (s : Int)) (.int .i64 (t : Int))
  have hn1 : n1 ≤ 60 := by omega
  go_wp2_with fail
  generalize (((w1.setCell ⟨w.heap.size, 0, none⟩ (.int .i64 (N1 : Int))).setCell ⟨w.heap.size, 1, none⟩ (.int .i64 (s : Int))).setCell ⟨w.heap.size, 2, none⟩ (.int .i64 (t : Int))).setCell ⟨w.heap.size, 3, none⟩ (.slice A1 n1 c1) = w2 at *
  obtain ⟨K2, a2, Bw2⟩ := ST
  clear r0 r1 r2 r3 f0 f1 f2 f3 K1 o1 B1 hz1 HSO
  have hz2 := K2.lt
  refine (withinL_any N1 s t A1 n1 c1 l1 AL nl cl L _ a2 (by omega) (fun a ha => by have := HMEM.out a ha; omega) ((hL.below Bw2).more Bw2.size) hLR).mono ?_
  rintro e w3 ⟨gX, X, rfl, hgX, X3, WX, B3⟩
  have hXl : X.length = n1 := WX.len.trans hl1
  have K3 := K2.below B3 K2.lt
  have a3 := a2.on B3
  have Bw3 := below_step Bw2 B3
  have hfl := WX.flow hl1
  have HFL := Lib.hid hfl
  clear hfl WX K2 a2 Bw2 B3
  obtain ⟨r0, r1, r2, r3⟩ := K3.at4
  have hz3 := K3.lt
  go_wp2_with fail
  refine (from_good N1 s t A1 n1 c1 l1 _ n1 _ X _ a3 HCK.out (X3.ints hXl) HFL.out).mono ?_
  rintro e w4 ⟨gA, KA, rfl, hgA, P4, hlA, hKA, B4⟩
  have K4 := K3.below B4 K3.lt
  have a4 := a3.on B4
  have X4 := X3.below B4 X3.lt
  have Bw4 := below_step Bw3 B4
  clear r0 r1 r2 r3 hz3 K3 X3 a3 Bw3 B4
  obtain ⟨r0, r1, r2, r3⟩ := K4.at4
  have hz4 := K4.lt
  go_wp2_with fail
  refine (to_good N1 s t A1 n1 c1 l1 _ n1 _ X _ a4 HCK.out (X4.ints hXl) HFL.out).mono ?_
  rintro e w5 ⟨gB, KB, rfl, hgB, Q5, hlB, hKB, B5⟩
  have K5 := K4.below B5 K4.lt
  have a5 := a4.on B5
  have X5 := X4.below B5 X4.lt
  have P5 := P4.below B5 P4.lt
  have Bw5 := below_step Bw4 B5
  have HFT : Hid (FromTo l1 X N1 s t KA KB) := Lib.hid ⟨hKA, hKB⟩
  clear r0 r1 r2 r3 hz4 K4 X4 P4 a4 Bw4 B5 hKA hKB
  obtain ⟨r0, r1, r2, r3⟩ := K5.at4
  have hz5 := K5.lt
  have e1 := at_inS (K := KA) (v := s) (by omega)
  have e2 := at_inS (K := KB) (v := t) (by omega)
  have e3 := at_inS (K := KA) (v := t) (by omega)
  rw [HFT.out.src] at e1
  rw [HFT.out.snk htN] at e2
  have hc1 := HFT.out.cutK hlA
  have hc2 := HFT.out.cutL hlB hsN htN
  have hbt := HFT.out.both htN
  obtain ⟨xt, hxt⟩ : ∃ b, inS KA (t : Int) = b := ⟨_, rfl⟩
  rw [hxt] at e3 hc1 hc2 hbt
  have HE1 := Lib.hid e1; have HE2 := Lib.hid e2; have HE3 := Lib.hid e3; have HC1 := Lib.hid hc1; have HC2 := Lib.hid hc2; have HBT := Lib.hid hbt
  clear e1 e2 e3 hc1 hc2 hbt hxt
  have HK := Lib.hid K5; have HP := Lib.hid P5; have HQ := Lib.hid Q5
  have HAA : Hid (∀ W, Below w5.heap.size w5 W → Arcs W W.heap.size A1 n1 l1) := Lib.hid fun W hB => a5.on hB
  have HPA : Hid (∀ W, Below w5.heap.size w5 W → Bools W W.heap.size (some ⟨gA, 0, none⟩) N1 KA) := Lib.hid fun W hB => (P5.below hB P5.lt).bools hlA
  have HPB : Hid (∀ W, Below w5.heap.size w5 W → Bools W W.heap.size (some ⟨gB, 0, none⟩) N1 KB) := Lib.hid fun W hB => (Q5.below hB Q5.lt).bools hlB
  clear K5 P5 Q5
  go_upto_region 5 with fail
  go_cut [86] (fun s86 wx => s86 = .bool false ∧ Below w5.heap.size w5 wx)
  case first =>
    as_aux_lemma =>
      go_region_held3 (fun W => Below w5.heap.size w5 W ∧ W.cell? ⟨w.heap.size, 0, none⟩ = some (.int .i64 (N1 : Int)) ∧ W.cell? ⟨w.heap.size, 1, none⟩ = some (.int .i64 (s : Int)) ∧ W.cell? ⟨w.heap.size, 2, none⟩ = some (.int .i64 (t : Int)) ∧ W.cell? ⟨w.heap.size, 3, none⟩ = some (.slice A1 n1 c1) ∧
          W.cell? ⟨gA, s, none⟩ = some (.bool true) ∧ W.cell? ⟨gB, t, none⟩ = some (.bool false) ∧ W.cell? ⟨gA, t, none⟩ = some (.bool xt))
        (first
          | exact reach_keep HK.out HP.out HQ.out HE1.out HE2.out HE3.out (Below.refl _ _).drew
          | (go_split_ands
             exact reach_keep HK.out HP.out HQ.out HE1.out HE2.out HE3.out (by refine below_step ?_ (by assumption); assumption)))
        (first
          | (go_at_call 14; go_split_ands; ((with_reducible refine (right_is N1 s t A1 n1 c1 l1 (some ⟨gA, 0, none⟩) N1 _ KA _ _ (HAA.out _ (by assumption)) HCK.out (HPA.out _ (by assumption)) HC1.out).mono ?_); rintro e W6 ⟨rfl, B6⟩))
          | (go_at_call 14; go_split_ands; ((with_reducible refine (right_is N1 s t A1 n1 c1 l1 (some ⟨gB, 0, none⟩) N1 _ KB _ _ (HAA.out _ (by assumption)) HCK.out (HPB.out _ (by assumption)) HC2.out).mono ?_); rintro e W7 ⟨rfl, B7⟩)))
      go_split_ands
      go_wp2_with fail
      go_meet
      exact ⟨rfl, by assumption⟩
  case rest =>
    obtain ⟨rfl, B6⟩ := hcut
    have K6 := HK.out.below B6 HK.out.lt
    have P6 := HP.out.below B6 HP.out.lt
    have Q6 := HQ.out.below B6 HQ.out.lt
    have X6 := X5.below B6 X5.lt
    have a6 := a5.on B6
    have Bw6 := below_step Bw5 B6
    clear r0 r1 r2 r3 hz5 X5 a5 Bw5 B6 HK HP HQ HAA HPA HPB HC1 HC2 HE1 HE2
    obtain ⟨r0, r1, r2, r3⟩ := K6.at4
    have hz6 := K6.lt
    go_wp2_with fail
    go_loopw [10, 11, 89] (fun s10 _ i wr => ∃ k : Nat, k ≤ N1 ∧ i = .int .i64 k ∧ s10 = .bool (bothTo KA KB k) ∧ wr = wc) (fun _ _ i _ => N1 - (intOf i).toNat)
    case atStart => exact ⟨0, Nat.zero_le _, rfl, rfl, rfl⟩
    case round =>
      obtain ⟨k, hk, rfl, rfl, rfl⟩ := hrel
      by_cases hlt : k < N1
      · have p0 := P6.bat (at_inS (K := KA) (v := k) (by omega))
        have q0 := Q6.bat (at_inS (K := KB) (v := k) (by omega))
        have hzs : bothTo KA KB (k + 1) = (bothTo KA KB k || (inS KA (k : Int) && !inS KB (k : Int))) := rfl
        obtain ⟨bk, hbk⟩ : ∃ b, bothTo KA KB k = b := ⟨_, rfl⟩
        obtain ⟨va, hva⟩ : ∃ b, inS KA (k : Int) = b := ⟨_, rfl⟩
        obtain ⟨vb, hvb⟩ : ∃ b, inS KB (k : Int) = b := ⟨_, rfl⟩
        rw [hbk, hva, hvb] at hzs
        rw [hva] at p0
        rw [hvb] at q0
        rw [hbk]
        have HZS := Lib.hid hzs
        clear hzs hbk hva hvb
        cases bk
        · cases va
          · go_wp2_with fail
            go_roundw
            case rel => exact ⟨k + 1, by omega, by go_num, by rw [HZS.out]; rfl, trivial⟩
            case measure => simp [intOf]; omega
          · cases vb
            all_goals
              go_wp2_with fail
              go_roundw
              case rel => exact ⟨k + 1, by omega, by go_num, by rw [HZS.out]; rfl, trivial⟩
              case measure => simp [intOf]; omega
        · go_wp2_with fail
          go_roundw
          case rel => exact ⟨k + 1, by omega, by go_num, by rw [HZS.out]; rfl, trivial⟩
          case measure => simp [intOf]; omega
      · obtain rfl : N1 = k := by omega
        rw [HBT.out]
        obtain ⟨W0, hW0⟩ : ∃ W0, W0 = wr := ⟨_, rfl⟩
        subst hW0
        go_wp2_with fail
        go_loopw [12, 13, 110] (fun _ _ i wr => ∃ k : Nat, k ≤ n1 ∧ i = .int .i64 k ∧ Below W0.heap.size W0 wr) (fun _ _ i _ => n1 - (intOf i).toNat)
        case atStart => exact ⟨0, Nat.zero_le _, rfl, Below.refl _ _⟩
        case round =>
          obtain ⟨k, hk, rfl, B7⟩ := hrel
          have hz7 := B7.size
          by_cases hlt : k < n1
          · obtain ⟨ba, oa, ⟨f, u, z⟩, rfl, hba, hla, c0, c1', c2⟩ := arcs_at (a6.below B7) hlt
            obtain ⟨bx, ox, x, hbx, hbx2, hx, cx⟩ := intl_at (((X6.ints hXl).below B7)) hlt
            injection hbx with hbx
            injection hbx with hbx hox _
            subst hbx; subst hox
            rw [Nat.zero_add] at cx
            have he := HE.out _ (mem_at hla)
            simp only at he c0 c1' c2
            obtain ⟨f, rfl⟩ := Int.eq_ofNat_of_zero_le he.1
            obtain ⟨u, rfl⟩ := Int.eq_ofNat_of_zero_le he.2.2.1
            have hfN : f < N1 := by omega
            have huN : u < N1 := by omega
            have harc := HFT.out.arc hla hx hfN huN
            have P7 := P6.below B7 P6.lt
            have Q7 := Q6.below B7 Q6.lt
            have paf := P7.bat (at_inS (K := KA) (v := f) (by omega))
            have pau := P7.bat (at_inS (K := KA) (v := u) (by omega))
            have qbf := Q7.bat (at_inS (K := KB) (v := f) (by omega))
            have qbu := Q7.bat (at_inS (K := KB) (v := u) (by omega))
            have hpz := P7.lt
            have hqz := Q7.lt
            have hxz : gX < wr.heap.size := by omega
            have hbz : ba < wr.heap.size := by omega
            generalize inS KA (f : Int) = af at *
            generalize inS KA (u : Int) = au at *
            generalize inS KB (f : Int) = bf at *
            generalize inS KB (u : Int) = bu at *
            have HARC := Lib.hid harc
            clear harc hla hx he P7 Q7
            go_wp2_with fail
            refine wp_region_quiet_lit (by kernel_rfl) (lex_of reach_lex (by kernel_rfl)) ?_
            as_aux_lemma =>
              by_cases hfc : x < z
              · have hd1 : decide (x < z) = true := decide_eq_true hfc
                obtain ⟨g1, g2⟩ := HARC.out.1 hfc
                have G1 := Lib.hid g1; have G2 := Lib.hid g2
                clear g1 g2
                by_cases hps : 0 < x
                · obtain ⟨g3, g4⟩ := HARC.out.2 hps
                  have G3 := Lib.hid g3; have G4 := Lib.hid g4
                  clear g3 g4
                  obtain rfl : au = af := by
                    cases af
                    · cases au
                      · rfl
                      · exact absurd (G3.out rfl) (by decide)
                    · exact G1.out rfl
                  obtain rfl : bu = bf := by
                    cases bu
                    · exact (G2.out rfl).symm
                    · cases bf
                      · exact absurd (G4.out rfl) (by decide)
                      · rfl
                  cases au <;> cases bu
                  all_goals
                    repeat (go_big_quiet_step (fail))
                    refine wpQuiet_nil ?_
                    rintro _ ⟨nq, rfl⟩
                    go_wp2_with fail
                    go_roundw
                    case rel => exact ⟨k + 1, by omega, by go_num, below_drewN' (B7.alloc hz7 _) _⟩
                    case measure => simp [intOf]; omega
                · cases af
                  case false =>
                    cases bu
                    case false =>
                      obtain rfl := G2.out rfl
                      repeat (go_big_quiet_step (fail))
                      refine wpQuiet_nil ?_
                      rintro _ ⟨nq, rfl⟩
                      go_wp2_with fail
                      go_roundw
                      case rel => exact ⟨k + 1, by omega, by go_num, below_drewN' (B7.alloc hz7 _) _⟩
                      case measure => simp [intOf]; omega
                    case true =>
                      repeat (go_big_quiet_step (fail))
                      refine wpQuiet_nil ?_
                      rintro _ ⟨nq, rfl⟩
                      go_wp2_with fail
                      go_roundw
                      case rel => exact ⟨k + 1, by omega, by go_num, below_drewN' (B7.alloc hz7 _) _⟩
                      case measure => simp [intOf]; omega
                  case true =>
                    obtain rfl := G1.out rfl
                    cases bu
                    case false =>
                      obtain rfl := G2.out rfl
                      repeat (go_big_quiet_step (fail))
                      refine wpQuiet_nil ?_
                      rintro _ ⟨nq, rfl⟩
                      go_wp2_with fail
                      go_roundw
                      case rel => exact ⟨k + 1, by omega, by go_num, below_drewN' (B7.alloc hz7 _) _⟩
                      case measure => simp [intOf]; omega
                    case true =>
                      repeat (go_big_quiet_step (fail))
                      refine wpQuiet_nil ?_
                      rintro _ ⟨nq, rfl⟩
                      go_wp2_with fail
                      go_roundw
                      case rel => exact ⟨k + 1, by omega, by go_num, below_drewN' (B7.alloc hz7 _) _⟩
                      case measure => simp [intOf]; omega
              · have hd1 : decide (x < z) = false := decide_eq_false hfc
                by_cases hps : 0 < x
                · obtain ⟨g3, g4⟩ := HARC.out.2 hps
                  have G3 := Lib.hid g3; have G4 := Lib.hid g4
                  clear g3 g4
                  cases au
                  case false =>
                    cases bf
                    case false =>
                      obtain rfl := G4.out rfl
                      repeat (go_big_quiet_step (fail))
                      refine wpQuiet_nil ?_
                      rintro _ ⟨nq, rfl⟩
                      go_wp2_with fail
                      go_roundw
                      case rel => exact ⟨k + 1, by omega, by go_num, below_drewN' (B7.alloc hz7 _) _⟩
                      case measure => simp [intOf]; omega
                    case true =>
                      repeat (go_big_quiet_step (fail))
                      refine wpQuiet_nil ?_
                      rintro _ ⟨nq, rfl⟩
                      go_wp2_with fail
                      go_roundw
                      case rel => exact ⟨k + 1, by omega, by go_num, below_drewN' (B7.alloc hz7 _) _⟩
                      case measure => simp [intOf]; omega
                  case true =>
                    obtain rfl := G3.out rfl
                    cases bf
                    case false =>
                      obtain rfl := G4.out rfl
                      repeat (go_big_quiet_step (fail))
                      refine wpQuiet_nil ?_
                      rintro _ ⟨nq, rfl⟩
                      go_wp2_with fail
                      go_roundw
                      case rel => exact ⟨k + 1, by omega, by go_num, below_drewN' (B7.alloc hz7 _) _⟩
                      case measure => simp [intOf]; omega
                    case true =>
                      repeat (go_big_quiet_step (fail))
                      refine wpQuiet_nil ?_
                      rintro _ ⟨nq, rfl⟩
                      go_wp2_with fail
                      go_roundw
                      case rel => exact ⟨k + 1, by omega, by go_num, below_drewN' (B7.alloc hz7 _) _⟩
                      case measure => simp [intOf]; omega
                ·
                  repeat (go_big_quiet_step (fail))
                  refine wpQuiet_nil ?_
                  rintro _ ⟨nq, rfl⟩
                  go_wp2_with fail
                  go_roundw
                  case rel => exact ⟨k + 1, by omega, by go_num, below_drewN' (B7.alloc hz7 _) _⟩
                  case measure => simp [intOf]; omega
          · have P7 := P6.below B7 P6.lt
            have p7 := P7.bat HE3.out
            have K7 := K6.below B7 K6.lt
            obtain ⟨s0, s1, s2, s3⟩ := K7.at4
            have Bw7 := below_step Bw6 B7
            clear r0 r1 r2 r3
            cases xt
            all_goals
              go_wp2_with fail
              refine (awake4_any _).mono ?_
              rintro e w12 ⟨rfl, B12⟩
              go_wp2_with fail
              go_ret
              exact ⟨rfl, below_step Bw7 B12⟩

end Go.Proofs.Ythpmappcfgiggaa
