/- RelaxedTells: the walk. -/
import Derived.BigQuiet
import Derived.Test.YtanifbofjecpmaaRsb
import Derived.Test.YtanifbofjecpmaaRaw
import Derived.Test.YtanifbofjecpmaaTmov
import Derived.Test.YtanifbofjecpmaaRru
import Derived.Test.YtanifbofjecpmaaTstr
import Derived.Test.YtanifbofjecpmaaTrgt
import Derived.Test.YtanifbofjecpmaaOpen8
namespace Go.Proofs.Ytanifbofjecpmaa
open Go.RowKit Go.Shelf
set_option maxRecDepth 100000

/-- The first q of a slice of acts. -/
theorem acts_slice (A : Option Addr) (n c q : Nat) (hq : q ≤ c) (W : World) : (Instr.sliceAt 25 (.slice A n c) none (some (.int .i64 (q : Int))) none).run Try.prog W = .ok (.slice A q c) W := by
  have ht : Try.prog.underlying 25 = some (.slice (Try.prog.elem 25)) := by kernel_rfl
  have hs : ∃ s, ∀ W, (sizeOf (Try.prog.elem 25)).run Try.prog W = .ok s W := ⟨9, fun W => by kernel_rfl⟩
  obtain ⟨s, hs⟩ := hs
  rw [run_sliceAt_slice _ _ _ _ _ _ ht, run_slice_h _ _ _ _ _ ht _ _ (by omega) (by omega), hs]
  simp only [Result.andThen, sliced, Nat.zero_mul, Nat.sub_zero, Int.toNat_natCast]
  congr 2
  split
  · rfl
  · cases A with
    | none => rfl
    | some a => obtain ⟨b, o, s⟩ := a; cases s <;> simp [Addr.add]
theorem acts_short {w : World} {B n m : Nat} {A : Option Addr} {l : List ActS} (h : Acts w B A n l) (hm : m ≤ n) : Acts w B A m (l.take m) :=
  ⟨by rw [List.length_take, h.1]; omega, fun h0 => by
    obtain ⟨b, off, e, hb, hc⟩ := h.2 (by omega)
    refine ⟨b, off, e, hb, fun k a ha j u hu => hc k a ?_ j u hu⟩
    rw [List.getElem?_take] at ha
    split at ha
    · exact ha
    · cases ha⟩
theorem snd_inR {N M s t : Nat} {fst hd rv ai : Nat → Nat} {cp : Nat → Int} {bk : Nat → Bool} {X E H : List Int} (hG : PNet N M s t fst hd rv ai cp bk) (hS : SndIs N M s t hd rv cp X E H) : ∀ x ∈ X, InR x := by
  intro x hx
  obtain ⟨a, ha, rfl⟩ := List.mem_iff_getElem.1 hx
  have hl := hS.bal.1
  have e : hOf X a = X[a] := by unfold hOf; rw [List.getElem?_eq_getElem ha]; rfl
  have h1 := hS.bal.2 a (by omega)
  have hr := hG.g.rvl a (by omega)
  have h2 := hS.bal.2 (rv a) hr
  have h3 := hG.cp0 a (by omega); have h4 := hG.cp0 (rv a) hr
  have h5 := hG.bkr a (by omega)
  have h6 : cp a = 0 ∨ cp (rv a) = 0 := by
    cases hb : bk a with
    | true => exact .inl (hG.cpb a (by omega) hb)
    | false => rw [hb] at h5; exact .inr (hG.cpb (rv a) hr h5)
  unfold maxSum at h3 h4
  unfold InR
  rw [← e]
  omega
theorem event_info : (Try.prog.info? 39).map (fun i => (i.zero, i.size, i.bytes)) = some (some (.agg #[.int .i64 0, .int .u8 0, .int .i64 0, .int .i64 0, .int .i64 0, .int .i64 0, .int .i64 0]), 7, 56) := by kernel_rfl
/-- A row of numbers lies in another block. -/
def OffA (A : Option Addr) (n b : Nat) : Prop := 0 < n → ∀ a, A = some a → a.block ≠ b
structure OffQ (M N : Nat) (Q : PreS) (b : Nat) : Prop where
  aX : OffA Q.AX M b
  aE : OffA Q.AE N b
  aH : OffA Q.AH N b
theorem ints_blk_lt {w : World} {x n : Nat} {A : Option Addr} {L : List Int} (h : Ints w x A n L) (hn : 0 < n) : ∀ a, A = some a → a.block < x := fun a e => by
  obtain ⟨b, off, e2, hb, -⟩ := h.2 hn
  rw [e] at e2
  injection e2 with e2
  rw [e2]
  exact hb
theorem StIn.offLt {w : World} {x b M N : Nat} {Q : PreS} {X E H : List Int} (h : StIn w x M N N Q X E H) (hb : x ≤ b) : OffQ M N Q b :=
  ⟨fun hn a e => by have := ints_blk_lt h.iX hn a e; omega, fun hn a e => by have := ints_blk_lt h.iE hn a e; omega, fun hn a e => by have := ints_blk_lt h.iH hn a e; omega⟩
theorem PreOff.offQ {x b M N : Nat} {Q : PreS} (h : PreOff x Q) (hb : b < x) : OffQ M N Q b :=
  ⟨fun _ a e => by have := h.aX a e; omega, fun _ a e => by have := h.aE a e; omega, fun _ a e => by have := h.aH a e; omega⟩
/-- Numbers stay while another block grows. -/
theorem ints_apart {w w' : World} {n g : Nat} {A : Option Addr} {L : List Int} (h : Ints w w.heap.size A n L) (ho : OffA A n g) (hg : w.grownBy w' (some g)) : Ints w' w'.heap.size A n L := by
  refine RdBy.more (B := w.heap.size) ⟨h.1, fun hn => ?_⟩ hg.size
  obtain ⟨b, off, e, hb, hc⟩ := h.2 hn
  have hne : b ≠ g := ho hn _ e
  exact ⟨b, off, e, hb, fun k a ha j u hu => by
    have h1 := hc k a ha j u hu
    rw [← h1]
    unfold World.cell?
    rw [hg.block b hb (fun e => hne (by injection e))]⟩
theorem ints_still {w w' : World} {n : Nat} {A : Option Addr} {L : List Int} (h : Ints w w.heap.size A n L) (hg : w.grownBy w' none) : Ints w' w'.heap.size A n L := by
  refine RdBy.more (B := w.heap.size) ⟨h.1, fun hn => ?_⟩ hg.size
  obtain ⟨b, off, e, hb, hc⟩ := h.2 hn
  exact ⟨b, off, e, hb, fun k a ha j u hu => by
    have h1 := hc k a ha j u hu
    rw [← h1]
    unfold World.cell?
    rw [hg.block b hb (fun e => by cases e)]⟩
theorem own_onB {w w' : World} {base n c : Nat} {e : TypeId} {size : Nat} {A : Option Addr} {xs : List Value} (h : w.ownsRow base e size (.slice A n c) n xs) (hb : Below w.heap.size w w') : w'.ownsRow base e size (.slice A n c) n xs :=
  h.kept (⟨hb.os, hb.tape, hb.output, hb.size, fun i hi _ => hb.block i hi⟩ : w.grownBy w' none) (by cases A <;> simp [Value.ownBlock])
theorem own_off1 {w : World} {base n c g i : Nat} {e : TypeId} {size : Nat} {A : Option Addr} {xs : List Value} {u : Value} (h : w.ownsRow base e size (.slice A n c) n xs) (hg : g < base) : (w.setCell ⟨g, i, none⟩ u).ownsRow base e size (.slice A n c) n xs :=
  h.kept (grown_cell w ⟨g, i, none⟩ u) (.inr fun he => by have := (h.lt g he).1; omega)
theorem own_off3 {w : World} {base n c g : Nat} {e : TypeId} {size : Nat} {A : Option Addr} {xs : List Value} {x y z : Value} (h : w.ownsRow base e size (.slice A n c) n xs) (hg : g < base) : (put3 w g x y z).ownsRow base e size (.slice A n c) n xs :=
  own_off1 (own_off1 (own_off1 h hg) hg) hg
/-- The events' row and the state's rows lie apart. -/
def Apt (M N : Nat) (Q : PreS) (A : Option Addr) : Prop := ∀ a, A = some a → OffQ M N Q a.block
theorem StIn.grownA {w w' : World} {M N n c : Nat} {Q : PreS} {A : Option Addr} {X E H : List Int} (h : StIn w w.heap.size M N N Q X E H) (ha : Apt M N Q A) (hg : w.grownBy w' (Value.slice A n c).ownBlock) : StIn w' w'.heap.size M N N Q X E H := by
  cases A with
  | none => exact ⟨ints_still h.iX hg, ints_still h.iE hg, ints_still h.iH hg⟩
  | some a => exact ⟨ints_apart h.iX (ha a rfl).aX hg, ints_apart h.iE (ha a rfl).aE hg, ints_apart h.iH (ha a rfl).aH hg⟩

set_option maxHeartbeats 32000000 in
theorem rtells_walk (N S T : Int) (A : Option Addr) (n c : Nat) (l : List ArcN) (AU : Option Addr) (nu cu : Nat) (U : List ActS) (nX nE nH : Nat) (Qo : PreS) (Xo Eo Ho : List Int) (w : World) (hA : Arcs w w.heap.size A n l) (hf : FitsAll l) (hnc : n ≤ c) (hU : Acts w w.heap.size AU nu U) (hcu : nu ≤ cu) (hO : StIn w w.heap.size nX nE nH Qo Xo Eo Ho) (hXR : ∀ x ∈ Xo, InR x) :
    Calls Try.prog 3 #[.agg #[.int .i64 N, .int .i64 S, .int .i64 T, .slice A n c], .slice AU nu cu, preW nX nE nH Qo] w fun e w' => e = .returned (.bool true) ∧ Below w.heap.size w w' := by
  obtain ⟨N1, M, s, t, hso⟩ := some_begun N S T A n c 12 30 l w hA hf hnc (by omega) (by omega) (by omega)
  have HSO := Lib.hid hso; have HU := Lib.hid hU; have HO := Lib.hid hO; have HXR := Lib.hid hXR
  clear hso hU hA hf hO hXR
  obtain ⟨AXo, cXo, AEo, cEo, AHo, cHo⟩ := Qo
  dsimp only [preW]
  go_enter Try.func3, Try.ntmps3
  go_wp2_with fail
  obtain ⟨w0, hw0⟩ : ∃ w0, ((w.alloc (.cells #[.int .i64 N, .int .i64 S, .int .i64 T, .slice A n c] 24)).alloc (.cells #[.slice AXo nX cXo, .slice AEo nE cEo, .slice AHo nH cHo] 29)) = w0 := ⟨_, rfl⟩
  have B0 : Below w.heap.size w w0 := by rw [← hw0]; exact (below_alloc _).alloc (by simp) _
  have KO0 : Blk w0 (w.heap.size + 1) 29 #[.slice AXo nX cXo, .slice AEo nE cEo, .slice AHo nH cHo] := by rw [← hw0]; exact Blk.new (by simp)
  rw [hw0]
  clear hw0
  refine (HSO.out _ B0).mono ?_
  rintro e w1 ⟨v, rfl, B1, hbg⟩
  have HBG := Lib.hid hbg
  have B01 := below_step B0 B1
  have KO1 := KO0.below B1 KO0.lt
  clear hbg HSO KO0 B0 B1
  go_wp2_with fail
  refine (HBG.out _ (Below.refl _ _)).mono ?_
  rintro e w2 ⟨x0, K, Q0, fst, hd, rv, ai, cp, bk, X0, E0, rfl, hP, hI, hR, hS, hx0, B2⟩
  have B02 := below_step B01 B2
  have hI2 := hI.more hR.bas
  have hQ2 := hR.st hS.bal.1 hS.le hS.lh
  have hN := hP.nN; have hM := hP.nM; have hn2 := hP.n2
  have HP := Lib.hid hP; have HI := Lib.hid hI2; have HQ := Lib.hid hQ2; have HS := Lib.hid hS; have HB := Lib.hid B02; have HKO := Lib.hid (KO1.below B2 KO1.lt)
  generalize begH N1 s = H0 at *
  clear hP hI hR hS hI2 hQ2 B01 B02 B2 HBG hx0 KO1
  obtain ⟨q, hq⟩ : ∃ q, min nu 60 = q := ⟨_, rfl⟩
  have HUQ := Lib.hid (acts_short (m := q) ((HU.out.below HB.out).more HB.out.size) (by omega))
  obtain ⟨L, hL⟩ : ∃ L, U.take q = L := ⟨_, rfl⟩
  rw [hL] at HUQ
  clear HU hL
  have hsl := acts_slice AU nu cu q (by omega)
  have hm1 : (if (nu : Int) < 60 then (nu : Int) else (60 : Int)) = (q : Int) := by rw [← hq]; split <;> omega
  have hm2 : (if nu < 60 then (nu : Int) else (60 : Int)) = (q : Int) := by rw [← hq]; split <;> omega
  have hm3 : min (nu : Int) 60 = (q : Int) := by omega
  have hm4 : (if (60 : Int) < (nu : Int) then (60 : Int) else (nu : Int)) = (q : Int) := by rw [← hq]; split <;> omega
  have hm5 : (if 60 < nu then (60 : Int) else (nu : Int)) = (q : Int) := by rw [← hq]; split <;> omega
  have h0q : (0 : Int) ≤ (q : Int) := by omega
  have hqc : (q : Int) ≤ (cu : Int) := by omega
  have hq60 : q ≤ 60 := by omega
  clear hq
  obtain ⟨ro, hro⟩ : ∃ r : Bool, r = true ↔ (nX = M ∧ nE = N1 ∧ nH = N1 ∧ SndIs N1 M s t hd rv cp Xo Eo Ho) := by
    classical
    exact ⟨decide (nX = M ∧ nE = N1 ∧ nH = N1 ∧ SndIs N1 M s t hd rv cp Xo Eo Ho), by simp⟩
  have hoo := fun W (hb : Below w2.heap.size w2 W) => HO.out.on (below_step HB.out hb)
  have HOO := Lib.hid hoo
  clear hoo
  have hr1 := fun W (hb : Below w2.heap.size w2 W) => rright_is N1 M s t nX nE nH K ⟨AXo, cXo, AEo, cEo, AHo, cHo⟩ fst hd rv ai cp bk Xo Eo Ho ro W HP.out ((HI.out.below hb).more hb.size) (HOO.out W hb) HXR.out hro
  have hr2 := fun W (hb : Below w2.heap.size w2 W) => tright_is N1 M s t nX nE nH K ⟨AXo, cXo, AEo, cEo, AHo, cHo⟩ fst hd rv ai cp bk Xo Eo Ho W HP.out ((HI.out.below hb).more hb.size) (HOO.out W hb) ro hro
  have HR1 := Lib.hid hr1; have HR2 := Lib.hid hr2
  clear hr1 hr2 hro
  obtain ⟨AF, cF, AH, cH, AR, cR, AC, cC, AA, cA, AB, cB⟩ := K
  obtain ⟨AX0, cX0, AE0, cE0, AH0, cH0⟩ := Q0
  have hfi := fun (Q : PreS) X E H ev raw fit W (hb : Below w2.heap.size w2 W) (hq : StIn W W.heap.size M N1 N1 Q X E H) => fitted_is N1 M s t ⟨AF, cF, AH, cH, AR, cR, AC, cC, AA, cA, AB, cB⟩ Q fst hd rv X E H ev raw fit W HP.out.g ((HI.out.below hb).more hb.size).gi hq hN hn2 hM
  have hst := fun (Q : PreS) X E H ev W (hb : Below w2.heap.size w2 W) (hq : StIn W W.heap.size M N1 N1 Q X E H) hs => rstrict_is N1 M s t ⟨AF, cF, AH, cH, AR, cR, AC, cC, AA, cA, AB, cB⟩ Q fst hd rv ai cp bk X E H ev W HP.out ((HI.out.below hb).more hb.size).gi hq hs
  have hts := fun (Q : PreS) X E H ev W (hb : Below w2.heap.size w2 W) (hq : StIn W W.heap.size M N1 N1 Q X E H) hs => tstrict_is N1 M s t ⟨AF, cF, AH, cH, AR, cR, AC, cC, AA, cA, AB, cB⟩ Q fst hd rv ai cp bk X E H ev W HP.out ((HI.out.below hb).more hb.size).gi hq hs
  have hmo := fun (Q : PreS) X E H ev W (hb : Below w2.heap.size w2 W) (hq : StIn W W.heap.size M N1 N1 Q X E H) hs => rmoveX_is N1 M s t ⟨AF, cF, AH, cH, AR, cR, AC, cC, AA, cA, AB, cB⟩ Q fst hd rv ai cp bk X E H ev W HP.out ((HI.out.below hb).more hb.size).gi hq hs
  have htm := fun (Q : PreS) X E H ev W (hb : Below w2.heap.size w2 W) (hq : StIn W W.heap.size M N1 N1 Q X E H) hs => tmove_is N1 M s t ⟨AF, cF, AH, cH, AR, cR, AC, cC, AA, cA, AB, cB⟩ Q fst hd rv ai cp bk X E H ev W HP.out ((HI.out.below hb).more hb.size).gi hq hs
  have hle := fun (Q : PreS) X E H ev W (hb : Below w2.heap.size w2 W) (hq : StIn W W.heap.size M N1 N1 Q X E H) => rlegal_is N1 M s t ⟨AF, cF, AH, cH, AR, cR, AC, cC, AA, cA, AB, cB⟩ Q fst hd rv X E H ev W HP.out.g ((HI.out.below hb).more hb.size).gi hq hN
  have hrt := fun (Q : PreS) X E H W (hb : Below w2.heap.size w2 W) (hq : StIn W W.heap.size M N1 N1 Q X E H) (hs : SndIs N1 M s t hd rv cp X E H) => rright_is N1 M s t M N1 N1 ⟨AF, cF, AH, cH, AR, cR, AC, cC, AA, cA, AB, cB⟩ Q fst hd rv ai cp bk X E H true W HP.out ((HI.out.below hb).more hb.size) hq (snd_inR HP.out hs) ⟨fun _ => ⟨rfl, rfl, rfl, hs⟩, fun _ => rfl⟩
  have htg := fun (Q : PreS) X E H W (hb : Below w2.heap.size w2 W) (hq : StIn W W.heap.size M N1 N1 Q X E H) (hs : SndIs N1 M s t hd rv cp X E H) => tright_is N1 M s t M N1 N1 ⟨AF, cF, AH, cH, AR, cR, AC, cC, AA, cA, AB, cB⟩ Q fst hd rv ai cp bk X E H W HP.out ((HI.out.below hb).more hb.size) hq true ⟨fun _ => ⟨rfl, rfl, rfl, hs⟩, fun _ => rfl⟩
  have hsm := fun (Q R : PreS) X E H W (hq : StIn W W.heap.size M N1 N1 Q X E H) (hr : StIn W W.heap.size M N1 N1 R X E H) => rsame_is M N1 N1 M N1 N1 Q R X E H X E H true W hq hr (by omega) (by omega) (by omega) (by omega) (by omega) (by omega) (by simp)
  have HFI := Lib.hid hfi; have HST := Lib.hid hst; have HTS := Lib.hid hts; have HMO := Lib.hid hmo; have HTM := Lib.hid htm; have HLE := Lib.hid hle; have HRT := Lib.hid hrt; have HTG := Lib.hid htg; have HSM := Lib.hid hsm; have HSL := Lib.hid hsl
  clear hfi hst hts hmo htm hle hrt htg hsm hsl
  dsimp only [csrW, preW, actW, evW] at HR1 HR2 HFI HST HTS HMO HTM HLE HRT HTG HSM ⊢
  go_upto_region 2 with fail
  obtain ⟨w3, hw3⟩ : ∃ w3, ((w2.alloc (.cells #[.int .i64 (N1 : Int), .int .i64 (s : Int), .int .i64 (t : Int), .slice AF (N1 + 1) cF, .slice AH M cH, .slice AR M cR, .slice AC M cC, .slice AA M cA, .slice AB M cB] 32)).alloc (.cells #[.slice AX0 M cX0, .slice AE0 N1 cE0, .slice AH0 N1 cH0] 29)) = w3 := ⟨_, rfl⟩
  have B3 : Below w2.heap.size w2 w3 := by rw [← hw3]; exact (below_alloc _).alloc (by simp) _
  have C3 : Blk w3 w2.heap.size 32 #[.int .i64 (N1 : Int), .int .i64 (s : Int), .int .i64 (t : Int), .slice AF (N1 + 1) cF, .slice AH M cH, .slice AR M cR, .slice AC M cC, .slice AA M cA, .slice AB M cB] := by rw [← hw3]; exact (Blk.new rfl).alloc _
  have P3 : Blk w3 (w2.heap.size + 1) 29 #[.slice AX0 M cX0, .slice AE0 N1 cE0, .slice AH0 N1 cH0] := by rw [← hw3]; exact Blk.new (by simp)
  rw [hw3]
  clear hw3
  have HB3 := Lib.hid B3; have HC3 := Lib.hid C3; have HP3 := Lib.hid P3; have HKO3 := Lib.hid (HKO.out.below B3 HKO.out.lt)
  clear B3 C3 P3 HKO
  have hkeep : ∀ W', Below w3.heap.size w3 W' → W'.cell? ⟨w2.heap.size, 0, none⟩ = some (.int .i64 (N1 : Int)) ∧ W'.cell? ⟨w2.heap.size, 1, none⟩ = some (.int .i64 (s : Int)) ∧ W'.cell? ⟨w2.heap.size, 2, none⟩ = some (.int .i64 (t : Int)) ∧ W'.cell? ⟨w2.heap.size, 3, none⟩ = some (.slice AF (N1 + 1) cF) ∧ W'.cell? ⟨w2.heap.size, 4, none⟩ = some (.slice AH M cH) ∧ W'.cell? ⟨w2.heap.size, 5, none⟩ = some (.slice AR M cR) ∧ W'.cell? ⟨w2.heap.size, 6, none⟩ = some (.slice AC M cC) ∧ W'.cell? ⟨w2.heap.size, 7, none⟩ = some (.slice AA M cA) ∧ W'.cell? ⟨w2.heap.size, 8, none⟩ = some (.slice AB M cB) ∧ W'.cell? ⟨w.heap.size + 1, 0, none⟩ = some (.slice AXo nX cXo) ∧ W'.cell? ⟨w.heap.size + 1, 1, none⟩ = some (.slice AEo nE cEo) ∧ W'.cell? ⟨w.heap.size + 1, 2, none⟩ = some (.slice AHo nH cHo) := fun W' hb => by
    obtain ⟨c0, c1, c2, c3, c4, c5, c6, c7, c8⟩ := (HC3.out.below hb HC3.out.lt).at9
    obtain ⟨⟨p0, p1, p2⟩, -, -⟩ := (HKO3.out.below hb HKO3.out.lt).full3
    exact ⟨c0, c1, c2, c3, c4, c5, c6, c7, c8, p0, p1, p2⟩
  have HKEEP := Lib.hid hkeep
  clear hkeep
  refine wp_region_held_drew (S := fun W' => W'.cell? ⟨w2.heap.size, 0, none⟩ = some (.int .i64 (N1 : Int)) ∧ W'.cell? ⟨w2.heap.size, 1, none⟩ = some (.int .i64 (s : Int)) ∧ W'.cell? ⟨w2.heap.size, 2, none⟩ = some (.int .i64 (t : Int)) ∧ W'.cell? ⟨w2.heap.size, 3, none⟩ = some (.slice AF (N1 + 1) cF) ∧ W'.cell? ⟨w2.heap.size, 4, none⟩ = some (.slice AH M cH) ∧ W'.cell? ⟨w2.heap.size, 5, none⟩ = some (.slice AR M cR) ∧ W'.cell? ⟨w2.heap.size, 6, none⟩ = some (.slice AC M cC) ∧ W'.cell? ⟨w2.heap.size, 7, none⟩ = some (.slice AA M cA) ∧ W'.cell? ⟨w2.heap.size, 8, none⟩ = some (.slice AB M cB) ∧ W'.cell? ⟨w.heap.size + 1, 0, none⟩ = some (.slice AXo nX cXo) ∧ W'.cell? ⟨w.heap.size + 1, 1, none⟩ = some (.slice AEo nE cEo) ∧ W'.cell? ⟨w.heap.size + 1, 2, none⟩ = some (.slice AHo nH cHo)) (by kernel_rfl) (HKEEP.out _ (Below.refl _ _).drew) (fun hS0 => ?_)
  obtain ⟨W, hW⟩ : ∃ W, w3.drew = W := ⟨_, rfl⟩
  have B : Below w3.heap.size w3 W := by rw [← hW]; exact (Below.refl _ _).drew
  rw [hW] at hS0 ⊢
  clear hW
  refine tk (v := ?_) 0 30 rfl ?_ ?_
  rotate_left
  · (intro W hSw; obtain ⟨c0, c1, c2, c3, c4, c5, c6, c7, c8, p0, p1, p2⟩ := hSw; go_simp; try with_reducible rfl)
  simp only [Act.put, pa, pz, ps]
  refine tk (v := ?_) 1 31 rfl ?_ ?_
  rotate_left
  · (intro W hSw; obtain ⟨c0, c1, c2, c3, c4, c5, c6, c7, c8, p0, p1, p2⟩ := hSw; go_simp; try with_reducible rfl)
  simp only [Act.put, pa, pz, ps]
  refine tk (v := ?_) 3 33 rfl ?_ ?_
  rotate_left
  · (intro W hSw; obtain ⟨c0, c1, c2, c3, c4, c5, c6, c7, c8, p0, p1, p2⟩ := hSw; go_simp; try with_reducible rfl)
  simp only [Act.put, pa, pz, ps]
  refine tk (v := ?_) 4 34 rfl ?_ ?_
  rotate_left
  · (intro W hSw; obtain ⟨c0, c1, c2, c3, c4, c5, c6, c7, c8, p0, p1, p2⟩ := hSw; go_simp; try with_reducible rfl)
  simp only [Act.put, pa, pz, ps]
  refine wpAnyH_ready (rs := [2]) (by kernel_rfl) (by simp) ?_
  refine AllReadyH.cons rfl (fun K hK => ?_) AllReadyH.nil
  go_simp
  refine (HR1.out _ (below_step HB3.out B)).mono ?_
  rintro e W4 ⟨rfl, xB4⟩
  have B4 := below_step B xB4
  refine hK.out _ _ (HKEEP.out _ B4) (fun hS2 => ?_)
  clear hK K xB4
  try simp only [Act.put, pa, pz, ps]
  refine wpAnyH_ready (rs := [5]) (by kernel_rfl) (by simp) ?_
  refine AllReadyH.cons rfl (fun K hK => ?_) AllReadyH.nil
  go_simp
  refine (HR2.out _ (below_step HB3.out B4)).mono ?_
  rintro e W5 ⟨rfl, xB5⟩
  have B5 := below_step B4 xB5
  refine hK.out _ _ (HKEEP.out _ B5) (fun hS5 => ?_)
  clear hK K xB5
  try simp only [Act.put, pa, pz, ps]
  refine tk (v := ?_) 6 36 rfl ?_ ?_
  rotate_left
  · (intro W hSw; obtain ⟨c0, c1, c2, c3, c4, c5, c6, c7, c8, p0, p1, p2⟩ := hSw; go_simp; try with_reducible rfl)
  simp only [Act.put, pa, pz, ps]
  refine wpAnyH_done (by kernel_rfl) ?_ _
  have hbne : (ro != ro) = false := by simp
  have HB5 := Lib.hid (below_step HB3.out B5); have HC5 := Lib.hid (HC3.out.below B5 HC3.out.lt); have HP5 := Lib.hid (HP3.out.below B5 HP3.out.lt)
  clear hS0 hS2 hS5 B B4 B5 HKEEP HC3 HP3 HKO3 HB3 HR1 HR2 HOO HO HXR
  obtain ⟨⟨p0, p1, p2⟩, -, zp⟩ := HP5.out.full3
  obtain ⟨gQ, hgQ⟩ : ∃ g, W5.heap.size = g := ⟨_, rfl⟩
  have hgP : w2.heap.size + 1 < gQ := by have := HP5.out.lt; omega
  go_upto_region 6 with fail
  obtain ⟨w6, hw6⟩ : ∃ W, W5.alloc (.cells #[.slice AX0 M cX0, .slice AE0 N1 cE0, .slice AH0 N1 cH0] 29) = W := ⟨_, rfl⟩
  have B6 : Below W5.heap.size W5 w6 := by rw [← hw6]; exact below_alloc _
  have V6 : LpI w2 N1 M s t ⟨AF, cF, AH, cH, AR, cR, AC, cC, AA, cA, AB, cB⟩ hd rv cp w2.heap.size gQ ⟨AX0, cX0, AE0, cE0, AH0, cH0⟩ X0 E0 H0 w6 := by
    refine ⟨below_step HB5.out B6, HC5.out.below B6 HC5.out.lt, ?_, HQ.out.on (below_step HB5.out B6), HS.out⟩
    rw [← hw6]; exact Blk.new hgQ
  have P6 : Blk w6 (w2.heap.size + 1) 29 #[.slice AX0 M cX0, .slice AE0 N1 cE0, .slice AH0 N1 cH0] := HP5.out.below B6 HP5.out.lt
  obtain ⟨x6, hx6⟩ : ∃ x, w6.heap.size = x := ⟨_, rfl⟩
  have hgx : gQ < x6 := by rw [← hx6]; exact V6.p.lt
  rw [hw6]
  try rw [hgQ]
  have O6 : w6.ownsRow x6 39 7 (.slice none 0 0) 0 [] := by rw [← hx6]; exact World.ownsRow_nil w6 _ _ _
  have HX6 := Lib.hid hx6
  clear hw6 hgQ B6 HB5 HC5 HP5 p0 p1 p2 zp hx6 hbne
  have HX := HSL.out
  go_wp2_with fail
  go_loopw [9, 12, 13, 14, 15, 16, 17, 44] (fun al _ _ _ _ _ _ i wr => ∃ (k : Nat) (Q : PreS) (X E H : List Int) (Aa : Option Addr) (na ca : Nat) (Lv : List EvS), k ≤ q ∧ i = .int .i64 k ∧ al = .slice Aa na ca ∧ LpI w2 N1 M s t ⟨AF, cF, AH, cH, AR, cR, AC, cC, AA, cA, AB, cB⟩ hd rv cp w2.heap.size gQ Q X E H wr ∧ Blk wr (w2.heap.size + 1) 29 #[.slice AX0 M cX0, .slice AE0 N1 cE0, .slice AH0 N1 cH0] ∧ wr.ownsRow x6 39 7 (.slice Aa na ca) na (Lv.flatMap evCells) ∧ Lv.length = na ∧ na = k ∧ Apt M N1 Q Aa ∧ x6 ≤ wr.heap.size) (fun _ _ _ _ _ _ _ i _ => q - (intOf i).toNat)
  case atStart => exact ⟨0, ⟨AX0, cX0, AE0, cE0, AH0, cH0⟩, X0, E0, H0, none, 0, 0, [], Nat.zero_le _, rfl, rfl, V6, P6, O6, rfl, rfl, fun a e => (by cases e), by rw [HX6.out]; exact Nat.le_refl _⟩
  case round =>
    clear V6 P6 O6 HX
    obtain ⟨k, Q, X, E, H, Aa, na, ca, Lv, hk, rfl, rfl, V, PB, OB, hlv, hna, hap, hxs⟩ := hrel
    subst hna
    obtain ⟨AX, cX, AE, cE, AHH, cHH⟩ := Q
    by_cases hlt : na < q
    · skip
      obtain ⟨b, off, ⟨⟨j0, j1, j2, j3, j4, j5, j6⟩, jr, jf⟩, rfl, hbl, hla, a0, a1, a2, a3, a4, a5, a6, a7, a8⟩ := acts_at (HUQ.out.below V.bel) hlt
      dsimp only at a0 a1 a2 a3 a4 a5 a6 a7 a8
      have zb : b < wr.heap.size := by have := V.bel.size; omega
      have HV := Lib.hid V; have HPB := Lib.hid PB; have HOB := Lib.hid OB; have HAP := Lib.hid hap; have HLV := Lib.hid hlv; have HXS := Lib.hid hxs
      clear V hla PB OB hap hlv hxs
      obtain ⟨c0, c1, c2, c3, c4, c5, c6, c7, c8⟩ := HV.out.c.at9
      obtain ⟨⟨p0, p1, p2⟩, ⟨f0, f1, f2⟩, zp⟩ := HV.out.p.full3
      have zc := HV.out.c.lt
      go_wp2_with fail
      refine (HFI.out ⟨AX, cX, AE, cE, AHH, cHH⟩ X E H ⟨j0, j1, j2, j3, j4, j5, j6⟩ jr jf _ (below_step HV.out.bel (below_alloc _)) (HV.out.on (below_alloc _)).st).mono ?_
      rintro e w7 ⟨⟨v0, v1, v2, v3, v4, v5, v6⟩, rfl, B7⟩
      have B7x := below_step (below_alloc _) B7
      have HV7 := Lib.hid (HV.out.on B7x); have HP7 := Lib.hid (HPB.out.below B7x HPB.out.lt); have HO7 := Lib.hid (own_onB HOB.out B7x)
      have HZ7 := Lib.hid (show wr.heap.size ≤ w7.heap.size from B7x.size)
      have hlo : ∀ g', (Value.slice Aa na ca).ownBlock = some g' → g' < wr.heap.size := fun g' h => (HOB.out.lt g' h).2
      have HLO := Lib.hid hlo
      clear hlo B7 B7x HV HPB HOB a0 a1 a2 a3 a4 a5 a6 a7 a8 zb hbl c0 c1 c2 c3 c4 c5 c6 c7 c8 p0 p1 p2 f0 f1 f2 zp zc
      dsimp only [evW]
      go_upto_region 10 with fail
      obtain ⟨gE, hgE⟩ : ∃ g, w7.heap.size = g := ⟨_, rfl⟩
      obtain ⟨w8, hw8⟩ : ∃ W, w7.alloc (.cells #[.int .i64 v0, .int .u8 v1, .int .i64 v2, .int .i64 v3, .int .i64 v4, .int .i64 v5, .int .i64 v6] 39) = W := ⟨_, rfl⟩
      have b8 : Below w7.heap.size w7 w8 := by rw [← hw8]; exact below_alloc _
      have e8 : Blk w8 gE 39 #[.int .i64 v0, .int .u8 v1, .int .i64 v2, .int .i64 v3, .int .i64 v4, .int .i64 v5, .int .i64 v6] := by rw [← hw8]; exact Blk.new hgE
      have hle8 : wr.heap.size ≤ gE := by rw [← hgE]; exact HZ7.out
      rw [hw8]
      try rw [hgE]
      have HV8 := Lib.hid (HV7.out.on b8); have HP8 := Lib.hid (HP7.out.below b8 HP7.out.lt); have HO8 := Lib.hid (own_onB HO7.out b8); have HE8 := Lib.hid e8
      have HX8 : Hid (x6 ≤ w8.heap.size) := Lib.hid (by have := HXS.out; have := HZ7.out; have := b8.size; omega)
      have HGE8 := Lib.hid hle8
      clear hw8 hgE b8 e8 hle8 HV7 HP7 HO7 HZ7
      obtain ⟨e0, e1, e2, e3, e4, e5, e6⟩ := HE8.out.at7
      have ze := HE8.out.lt
      obtain ⟨i0, hi, hz0, hz1, hz2⟩ := info_parts event_info
      have HI0 := Lib.hid hi; have HZ0 := Lib.hid hz0; have HZ1 := Lib.hid hz1; have HZ2 := Lib.hid hz2
      clear hi hz0 hz1 hz2
      go_wp2_with (at_builtin; refine wpList_append_row _ rfl (.tmp 52) (.tmp 54) _ rfl x6 39 i0 _ 7 56 Try.underlying37 HI0.out HZ0.out HZ1.out HZ2.out rfl (by omega) Aa na ca (Lv.flatMap evCells) rfl (own_onB HO8.out (below_alloc _)) (some ⟨w8.heap.size, 0, none⟩) 1 1 (evCells ⟨v0, v1, v2, v3, v4, v5, v6⟩) rfl rfl ?_ ?_ ?_ ?_ ?_ ?_)
      · intro _
        refine ⟨_, rfl, fun j u hu => ?_⟩
        rw [addr_add, Nat.zero_add]
        exact ((Blk.new rfl : Blk (w8.alloc (.cells #[.int .i64 v0, .int .u8 v1, .int .i64 v2, .int .i64 v3, .int .i64 v4, .int .i64 v5, .int .i64 v6] 39)) w8.heap.size 39 #[.int .i64 v0, .int .u8 v1, .int .i64 v2, .int .i64 v3, .int .i64 v4, .int .i64 v5, .int .i64 v6]).cell j).trans (by simpa [evCells] using hu)
      · intro u hu
        simp only [evCells, List.mem_cons, List.not_mem_nil, or_false] at hu
        rcases hu with rfl | rfl | rfl | rfl | rfl | rfl | rfl <;> rfl
      · unfold maxLen; omega
      · omega
      · have := HX8.out; simp; omega
      · intro A9 c9 w9 HO9 hg9 HA9
        have hb8 : Below w8.heap.size w8 (w8.alloc (.cells #[.int .i64 v0, .int .u8 v1, .int .i64 v2, .int .i64 v3, .int .i64 v4, .int .i64 v5, .int .i64 v6] 39)) := below_alloc _
        have hX9 : x6 ≤ (w8.alloc (.cells #[.int .i64 v0, .int .u8 v1, .int .i64 v2, .int .i64 v3, .int .i64 v4, .int .i64 v5, .int .i64 v6] 39)).heap.size := by have := hb8.size; have := HX8.out; omega
        have hbx : Below x6 (w8.alloc (.cells #[.int .i64 v0, .int .u8 v1, .int .i64 v2, .int .i64 v3, .int .i64 v4, .int .i64 v5, .int .i64 v6] 39)) w9 := below_grown (Below.refl x6 _) hg9 (own_onB HO8.out hb8) (Nat.le_refl _) hX9
        have hca := HV8.out.on hb8
        have hgC2 : w2.heap.size < x6 := by omega
        have V9 : LpI w2 N1 M s t ⟨AF, cF, AH, cH, AR, cR, AC, cC, AA, cA, AB, cB⟩ hd rv cp w2.heap.size gQ ⟨AX, cX, AE, cE, AHH, cHH⟩ X E H w9 := ⟨hca.bel.trans (hbx.mono (by omega)), hca.c.below hbx (by omega), hca.p.below hbx (by omega), StIn.grownA hca.st HAP.out hg9, hca.snd⟩
        have P9 : Blk w9 (w2.heap.size + 1) 29 #[.slice AX0 M cX0, .slice AE0 N1 cE0, .slice AH0 N1 cH0] := (HP8.out.below hb8 HP8.out.lt).below hbx (by omega)
        have E9 : Blk w9 gE 39 #[.int .i64 v0, .int .u8 v1, .int .i64 v2, .int .i64 v3, .int .i64 v4, .int .i64 v5, .int .i64 v6] := (HE8.out.below hb8 HE8.out.lt).grown hg9 (fun he => by have := HLO.out gE he.symm; have := HGE8.out; omega)
        have hrow : (Lv ++ [(⟨v0, v1, v2, v3, v4, v5, v6⟩ : EvS)]).flatMap evCells = Lv.flatMap evCells ++ evCells ⟨v0, v1, v2, v3, v4, v5, v6⟩ := by simp [List.flatMap_append]
        have O9 : w9.ownsRow x6 39 7 (.slice A9 (na + 1) c9) (na + 1) ((Lv ++ [(⟨v0, v1, v2, v3, v4, v5, v6⟩ : EvS)]).flatMap evCells) := by rw [hrow]; exact HO9.out
        have hz9 : w8.heap.size < w9.heap.size := by have := hg9.size; simp at this; omega
        have apt9 : Apt M N1 ⟨AX, cX, AE, cE, AHH, cHH⟩ A9 := fun a ea => by
          rcases HA9.out with h | h
          · rw [ea] at h
            cases hAa : Aa with
            | none => rw [hAa] at h; cases h
            | some a' =>
              rw [hAa] at h
              simp only [Value.ownBlock, Option.some.injEq] at h
              rw [h]
              exact HAP.out a' hAa
          · rw [ea] at h
            simp only [Value.ownBlock, Option.some.injEq] at h
            rw [h]
            exact StIn.offLt hca.st (by simp)
        have hlt9 : ∀ a, A9 = some a → a.block < w9.heap.size := fun a ea => (O9.lt a.block (by rw [ea]; rfl)).2
        have HV9 := Lib.hid V9; have HP9 := Lib.hid P9; have HE9 := Lib.hid E9; have HO9' := Lib.hid O9; have HAP9 := Lib.hid apt9; have HLT9 := Lib.hid hlt9
        have HX9 : Hid (x6 ≤ w9.heap.size) := Lib.hid (by have := HX8.out; omega)
        clear hb8 hX9 hbx hca hgC2 V9 P9 E9 hrow O9 hz9 apt9 hlt9 HO9 hg9 HA9 HV8 HP8 HO8 HE8 HLO HGE8 HX8 HAP HI0 HZ0 HZ1 HZ2 e0 e1 e2 e3 e4 e5 e6 ze HXS
        obtain ⟨c0, c1, c2, c3, c4, c5, c6, c7, c8⟩ := HV9.out.c.at9
        obtain ⟨⟨p0, p1, p2⟩, ⟨f0, f1, f2⟩, zp⟩ := HV9.out.p.full3
        have zc := HV9.out.c.lt
        obtain ⟨e0, e1, e2, e3, e4, e5, e6⟩ := HE9.out.at7
        have ze := HE9.out.lt
        go_wp2_with fail
        refine (HMO.out ⟨AX, cX, AE, cE, AHH, cHH⟩ X E H ⟨v0, v1, v2, v3, v4, v5, v6⟩ _ HV9.out.bel HV9.out.st HV9.out.snd).mono ?_
        rintro e wa ⟨Qa, rfl, Ba, sa, qa⟩
        have HVa := Lib.hid (HV9.out.on Ba); have HPa := Lib.hid (HP9.out.below Ba HP9.out.lt); have HEa := Lib.hid (HE9.out.below Ba HE9.out.lt); have HOa := Lib.hid (own_onB HO9'.out Ba); have HSa := Lib.hid sa
        have HAa : Hid (Apt M N1 Qa A9) := Lib.hid (fun a ea => by
          rcases qa with h | h
          · rw [h]; exact HAP9.out a ea
          · exact h.offQ (HLT9.out a ea))
        have HXa : Hid (x6 ≤ wa.heap.size) := Lib.hid (by have := HX9.out; have := Ba.size; omega)
        clear Ba sa qa HV9 HP9 HE9 HO9' HAP9 HLT9 HX9 e0 e1 e2 e3 e4 e5 e6 ze c0 c1 c2 c3 c4 c5 c6 c7 c8 p0 p1 p2 f0 f1 f2 zp zc
        obtain ⟨A4, d4, A5, d5, A6, d6⟩ := Qa
        dsimp only [preW]
        obtain ⟨c0, c1, c2, c3, c4, c5, c6, c7, c8⟩ := HVa.out.c.at9
        obtain ⟨⟨p0, p1, p2⟩, ⟨f0, f1, f2⟩, zp⟩ := HVa.out.p.full3
        have zc := HVa.out.c.lt
        obtain ⟨e0, e1, e2, e3, e4, e5, e6⟩ := HEa.out.at7
        have ze := HEa.out.lt
        go_wp2_with fail
        refine (HTM.out ⟨AX, cX, AE, cE, AHH, cHH⟩ X E H ⟨v0, v1, v2, v3, v4, v5, v6⟩ _ (below_step HVa.out.bel (below_alloc _)) (HVa.out.on (below_alloc _)).st HVa.out.snd).mono ?_
        rintro e wb ⟨Qb, rfl, Bb, sb⟩
        obtain ⟨gN, hgN⟩ : ∃ g, wa.heap.size = g := ⟨_, rfl⟩
        have Bbx := below_step (below_alloc _) Bb
        have NB : Blk wb gN 29 #[.slice A4 M d4, .slice A5 N1 d5, .slice A6 N1 d6] := (Blk.new hgN).below Bb (by simp; omega)
        have hnx := HVa.out.snd.next (fst := fst) HP.out ⟨v0, v1, v2, v3, v4, v5, v6⟩
        obtain ⟨r, hr⟩ : ∃ r, legI N1 s t fst X E H ⟨v0, v1, v2, v3, v4, v5, v6⟩ = r := ⟨_, rfl⟩
        obtain ⟨X', hX'⟩ : ∃ x, nxX N1 s t fst rv X E H ⟨v0, v1, v2, v3, v4, v5, v6⟩ = x := ⟨_, rfl⟩
        obtain ⟨E', hE'⟩ : ∃ x, nxE N1 s t fst hd rv X E H ⟨v0, v1, v2, v3, v4, v5, v6⟩ = x := ⟨_, rfl⟩
        obtain ⟨H', hH'⟩ : ∃ x, nxH N1 s t fst X E H ⟨v0, v1, v2, v3, v4, v5, v6⟩ = x := ⟨_, rfl⟩
        have sa' := HSa.out.on Bbx
        rw [hX', hE', hH'] at sb sa' hnx
        rw [hr]
        have HVb := Lib.hid (HVa.out.on Bbx); have HPb := Lib.hid (HPa.out.below Bbx HPa.out.lt); have HEb := Lib.hid (HEa.out.below Bbx HEa.out.lt); have HOb := Lib.hid (own_onB HOa.out Bbx); have HSb := Lib.hid sb; have HSc := Lib.hid sa'; have HNb := Lib.hid NB; have HNX := Lib.hid hnx; have HRR := Lib.hid hr
        have HXb : Hid (x6 ≤ wb.heap.size) := Lib.hid (by have := HXa.out; have := Bbx.size; omega)
        clear hX' hE' hH' hr sa' sb hnx NB Bb Bbx HVa HPa HEa HOa HSa HXa e0 e1 e2 e3 e4 e5 e6 ze c0 c1 c2 c3 c4 c5 c6 c7 c8 p0 p1 p2 f0 f1 f2 zp zc
        try rw [hgN]
        clear hgN
        obtain ⟨B4, k4, B5, k5, B6, k6⟩ := Qb
        dsimp only [preW]
        go_upto_region 13 with fail
        obtain ⟨gW, hgW⟩ : ∃ g, wb.heap.size = g := ⟨_, rfl⟩
        obtain ⟨wc, hwc⟩ : ∃ W, wb.alloc (.cells #[.slice B4 M k4, .slice B5 N1 k5, .slice B6 N1 k6] 29) = W := ⟨_, rfl⟩
        have bc : Below wb.heap.size wb wc := by rw [← hwc]; exact below_alloc _
        have WC : Blk wc gW 29 #[.slice B4 M k4, .slice B5 N1 k5, .slice B6 N1 k6] := by rw [← hwc]; exact Blk.new hgW
        rw [hwc]
        try rw [hgW]
        have HVc := Lib.hid (HVb.out.on bc); have HPc := Lib.hid (HPb.out.below bc HPb.out.lt); have HEc := Lib.hid (HEb.out.below bc HEb.out.lt); have HOc := Lib.hid (own_onB HOb.out bc); have HSd := Lib.hid (HSb.out.on bc); have HSe := Lib.hid (HSc.out.on bc); have HNc := Lib.hid (HNb.out.below bc HNb.out.lt); have HWc := Lib.hid WC
        have HXc : Hid (x6 ≤ wc.heap.size) := Lib.hid (by have := HXb.out; have := bc.size; omega)
        clear hwc hgW bc WC HVb HPb HEb HOb HSb HSc HNb HXb
        have hsame := fun W (hb : Below wc.heap.size wc W) => HSM.out ⟨A4, d4, A5, d5, A6, d6⟩ ⟨B4, k4, B5, k5, B6, k6⟩ X' E' H' W (HSe.out.on hb) (HSd.out.on hb)
        have hlegl := fun W (hb : Below wc.heap.size wc W) => HLE.out ⟨AX, cX, AE, cE, AHH, cHH⟩ X E H ⟨v0, v1, v2, v3, v4, v5, v6⟩ W (HVc.out.on hb).bel (HVc.out.on hb).st
        have hstr1 := fun W (hb : Below wc.heap.size wc W) => HST.out ⟨AX, cX, AE, cE, AHH, cHH⟩ X E H ⟨v0, v1, v2, v3, v4, v5, v6⟩ W (HVc.out.on hb).bel (HVc.out.on hb).st HVc.out.snd
        have hstr2 := fun W (hb : Below wc.heap.size wc W) => HTS.out ⟨AX, cX, AE, cE, AHH, cHH⟩ X E H ⟨v0, v1, v2, v3, v4, v5, v6⟩ W (HVc.out.on hb).bel (HVc.out.on hb).st HVc.out.snd
        have hrgt1 := fun W (hb : Below wc.heap.size wc W) => HRT.out ⟨A4, d4, A5, d5, A6, d6⟩ X' E' H' W (HVc.out.on hb).bel (HSe.out.on hb) HNX.out
        have hrgt2 := fun W (hb : Below wc.heap.size wc W) => HTG.out ⟨A4, d4, A5, d5, A6, d6⟩ X' E' H' W (HVc.out.on hb).bel (HSe.out.on hb) HNX.out
        simp only [HRR.out] at hlegl
        obtain ⟨sb, hsb⟩ : ∃ sb, strB N1 s t fst hd X E H ⟨v0, v1, v2, v3, v4, v5, v6⟩ = sb := ⟨_, rfl⟩
        simp only [hsb] at hstr1 hstr2
        have HSAME := Lib.hid hsame; have HLEGL := Lib.hid hlegl; have HSTR1 := Lib.hid hstr1; have HSTR2 := Lib.hid hstr2; have HRGT1 := Lib.hid hrgt1; have HRGT2 := Lib.hid hrgt2
        clear hsame hlegl hstr1 hstr2 hrgt1 hrgt2 hsb
        have hkeep : ∀ W', Below wc.heap.size wc W' → Below wc.heap.size wc W' ∧ W'.cell? ⟨w2.heap.size, 0, none⟩ = some (.int .i64 (N1 : Int)) ∧ W'.cell? ⟨w2.heap.size, 1, none⟩ = some (.int .i64 (s : Int)) ∧ W'.cell? ⟨w2.heap.size, 2, none⟩ = some (.int .i64 (t : Int)) ∧ W'.cell? ⟨w2.heap.size, 3, none⟩ = some (.slice AF (N1 + 1) cF) ∧ W'.cell? ⟨w2.heap.size, 4, none⟩ = some (.slice AH M cH) ∧ W'.cell? ⟨w2.heap.size, 5, none⟩ = some (.slice AR M cR) ∧ W'.cell? ⟨w2.heap.size, 6, none⟩ = some (.slice AC M cC) ∧ W'.cell? ⟨w2.heap.size, 7, none⟩ = some (.slice AA M cA) ∧ W'.cell? ⟨w2.heap.size, 8, none⟩ = some (.slice AB M cB) ∧ W'.cell? ⟨gQ, 0, none⟩ = some (.slice AX M cX) ∧ W'.cell? ⟨gQ, 1, none⟩ = some (.slice AE N1 cE) ∧ W'.cell? ⟨gQ, 2, none⟩ = some (.slice AHH N1 cHH) ∧ W'.cell? ⟨gE, 0, none⟩ = some (.int .i64 v0) ∧ W'.cell? ⟨gE, 1, none⟩ = some (.int .u8 v1) ∧ W'.cell? ⟨gE, 2, none⟩ = some (.int .i64 v2) ∧ W'.cell? ⟨gE, 3, none⟩ = some (.int .i64 v3) ∧ W'.cell? ⟨gE, 4, none⟩ = some (.int .i64 v4) ∧ W'.cell? ⟨gE, 5, none⟩ = some (.int .i64 v5) ∧ W'.cell? ⟨gE, 6, none⟩ = some (.int .i64 v6) ∧ W'.cell? ⟨gN, 0, none⟩ = some (.slice A4 M d4) ∧ W'.cell? ⟨gN, 1, none⟩ = some (.slice A5 N1 d5) ∧ W'.cell? ⟨gN, 2, none⟩ = some (.slice A6 N1 d6) ∧ W'.cell? ⟨gW, 0, none⟩ = some (.slice B4 M k4) ∧ W'.cell? ⟨gW, 1, none⟩ = some (.slice B5 N1 k5) ∧ W'.cell? ⟨gW, 2, none⟩ = some (.slice B6 N1 k6) := fun W' hb => by
          obtain ⟨c0, c1, c2, c3, c4, c5, c6, c7, c8⟩ := (HVc.out.c.below hb HVc.out.c.lt).at9
          obtain ⟨⟨p0, p1, p2⟩, -, -⟩ := (HVc.out.p.below hb HVc.out.p.lt).full3
          obtain ⟨e0, e1, e2, e3, e4, e5, e6⟩ := (HEc.out.below hb HEc.out.lt).at7
          obtain ⟨⟨n0, n1, n2⟩, -, -⟩ := (HNc.out.below hb HNc.out.lt).full3
          obtain ⟨⟨m0, m1, m2⟩, -, -⟩ := (HWc.out.below hb HWc.out.lt).full3
          exact ⟨hb, c0, c1, c2, c3, c4, c5, c6, c7, c8, p0, p1, p2, e0, e1, e2, e3, e4, e5, e6, n0, n1, n2, m0, m1, m2⟩
        have HKEEP := Lib.hid hkeep
        clear hkeep
        refine wp_region_held_drew (S := fun W' => Below wc.heap.size wc W' ∧ W'.cell? ⟨w2.heap.size, 0, none⟩ = some (.int .i64 (N1 : Int)) ∧ W'.cell? ⟨w2.heap.size, 1, none⟩ = some (.int .i64 (s : Int)) ∧ W'.cell? ⟨w2.heap.size, 2, none⟩ = some (.int .i64 (t : Int)) ∧ W'.cell? ⟨w2.heap.size, 3, none⟩ = some (.slice AF (N1 + 1) cF) ∧ W'.cell? ⟨w2.heap.size, 4, none⟩ = some (.slice AH M cH) ∧ W'.cell? ⟨w2.heap.size, 5, none⟩ = some (.slice AR M cR) ∧ W'.cell? ⟨w2.heap.size, 6, none⟩ = some (.slice AC M cC) ∧ W'.cell? ⟨w2.heap.size, 7, none⟩ = some (.slice AA M cA) ∧ W'.cell? ⟨w2.heap.size, 8, none⟩ = some (.slice AB M cB) ∧ W'.cell? ⟨gQ, 0, none⟩ = some (.slice AX M cX) ∧ W'.cell? ⟨gQ, 1, none⟩ = some (.slice AE N1 cE) ∧ W'.cell? ⟨gQ, 2, none⟩ = some (.slice AHH N1 cHH) ∧ W'.cell? ⟨gE, 0, none⟩ = some (.int .i64 v0) ∧ W'.cell? ⟨gE, 1, none⟩ = some (.int .u8 v1) ∧ W'.cell? ⟨gE, 2, none⟩ = some (.int .i64 v2) ∧ W'.cell? ⟨gE, 3, none⟩ = some (.int .i64 v3) ∧ W'.cell? ⟨gE, 4, none⟩ = some (.int .i64 v4) ∧ W'.cell? ⟨gE, 5, none⟩ = some (.int .i64 v5) ∧ W'.cell? ⟨gE, 6, none⟩ = some (.int .i64 v6) ∧ W'.cell? ⟨gN, 0, none⟩ = some (.slice A4 M d4) ∧ W'.cell? ⟨gN, 1, none⟩ = some (.slice A5 N1 d5) ∧ W'.cell? ⟨gN, 2, none⟩ = some (.slice A6 N1 d6) ∧ W'.cell? ⟨gW, 0, none⟩ = some (.slice B4 M k4) ∧ W'.cell? ⟨gW, 1, none⟩ = some (.slice B5 N1 k5) ∧ W'.cell? ⟨gW, 2, none⟩ = some (.slice B6 N1 k6)) (by kernel_rfl) (HKEEP.out _ (Below.refl _ _).drew) (fun hS0 => ?_)
        refine tk (v := ?_) 0 70 rfl ?_ ?_
        rotate_left
        · (intro W hSw; obtain ⟨-, c0, c1, c2, c3, c4, c5, c6, c7, c8, p0, p1, p2, e0, e1, e2, e3, e4, e5, e6, n0, n1, n2, m0, m1, m2⟩ := hSw; go_simp; try with_reducible rfl)
        simp only [Act.put, pa, pz, ps]
        refine tk (v := ?_) 1 71 rfl ?_ ?_
        rotate_left
        · (intro W hSw; obtain ⟨-, c0, c1, c2, c3, c4, c5, c6, c7, c8, p0, p1, p2, e0, e1, e2, e3, e4, e5, e6, n0, n1, n2, m0, m1, m2⟩ := hSw; go_simp; try with_reducible rfl)
        simp only [Act.put, pa, pz, ps]
        refine tk (v := ?_) 2 72 rfl ?_ ?_
        rotate_left
        · (intro W hSw; obtain ⟨-, c0, c1, c2, c3, c4, c5, c6, c7, c8, p0, p1, p2, e0, e1, e2, e3, e4, e5, e6, n0, n1, n2, m0, m1, m2⟩ := hSw; go_simp; try with_reducible rfl)
        simp only [Act.put, pa, pz, ps]
        refine tk (v := ?_) 3 73 rfl ?_ ?_
        rotate_left
        · (intro W hSw; obtain ⟨-, c0, c1, c2, c3, c4, c5, c6, c7, c8, p0, p1, p2, e0, e1, e2, e3, e4, e5, e6, n0, n1, n2, m0, m1, m2⟩ := hSw; go_simp; try with_reducible rfl)
        simp only [Act.put, pa, pz, ps]
        first
          | (refine tk (v := ?_) 4 74 rfl ?_ ?_
             rotate_left
             · (intro W hSw; obtain ⟨-, c0, c1, c2, c3, c4, c5, c6, c7, c8, p0, p1, p2, e0, e1, e2, e3, e4, e5, e6, n0, n1, n2, m0, m1, m2⟩ := hSw; go_simp; try with_reducible rfl))
          | (refine tu 4 74 rfl ?_)
        simp only [Act.put, pa, pz, ps]
        first
          | (refine tk (v := ?_) 5 75 rfl ?_ ?_
             rotate_left
             · (intro W hSw; obtain ⟨-, c0, c1, c2, c3, c4, c5, c6, c7, c8, p0, p1, p2, e0, e1, e2, e3, e4, e5, e6, n0, n1, n2, m0, m1, m2⟩ := hSw; go_simp; try with_reducible rfl))
          | (refine tu 5 75 rfl ?_)
        simp only [Act.put, pa, pz, ps]
        refine wpAnyH_ready (rs := [6]) (by kernel_rfl) (by simp) ?_
        refine AllReadyH.cons rfl (fun K hK => ?_) AllReadyH.nil
        go_simp
        first
          | ((go_at_call 15; ((with_reducible refine (HSAME.out _ (by first | exact hS35.1 | exact hS32.1 | exact hS26.1 | exact hS22.1 | exact hS14.1 | exact hS7.1 | exact hS0.1)).mono ?_); rintro e W8 ⟨rfl, B8⟩)); refine hK.out _ _ (HKEEP.out _ (by first | exact below_step hS35.1 B8 | exact below_step hS32.1 B8 | exact below_step hS26.1 B8 | exact below_step hS22.1 B8 | exact below_step hS14.1 B8 | exact below_step hS7.1 B8 | exact below_step hS0.1 B8)) (fun hS7 => ?_))
          | (refine hK.out _ _ (by assumption) (fun hS7 => ?_))
        clear hK K
        try simp only [Act.put, pa, pz, ps]
        first
          | (refine tk (v := ?_) 7 77 rfl ?_ ?_
             rotate_left
             · (intro W hSw; obtain ⟨-, c0, c1, c2, c3, c4, c5, c6, c7, c8, p0, p1, p2, e0, e1, e2, e3, e4, e5, e6, n0, n1, n2, m0, m1, m2⟩ := hSw; go_simp; try with_reducible rfl))
          | (refine tu 7 77 rfl ?_)
        simp only [Act.put, pa, pz, ps]
        refine tk (v := ?_) 8 78 rfl ?_ ?_
        rotate_left
        · (intro W hSw; obtain ⟨-, c0, c1, c2, c3, c4, c5, c6, c7, c8, p0, p1, p2, e0, e1, e2, e3, e4, e5, e6, n0, n1, n2, m0, m1, m2⟩ := hSw; go_simp; try with_reducible rfl)
        simp only [Act.put, pa, pz, ps]
        refine tk (v := ?_) 9 79 rfl ?_ ?_
        rotate_left
        · (intro W hSw; obtain ⟨-, c0, c1, c2, c3, c4, c5, c6, c7, c8, p0, p1, p2, e0, e1, e2, e3, e4, e5, e6, n0, n1, n2, m0, m1, m2⟩ := hSw; go_simp; try with_reducible rfl)
        simp only [Act.put, pa, pz, ps]
        first
          | (refine tk (v := ?_) 10 80 rfl ?_ ?_
             rotate_left
             · (intro W hSw; obtain ⟨-, c0, c1, c2, c3, c4, c5, c6, c7, c8, p0, p1, p2, e0, e1, e2, e3, e4, e5, e6, n0, n1, n2, m0, m1, m2⟩ := hSw; go_simp; try with_reducible rfl))
          | (refine tu 10 80 rfl ?_)
        simp only [Act.put, pa, pz, ps]
        first
          | (refine tk (v := ?_) 11 81 rfl ?_ ?_
             rotate_left
             · (intro W hSw; obtain ⟨-, c0, c1, c2, c3, c4, c5, c6, c7, c8, p0, p1, p2, e0, e1, e2, e3, e4, e5, e6, n0, n1, n2, m0, m1, m2⟩ := hSw; go_simp; try with_reducible rfl))
          | (refine tu 11 81 rfl ?_)
        simp only [Act.put, pa, pz, ps]
        first
          | (refine tk (v := ?_) 12 82 rfl ?_ ?_
             rotate_left
             · (intro W hSw; obtain ⟨-, c0, c1, c2, c3, c4, c5, c6, c7, c8, p0, p1, p2, e0, e1, e2, e3, e4, e5, e6, n0, n1, n2, m0, m1, m2⟩ := hSw; go_simp; try with_reducible rfl))
          | (refine tu 12 82 rfl ?_)
        simp only [Act.put, pa, pz, ps]
        first
          | (refine tk (v := ?_) 14 84 rfl ?_ ?_
             rotate_left
             · (intro W hSw; obtain ⟨-, c0, c1, c2, c3, c4, c5, c6, c7, c8, p0, p1, p2, e0, e1, e2, e3, e4, e5, e6, n0, n1, n2, m0, m1, m2⟩ := hSw; go_simp; try with_reducible rfl))
          | (refine tu 14 84 rfl ?_)
        simp only [Act.put, pa, pz, ps]
        refine wpAnyH_ready (rs := [13]) (by kernel_rfl) (by simp) ?_
        refine AllReadyH.cons rfl (fun K hK => ?_) AllReadyH.nil
        go_simp
        first
          | ((go_at_call 16; ((with_reducible refine (HLEGL.out _ (by first | exact hS35.1 | exact hS32.1 | exact hS26.1 | exact hS22.1 | exact hS14.1 | exact hS7.1 | exact hS0.1)).mono ?_); rintro e W8 ⟨rfl, B8⟩)); refine hK.out _ _ (HKEEP.out _ (by first | exact below_step hS35.1 B8 | exact below_step hS32.1 B8 | exact below_step hS26.1 B8 | exact below_step hS22.1 B8 | exact below_step hS14.1 B8 | exact below_step hS7.1 B8 | exact below_step hS0.1 B8)) (fun hS14 => ?_))
          | (refine hK.out _ _ (by assumption) (fun hS14 => ?_))
        clear hK K
        try simp only [Act.put, pa, pz, ps]
        first
          | (refine tk (v := ?_) 15 85 rfl ?_ ?_
             rotate_left
             · (intro W hSw; obtain ⟨-, c0, c1, c2, c3, c4, c5, c6, c7, c8, p0, p1, p2, e0, e1, e2, e3, e4, e5, e6, n0, n1, n2, m0, m1, m2⟩ := hSw; go_simp; try with_reducible rfl))
          | (refine tu 15 85 rfl ?_)
        simp only [Act.put, pa, pz, ps]
        refine tk (v := ?_) 16 86 rfl ?_ ?_
        rotate_left
        · (intro W hSw; obtain ⟨-, c0, c1, c2, c3, c4, c5, c6, c7, c8, p0, p1, p2, e0, e1, e2, e3, e4, e5, e6, n0, n1, n2, m0, m1, m2⟩ := hSw; go_simp; try with_reducible rfl)
        simp only [Act.put, pa, pz, ps]
        refine tk (v := ?_) 17 87 rfl ?_ ?_
        rotate_left
        · (intro W hSw; obtain ⟨-, c0, c1, c2, c3, c4, c5, c6, c7, c8, p0, p1, p2, e0, e1, e2, e3, e4, e5, e6, n0, n1, n2, m0, m1, m2⟩ := hSw; go_simp; try with_reducible rfl)
        simp only [Act.put, pa, pz, ps]
        first
          | (refine tk (v := ?_) 18 88 rfl ?_ ?_
             rotate_left
             · (intro W hSw; obtain ⟨-, c0, c1, c2, c3, c4, c5, c6, c7, c8, p0, p1, p2, e0, e1, e2, e3, e4, e5, e6, n0, n1, n2, m0, m1, m2⟩ := hSw; go_simp; try with_reducible rfl))
          | (refine tu 18 88 rfl ?_)
        simp only [Act.put, pa, pz, ps]
        first
          | (refine tk (v := ?_) 19 89 rfl ?_ ?_
             rotate_left
             · (intro W hSw; obtain ⟨-, c0, c1, c2, c3, c4, c5, c6, c7, c8, p0, p1, p2, e0, e1, e2, e3, e4, e5, e6, n0, n1, n2, m0, m1, m2⟩ := hSw; go_simp; try with_reducible rfl))
          | (refine tu 19 89 rfl ?_)
        simp only [Act.put, pa, pz, ps]
        first
          | (refine tk (v := ?_) 20 90 rfl ?_ ?_
             rotate_left
             · (intro W hSw; obtain ⟨-, c0, c1, c2, c3, c4, c5, c6, c7, c8, p0, p1, p2, e0, e1, e2, e3, e4, e5, e6, n0, n1, n2, m0, m1, m2⟩ := hSw; go_simp; try with_reducible rfl))
          | (refine tu 20 90 rfl ?_)
        simp only [Act.put, pa, pz, ps]
        first
          | (refine tk (v := ?_) 22 92 rfl ?_ ?_
             rotate_left
             · (intro W hSw; obtain ⟨-, c0, c1, c2, c3, c4, c5, c6, c7, c8, p0, p1, p2, e0, e1, e2, e3, e4, e5, e6, n0, n1, n2, m0, m1, m2⟩ := hSw; go_simp; try with_reducible rfl))
          | (refine tu 22 92 rfl ?_)
        simp only [Act.put, pa, pz, ps]
        first
          | (refine tk (v := ?_) 23 93 rfl ?_ ?_
             rotate_left
             · (intro W hSw; obtain ⟨-, c0, c1, c2, c3, c4, c5, c6, c7, c8, p0, p1, p2, e0, e1, e2, e3, e4, e5, e6, n0, n1, n2, m0, m1, m2⟩ := hSw; go_simp; try with_reducible rfl))
          | (refine tu 23 93 rfl ?_)
        simp only [Act.put, pa, pz, ps]
        first
          | (refine tk (v := ?_) 24 94 rfl ?_ ?_
             rotate_left
             · (intro W hSw; obtain ⟨-, c0, c1, c2, c3, c4, c5, c6, c7, c8, p0, p1, p2, e0, e1, e2, e3, e4, e5, e6, n0, n1, n2, m0, m1, m2⟩ := hSw; go_simp; try with_reducible rfl))
          | (refine tu 24 94 rfl ?_)
        simp only [Act.put, pa, pz, ps]
        refine wpAnyH_ready (rs := [21]) (by kernel_rfl) (by simp) ?_
        refine AllReadyH.cons rfl (fun K hK => ?_) AllReadyH.nil
        go_simp
        first
          | ((go_at_call 17; ((with_reducible refine (HSTR1.out _ (by first | exact hS35.1 | exact hS32.1 | exact hS26.1 | exact hS22.1 | exact hS14.1 | exact hS7.1 | exact hS0.1)).mono ?_); rintro e W8 ⟨rfl, B8⟩)); refine hK.out _ _ (HKEEP.out _ (by first | exact below_step hS35.1 B8 | exact below_step hS32.1 B8 | exact below_step hS26.1 B8 | exact below_step hS22.1 B8 | exact below_step hS14.1 B8 | exact below_step hS7.1 B8 | exact below_step hS0.1 B8)) (fun hS22 => ?_))
          | (refine hK.out _ _ (by assumption) (fun hS22 => ?_))
        clear hK K
        try simp only [Act.put, pa, pz, ps]
        refine wpAnyH_ready (rs := [25]) (by kernel_rfl) (by simp) ?_
        refine AllReadyH.cons rfl (fun K hK => ?_) AllReadyH.nil
        go_simp
        first
          | ((go_at_call 18; ((with_reducible refine (HSTR2.out _ (by first | exact hS35.1 | exact hS32.1 | exact hS26.1 | exact hS22.1 | exact hS14.1 | exact hS7.1 | exact hS0.1)).mono ?_); rintro e W8 ⟨rfl, B8⟩)); refine hK.out _ _ (HKEEP.out _ (by first | exact below_step hS35.1 B8 | exact below_step hS32.1 B8 | exact below_step hS26.1 B8 | exact below_step hS22.1 B8 | exact below_step hS14.1 B8 | exact below_step hS7.1 B8 | exact below_step hS0.1 B8)) (fun hS26 => ?_))
          | (refine hK.out _ _ (by assumption) (fun hS26 => ?_))
        clear hK K
        try simp only [Act.put, pa, pz, ps]
        first
          | (refine tk (v := ?_) 26 96 rfl ?_ ?_
             rotate_left
             · (intro W hSw; obtain ⟨-, c0, c1, c2, c3, c4, c5, c6, c7, c8, p0, p1, p2, e0, e1, e2, e3, e4, e5, e6, n0, n1, n2, m0, m1, m2⟩ := hSw; go_simp; try with_reducible rfl))
          | (refine tu 26 96 rfl ?_)
        simp only [Act.put, pa, pz, ps]
        refine tk (v := ?_) 27 97 rfl ?_ ?_
        rotate_left
        · (intro W hSw; obtain ⟨-, c0, c1, c2, c3, c4, c5, c6, c7, c8, p0, p1, p2, e0, e1, e2, e3, e4, e5, e6, n0, n1, n2, m0, m1, m2⟩ := hSw; go_simp; try with_reducible rfl)
        simp only [Act.put, pa, pz, ps]
        refine tk (v := ?_) 28 98 rfl ?_ ?_
        rotate_left
        · (intro W hSw; obtain ⟨-, c0, c1, c2, c3, c4, c5, c6, c7, c8, p0, p1, p2, e0, e1, e2, e3, e4, e5, e6, n0, n1, n2, m0, m1, m2⟩ := hSw; go_simp; try with_reducible rfl)
        simp only [Act.put, pa, pz, ps]
        first
          | (refine tk (v := ?_) 29 99 rfl ?_ ?_
             rotate_left
             · (intro W hSw; obtain ⟨-, c0, c1, c2, c3, c4, c5, c6, c7, c8, p0, p1, p2, e0, e1, e2, e3, e4, e5, e6, n0, n1, n2, m0, m1, m2⟩ := hSw; go_simp; try with_reducible rfl))
          | (refine tu 29 99 rfl ?_)
        simp only [Act.put, pa, pz, ps]
        first
          | (refine tk (v := ?_) 30 100 rfl ?_ ?_
             rotate_left
             · (intro W hSw; obtain ⟨-, c0, c1, c2, c3, c4, c5, c6, c7, c8, p0, p1, p2, e0, e1, e2, e3, e4, e5, e6, n0, n1, n2, m0, m1, m2⟩ := hSw; go_simp; try with_reducible rfl))
          | (refine tu 30 100 rfl ?_)
        simp only [Act.put, pa, pz, ps]
        first
          | (refine tk (v := ?_) 32 102 rfl ?_ ?_
             rotate_left
             · (intro W hSw; obtain ⟨-, c0, c1, c2, c3, c4, c5, c6, c7, c8, p0, p1, p2, e0, e1, e2, e3, e4, e5, e6, n0, n1, n2, m0, m1, m2⟩ := hSw; go_simp; try with_reducible rfl))
          | (refine tu 32 102 rfl ?_)
        simp only [Act.put, pa, pz, ps]
        first
          | (refine tk (v := ?_) 33 103 rfl ?_ ?_
             rotate_left
             · (intro W hSw; obtain ⟨-, c0, c1, c2, c3, c4, c5, c6, c7, c8, p0, p1, p2, e0, e1, e2, e3, e4, e5, e6, n0, n1, n2, m0, m1, m2⟩ := hSw; go_simp; try with_reducible rfl))
          | (refine tu 33 103 rfl ?_)
        simp only [Act.put, pa, pz, ps]
        refine wpAnyH_ready (rs := [31]) (by kernel_rfl) (by simp) ?_
        refine AllReadyH.cons rfl (fun K hK => ?_) AllReadyH.nil
        go_simp
        first
          | ((go_at_call 10; ((with_reducible refine (HRGT1.out _ (by first | exact hS35.1 | exact hS32.1 | exact hS26.1 | exact hS22.1 | exact hS14.1 | exact hS7.1 | exact hS0.1)).mono ?_); rintro e W8 ⟨rfl, B8⟩)); refine hK.out _ _ (HKEEP.out _ (by first | exact below_step hS35.1 B8 | exact below_step hS32.1 B8 | exact below_step hS26.1 B8 | exact below_step hS22.1 B8 | exact below_step hS14.1 B8 | exact below_step hS7.1 B8 | exact below_step hS0.1 B8)) (fun hS32 => ?_))
          | (refine hK.out _ _ (by assumption) (fun hS32 => ?_))
        clear hK K
        try simp only [Act.put, pa, pz, ps]
        refine wpAnyH_ready (rs := [34]) (by kernel_rfl) (by simp) ?_
        refine AllReadyH.cons rfl (fun K hK => ?_) AllReadyH.nil
        go_simp
        first
          | ((go_at_call 11; ((with_reducible refine (HRGT2.out _ (by first | exact hS35.1 | exact hS32.1 | exact hS26.1 | exact hS22.1 | exact hS14.1 | exact hS7.1 | exact hS0.1)).mono ?_); rintro e W8 ⟨rfl, B8⟩)); refine hK.out _ _ (HKEEP.out _ (by first | exact below_step hS35.1 B8 | exact below_step hS32.1 B8 | exact below_step hS26.1 B8 | exact below_step hS22.1 B8 | exact below_step hS14.1 B8 | exact below_step hS7.1 B8 | exact below_step hS0.1 B8)) (fun hS35 => ?_))
          | (refine hK.out _ _ (by assumption) (fun hS35 => ?_))
        clear hK K
        try simp only [Act.put, pa, pz, ps]
        first
          | (refine tk (v := ?_) 35 105 rfl ?_ ?_
             rotate_left
             · (intro W hSw; obtain ⟨-, c0, c1, c2, c3, c4, c5, c6, c7, c8, p0, p1, p2, e0, e1, e2, e3, e4, e5, e6, n0, n1, n2, m0, m1, m2⟩ := hSw; go_simp; try with_reducible rfl))
          | (refine tu 35 105 rfl ?_)
        simp only [Act.put, pa, pz, ps]
        refine tk (v := ?_) 36 106 rfl ?_ ?_
        rotate_left
        · (intro W hSw; obtain ⟨-, c0, c1, c2, c3, c4, c5, c6, c7, c8, p0, p1, p2, e0, e1, e2, e3, e4, e5, e6, n0, n1, n2, m0, m1, m2⟩ := hSw; go_simp; try with_reducible rfl)
        simp only [Act.put, pa, pz, ps]
        refine wpAnyH_done (by kernel_rfl) ?_ _
        obtain ⟨wd, hwd⟩ : ∃ W, W8 = W := ⟨_, rfl⟩
        have bd : Below wc.heap.size wc W8 := (by first | exact hS35.1 | exact hS32.1 | exact hS26.1 | exact hS22.1 | exact hS14.1 | exact hS7.1 | exact hS0.1)
        have HVd := Lib.hid (HVc.out.on bd); have HPd := Lib.hid (HPc.out.below bd HPc.out.lt); have HOd := Lib.hid (own_onB HOc.out bd); have HSf := Lib.hid (HSe.out.on bd); have HNd := Lib.hid (HNc.out.below bd HNc.out.lt)
        have HXd : Hid (x6 ≤ W8.heap.size) := Lib.hid (by have := HXc.out; have := bd.size; omega)
        clear bd hwd HVc HPc HEc HOc HSd HSe HNc HWc HXc HSAME HLEGL HSTR1 HSTR2 HRGT1 HRGT2 HKEEP
        obtain ⟨⟨p0, p1, p2⟩, ⟨f0, f1, f2⟩, zp⟩ := HVd.out.p.full3
        obtain ⟨⟨n0, n1, n2⟩, -, zn⟩ := HNd.out.full3
        have R8 := Lib.hid (HVd.out.put (Q' := ⟨A4, d4, A5, d5, A6, d6⟩) (by omega) (by omega) HSf.out HNX.out)
        have R9 := Lib.hid (HPd.out.far3 (g := gQ) (x := .slice A4 M d4) (y := .slice A5 N1 d5) (z := .slice A6 N1 d6) (by omega))
        have R10 := Lib.hid (own_off3 (x := .slice A4 M d4) (y := .slice A5 N1 d5) (z := .slice A6 N1 d6) HOd.out hgx)
        go_wp2_with fail
        go_roundw
        case rel => exact ⟨na + 1, ⟨A4, d4, A5, d5, A6, d6⟩, X', E', H', A9, na + 1, c9, Lv ++ [⟨v0, v1, v2, v3, v4, v5, v6⟩], by omega, by go_num, rfl, R8.out, R9.out, R10.out, by rw [List.length_append, HLV.out]; rfl, rfl, HAa.out, by have := HXd.out; simpa using this⟩
        case measure => simp [intOf]; omega
    · skip
      have hnq : na = q := by omega
      have HV := Lib.hid V; have HPB := Lib.hid PB
      have HEV := Lib.hid (show Evs wr wr.heap.size Aa na Lv from RdBy.of_own hlv (fun a _ => rfl) OB)
      clear V PB OB hap hlv hxs hnq
      have hru := fun W (hb : Below wr.heap.size wr W) => rrun_is N1 M s t na ca ⟨AF, cF, AH, cH, AR, cR, AC, cC, AA, cA, AB, cB⟩ ⟨AX0, cX0, AE0, cE0, AH0, cH0⟩ Aa Lv fst hd rv ai cp bk X0 E0 H0 W HP.out ((HI.out.below (below_step HV.out.bel hb)).more (below_step HV.out.bel hb).size).gi (HQ.out.on (below_step HV.out.bel hb)) HS.out ((HEV.out.below hb).more hb.size) (by omega)
      have htu := fun W (hb : Below wr.heap.size wr W) => trun_is N1 M s t na ca ⟨AF, cF, AH, cH, AR, cR, AC, cC, AA, cA, AB, cB⟩ ⟨AX0, cX0, AE0, cE0, AH0, cH0⟩ Aa Lv fst hd rv ai cp bk X0 E0 H0 W HP.out ((HI.out.below (below_step HV.out.bel hb)).more (below_step HV.out.bel hb).size).gi (HQ.out.on (below_step HV.out.bel hb)) HS.out ((HEV.out.below hb).more hb.size) (by omega)
      obtain ⟨R, hR⟩ : ∃ R, runTo N1 s t fst hd rv Lv X0 E0 H0 = R := ⟨_, rfl⟩
      rw [hR] at hru htu
      have HRU := Lib.hid hru; have HTU := Lib.hid htu
      clear hru htu hR
      dsimp only [csrW, preW] at HRU HTU
      obtain ⟨c0, c1, c2, c3, c4, c5, c6, c7, c8⟩ := HV.out.c.at9
      have zc := HV.out.c.lt
      obtain ⟨⟨p0, p1, p2⟩, -, zp⟩ := HPB.out.full3
      go_wp2_with fail
      refine (HRU.out _ (Below.refl _ _)).mono ?_
      rintro e wa ⟨⟨A4, d4, A5, d5, A6, d6⟩, rfl, Ba, sa⟩
      have HBa := Lib.hid Ba; have HSa := Lib.hid sa
      have HVa := Lib.hid (HV.out.on Ba); have HPa := Lib.hid (HPB.out.below Ba HPB.out.lt)
      clear Ba sa c0 c1 c2 c3 c4 c5 c6 c7 c8 zc p0 p1 p2 zp
      dsimp only [preW]
      obtain ⟨c0, c1, c2, c3, c4, c5, c6, c7, c8⟩ := HVa.out.c.at9
      have zc := HVa.out.c.lt
      obtain ⟨⟨p0, p1, p2⟩, -, zp⟩ := HPa.out.full3
      go_wp2_with fail
      refine (HTU.out _ (below_step HBa.out (below_alloc _))).mono ?_
      rintro e wb ⟨⟨B4, k4, B5, k5, B6, k6⟩, rfl, Bb, sb⟩
      have Bbx := below_step (below_alloc _) Bb
      have NB : Blk wb wa.heap.size 29 #[.slice A4 M d4, .slice A5 N1 d5, .slice A6 N1 d6] := (Blk.new rfl).below Bb (by simp)
      have HNb := Lib.hid NB; have HSb := Lib.hid sb; have HSc := Lib.hid (HSa.out.on Bbx); have HBb := Lib.hid (below_step HBa.out Bbx)
      clear NB sb Bb Bbx c0 c1 c2 c3 c4 c5 c6 c7 c8 zc p0 p1 p2 zp HSa HBa HVa HPa
      dsimp only [preW]
      obtain ⟨⟨n0, n1, n2⟩, -, zn⟩ := HNb.out.full3
      go_wp2_with fail
      refine (HSM.out ⟨A4, d4, A5, d5, A6, d6⟩ ⟨B4, k4, B5, k5, B6, k6⟩ R.X R.E R.H _ (HSc.out.on (below_alloc _)) (HSb.out.on (below_alloc _))).mono ?_
      rintro e wc ⟨rfl, Bc⟩
      have BF1 := Lib.hid (below_step HBb.out (below_step (below_alloc _) Bc))
      clear Bc n0 n1 n2 zn
      obtain ⟨rn, hrn⟩ : ∃ x : Int, (R.n : Int) = x := ⟨_, rfl⟩
      obtain ⟨rw_, hrw⟩ : ∃ x : Int, R.why = x := ⟨_, rfl⟩
      rw [hrn, hrw]
      clear hrn hrw
      go_wp2_with fail
      refine (awake9_is _).mono ?_
      rintro e w9 ⟨rfl, B9⟩
      have BF := below_step (below_step (below_step HB.out HV.out.bel) BF1.out) B9
      clear B9
      go_wp2_with fail
      go_ret
      exact ⟨rfl, BF⟩
end Go.Proofs.Ytanifbofjecpmaa
