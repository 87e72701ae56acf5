/- Layer 7: Play, whatever is asked of each state. -/
import Derived.Test.YtgjokddcaadjdaaPlap
import Derived.Test.YtgjokddcaadjdaaBego
import Derived.Test.YtgjokddcaadjdaaOpen3
namespace Go.Proofs.Ytgjokddcaadjdaa
open Go.RowKit Go.Shelf
set_option maxRecDepth 100000
attribute [local go_sem] Oper.semAt_some

/-- What is written to lies where sp says; nothing below b0 was touched. -/
structure Kpz (sp : Nat → Prop) (b0 : Nat) (W W' : World) : Prop where
  kps : Kps (fun k _ => ¬ sp k) W W'
  bel : Below b0 W W'
section
variable {sp : Nat → Prop} {b0 : Nat} {W W' W'' : World}
theorem Kpz.refl : Kpz sp b0 W W := ⟨Kps.refl, Below.refl _ _⟩
theorem Kpz.trans (h : Kpz sp b0 W W') (k : Kpz sp b0 W' W'') : Kpz sp b0 W W'' := ⟨h.kps.trans k.kps, h.bel.trans k.bel⟩
theorem Kpz.all (h : Below W.heap.size W W') (hb : b0 ≤ W.heap.size) : Kpz sp b0 W W' := ⟨Kps.all h, h.mono hb⟩
theorem Kpz.put3 {w : World} {g : Nat} {x y v : Value} (h : Kpz sp b0 w W) (hz : w.heap.size ≤ g) (hb : b0 ≤ g) : Kpz sp b0 w (Proofs.Ytgjokddcaadjdaa.put3 W g x y v) := by
  refine ⟨⟨by have := h.kps.size; simp; omega, fun k o hk hp => ?_⟩, below_put3 h.bel hb⟩
  have hkl := (Array.getElem?_eq_some_iff.1 hk).1
  have hne : k ≠ g := by omega
  have := h.kps.same k o hk hp
  exact (Below.heap_setCell _ ⟨g, 2, none⟩ v k hne).trans ((Below.heap_setCell _ ⟨g, 1, none⟩ y k hne).trans ((Below.heap_setCell _ ⟨g, 0, none⟩ x k hne).trans this))
theorem kps_put3 {g : Nat} {x y v : Value} : Kps (fun k _ => k ≠ g) W (Proofs.Ytgjokddcaadjdaa.put3 W g x y v) :=
  ⟨by simp, fun k o hk hne => (Below.heap_setCell _ ⟨g, 2, none⟩ v k hne).trans ((Below.heap_setCell _ ⟨g, 1, none⟩ y k hne).trans ((Below.heap_setCell _ ⟨g, 0, none⟩ x k hne).trans hk))⟩
end
theorem RdBy.kpz {α : Type} {f : α → List Value} {size : Nat} {w w' : World} {x z n : Nat} {A : Option Addr} {L : List α} {P : Nat → Obj → Prop} (h : RdBy f size w x A n L) (ha : Abv z A) (hk : Kps P w w') (hp : ∀ k o, z ≤ k → P k o) : RdBy f size w' x A n L :=
  ⟨h.1, fun hn => by
    obtain ⟨b, off, e, hb, hc⟩ := h.2 hn
    refine ⟨b, off, e, hb, fun k a hka j u hu => ?_⟩
    exact hk.cell (p := ⟨b, off + (k * size + j), none⟩) (fun o _ => hp b o (by have := ha _ e; exact this)) (hc k a hka j u hu)⟩
theorem PIn.kpz {w w' : World} {x z N M : Nat} {K : CsrS} {fst hd rv ai : Nat → Nat} {cp : Nat → Int} {bk : Nat → Bool} {P : Nat → Obj → Prop} (h : PIn w x N M K fst hd rv ai cp bk) (ha : CsrAbv z K) (hk : Kps P w w') (hp : ∀ k o, z ≤ k → P k o) : PIn w' x N M K fst hd rv ai cp bk :=
  ⟨⟨h.gi.iF.kpz ha.aF hk hp, h.gi.iH.kpz ha.aH hk hp, h.gi.iR.kpz ha.aR hk hp⟩, h.iC.kpz ha.aC hk hp, h.iA.kpz ha.aA hk hp, h.iB.kpz ha.aB hk hp⟩
/-- A push that may be done, and a lift. -/
theorem push_ok {N M s t a : Nat} {K : CsrS} {Q : PreS} {fst hd rv ai : Nat → Nat} {cp : Nat → Int} {bk : Nat → Bool} {S : StN} {w : World} (hG : PNet N M s t fst hd rv ai cp bk) (hI : PIn w w.heap.size N M K fst hd rv ai cp bk)
    (hQ : StIn w w.heap.size M N N Q S.1 S.2.1 S.2.2) (hS : OkS N M s t hd rv cp S) (ha : a < M) (h1 : actB s t S.2.1 (hd (rv a)) = true) (h2 : admB hd rv S.1 S.2.2 a = true) :
    ∃ S' d, Nx N M s t fst hd rv S S' ∧ OkS N M s t hd rv cp S' ∧ Calls Try.prog 22 #[csrW N M s t K, preW M N N Q, .int .i64 (a : Int)] w fun e w' => ∃ Q', e = .returned (.tuple #[preW M N N Q', .int .i64 d, .int .i64 0]) ∧ Hx w w' w.heap.size (pstR M N N Q' S'.1 S'.2.1 S'.2.2) := by
  have hc : pushC M s t hd rv S.1 S.2.1 S.2.2 (a : Int) = 0 := by
    unfold pushC
    rw [if_neg (fun h => h ⟨by omega, by omega⟩)]
    simp only [Int.toNat_natCast, h1, h2, Bool.and_self, if_true]
  have hs : pushS M s t hd rv S.1 S.2.1 S.2.2 (a : Int) = (pushD hd rv S.1 S.2.1 a, mvX rv S.1 a (pushD hd rv S.1 S.2.1 a), mvE hd rv S.2.1 a (pushD hd rv S.1 S.2.1 a), S.2.2) := by
    unfold pushS
    rw [hc]
    rfl
  have hnx : Nx N M s t fst hd rv S (mvX rv S.1 a (pushD hd rv S.1 S.2.1 a), mvE hd rv S.2.1 a (pushD hd rv S.1 S.2.1 a), S.2.2) := .inl ⟨a, ha, h1, h2, rfl⟩
  have hok := hnx.ok hG hS
  refine ⟨_, pushD hd rv S.1 S.2.1 a, hnx, hok, ?_⟩
  have := push_is N M s t K Q fst hd rv ai cp bk S.1 S.2.1 S.2.2 (a : Int) w hG hI hQ hS
  rw [hs, hc] at this
  refine this.mono fun e w' h => ?_
  obtain ⟨Q', he, hx⟩ := h
  dsimp only at he hx
  have l1 := hok.bal.1; have l2 := hok.le; have l3 := hok.lh
  dsimp only at l1 l2 l3
  rw [l1, l2, l3] at he hx
  exact ⟨Q', he, hx⟩
theorem lift_ok {N M s t u : Nat} {K : CsrS} {Q : PreS} {fst hd rv ai : Nat → Nat} {cp : Nat → Int} {bk : Nat → Bool} {S : StN} {w : World} (hG : PNet N M s t fst hd rv ai cp bk) (hI : PIn w w.heap.size N M K fst hd rv ai cp bk)
    (hQ : StIn w w.heap.size M N N Q S.1 S.2.1 S.2.2) (hS : OkS N M s t hd rv cp S) (hu : u < N) (h1 : actB s t S.2.1 u = true) (h2 : downs fst hd rv S.1 S.2.2 u = []) :
    ∃ S', Nx N M s t fst hd rv S S' ∧ OkS N M s t hd rv cp S' ∧ Calls Try.prog 24 #[csrW N M s t K, preW M N N Q, .int .i64 (u : Int)] w fun e w' => ∃ Q', e = .returned (.tuple #[preW M N N Q', .int .i64 0]) ∧ Hx w w' w.heap.size (pstR M N N Q' S'.1 S'.2.1 S'.2.2) := by
  have hc : liftC N s t fst hd rv S.1 S.2.1 S.2.2 (u : Int) = 0 := by
    unfold liftC
    rw [if_neg (fun h => h ⟨by omega, by omega⟩)]
    unfold downs at h2
    simp only [Int.toNat_natCast, h1, h2, List.isEmpty_nil, Bool.and_self, if_true]
  have hs : liftS N s t fst hd rv S.1 S.2.1 S.2.2 (u : Int) = (S.1, S.2.1, S.2.2.set u (lowV fst hd S.1 S.2.2 u + 1)) := by
    unfold liftS
    rw [hc]
    rfl
  have hnx : Nx N M s t fst hd rv S (S.1, S.2.1, S.2.2.set u (lowV fst hd S.1 S.2.2 u + 1)) := .inr ⟨u, hu, h1, h2, rfl⟩
  have hok := hnx.ok hG hS
  refine ⟨_, hnx, hok, ?_⟩
  have := lift_is N M s t K Q fst hd rv ai cp bk S.1 S.2.1 S.2.2 (u : Int) w hG hI hQ hS
  rw [hs, hc] at this
  refine this.mono fun e w' h => ?_
  obtain ⟨Q', he, hx⟩ := h
  dsimp only at he hx
  have l1 := hok.bal.1; have l2 := hok.le; have l3 := hok.lh
  dsimp only at l1 l2 l3
  rw [l1, l2, l3] at he hx
  exact ⟨Q', he, hx⟩
/-- What each asks: it says yes, and what it keeps of the state is told. -/
def EachPost (J : CsrS → StN → PreS → World → Prop) (K : CsrS) (S : StN) (Q : PreS) (sp : Nat → Prop) (b0 : Nat) (W : World) (e : Ending) (W' : World) : Prop := e = .returned (.bool true) ∧ J K S Q W' ∧ Kpz sp b0 W W'
/-- What a play has come to. -/
def PlayPost (J : CsrS → StN → PreS → World → Prop) (N M s t : Nat) (fst hd rv ai : Nat → Nat) (cp : Nat → Int) (bk : Nat → Bool) (sp : Nat → Prop) (b0 : Nat) (w : World) (e : Ending) (W' : World) : Prop :=
  e = .returned (.bool true) ∧ ∃ K S Q, PIn W' W'.heap.size N M K fst hd rv ai cp bk ∧ CsrAbv w.heap.size K ∧ StIn W' W'.heap.size M N N Q S.1 S.2.1 S.2.2 ∧ PreAbv w.heap.size Q ∧ OkS N M s t hd rv cp S ∧ J K S Q W' ∧ Kpz sp b0 w W'
def begT (N M s : Nat) (fst hd rv : Nat → Nat) (cp : Nat → Int) : StN := (begX fst rv cp M s (fst (s + 1) - fst s), begE fst hd rv cp M N s (fst (s + 1) - fst s), begH N s)

set_option maxHeartbeats 16000000 in
theorem play_is (N M s t : Nat) (l : List ArcN) (A : Option Addr) (n c : Nat) (AU : Option Addr) (m cU : Nat) (U : List Int) (fst hd rv ai : Nat → Nat) (cp : Nat → Int) (bk : Nat → Bool) (fn : Nat) (caps : Array Value) (sp : Nat → Prop) (b0 : Nat)
    (J : CsrS → StN → PreS → World → Prop) (Ini : World → Prop) (w : World)
    (hA : Arcs w w.heap.size A n l) (hck : checkF N s t l = 0) (hMe : firstOf l N = M) (hG : PNet N M s t fst hd rv ai cp bk)
    (hrows : ∀ (W : World) (n0 gF gH gR gC gA gB : Nat), CsrAt W n0 N l gF gH gR gC gA gB → PIn W n0 N M (csrK N M gF gH gR gC gA gB) fst hd rv ai cp bk)
    (hU : Bytes w w.heap.size AU m U) (hm : m ≤ 1000000) (hUR : ∀ x ∈ U, 0 ≤ x ∧ x ≤ 255) (hsp : ∀ k, sp k → b0 ≤ k ∧ k < w.heap.size) (hUb : 0 < m → ∀ a, AU = some a → ¬ sp a.block) (hb0 : b0 ≤ w.heap.size)
    (hJ : ∀ K S Q W W', J K S Q W → Below w.heap.size W W' → J K S Q W') (hIni : ∀ W, Below w.heap.size w W → Ini W)
    (h0 : ∀ K Q W, Kpz sp b0 w W → Ini W → PIn W W.heap.size N M K fst hd rv ai cp bk → StIn W W.heap.size M N N Q (begT N M s fst hd rv cp).1 (begT N M s fst hd rv cp).2.1 (begT N M s fst hd rv cp).2.2 →
      Calls Try.prog fn (#[csrW N M s t K, preW M N N Q, preW M N N Q] ++ caps) W (EachPost J K (begT N M s fst hd rv cp) Q sp b0 W))
    (h1 : ∀ K S S' Q Q' W, Kpz sp b0 w W → J K S Q W → PIn W W.heap.size N M K fst hd rv ai cp bk → StIn W W.heap.size M N N Q S.1 S.2.1 S.2.2 → StIn W W.heap.size M N N Q' S'.1 S'.2.1 S'.2.2 → OkS N M s t hd rv cp S → OkS N M s t hd rv cp S' → Nx N M s t fst hd rv S S' →
      Calls Try.prog fn (#[csrW N M s t K, preW M N N Q, preW M N N Q'] ++ caps) W (EachPost J K S' Q' sp b0 W))
    (hcf : ∀ (xs : Array Value) (W : World), (callFunc fn xs).run Try.prog W = .ok (.enter fn xs) W) :
    Calls Try.prog 28 #[.agg #[.int .i64 (N : Int), .int .i64 (s : Int), .int .i64 (t : Int), .slice A n c], .slice AU m cU, .func (.func fn) #[] caps] w (PlayPost J N M s t fst hd rv ai cp bk sp b0 w) := by
  have hM := hG.nM; have hN := hG.nN; have hsN := hG.hs; have htN := hG.ht
  have hmk := fun W (hb : Below w.heap.size w W) => make_good N s t A n c l W ((hA.below hb).more hb.size) hck
  have HMK := Lib.hid hmk; have HG := Lib.hid hG; have HROWS := Lib.hid hrows; have HUU := Lib.hid hU; have HUR := Lib.hid hUR; have HSP := Lib.hid hsp; have HUB := Lib.hid hUb; have HJ := Lib.hid hJ; have HINI := Lib.hid hIni; have H0 := Lib.hid h0; have H1 := Lib.hid h1; have HME := Lib.hid hMe
  have hbg := beg_ok hG (k := fst (s + 1) - fst s) (by have := hG.g.mono s hsN; omega)
  have HBG := Lib.hid hbg
  clear hmk hG hrows hU hUR hsp hUb hJ hIni h0 h1 hMe hA hck hbg
  go_enter Try.func28, Try.ntmps28
  go_wp2_with fail
  refine (HMK.out _ (below_alloc _)).mono ?_
  rintro e w1 ⟨gF, gH, gR, gC, gA, gB, rfl, hge, hCat, B1⟩
  have hpin := HROWS.out _ _ _ _ _ _ _ _ hCat
  have hkab : CsrAbv w.heap.size (csrK N M gF gH gR gC gA gB) := by
    have key : ∀ g : Nat, (w.alloc (.cells #[.int .i64 (N : Int), .int .i64 (s : Int), .int .i64 (t : Int), .slice A n c] 24)).heap.size ≤ g → Abv w.heap.size (some ⟨g, 0, none⟩) := fun g hg a e => by
      cases e
      simp at hg
      show w.heap.size ≤ g
      omega
    exact ⟨key _ hge.1, key _ hge.2.1, key _ hge.2.2.1, key _ hge.2.2.2.1, key _ hge.2.2.2.2.1, key _ hge.2.2.2.2.2⟩
  rw [HME.out]
  obtain ⟨K, hKe⟩ : ∃ K, csrK N M gF gH gR gC gA gB = K := ⟨_, rfl⟩
  have hcw : csrV N M (s : Int) (t : Int) gF gH gR gC gA gB = csrW N M s t K := by rw [← hKe]
  rw [hcw]
  rw [hKe] at hpin hkab
  have Bw1 : Below w.heap.size w w1 := (below_alloc _).trans (B1.mono (by simp))
  have HPI1 := Lib.hid hpin; have HKA := Lib.hid hkab; have HB1 := Lib.hid Bw1
  clear hpin hkab hcw hge hCat hKe B1 Bw1 HMK HROWS HME
  have hbegin := fun W (hb : Below w1.heap.size w1 W) => begin_is N M s t K fst hd rv ai cp bk W HG.out (HPI1.out.on hb)
  have HBEG := Lib.hid hbegin
  have h0' := fun Q W h1 h2 h3 h4 => H0.out K Q W h1 h2 h3 h4
  have h1' := fun S S' Q Q' W h1 h2 h3 h4 h5 h6 h7 h8 => H1.out K S S' Q Q' W h1 h2 h3 h4 h5 h6 h7 h8
  have hmay := fun Q (S : StN) W (hi : PIn W W.heap.size N M K fst hd rv ai cp bk) (hs : StIn W W.heap.size M N N Q S.1 S.2.1 S.2.2) (ho : OkS N M s t hd rv cp S) => may_is N M s t K Q fst hd rv ai cp bk S.1 S.2.1 S.2.2 W HG.out hi hs ho
  have hpush := fun Q (S : StN) (a : Int) W (hi : PIn W W.heap.size N M K fst hd rv ai cp bk) (hs : StIn W W.heap.size M N N Q S.1 S.2.1 S.2.2) (ho : OkS N M s t hd rv cp S) => push_is N M s t K Q fst hd rv ai cp bk S.1 S.2.1 S.2.2 a W HG.out hi hs ho
  have hlift := fun Q (S : StN) (u : Int) W (hi : PIn W W.heap.size N M K fst hd rv ai cp bk) (hs : StIn W W.heap.size M N N Q S.1 S.2.1 S.2.2) (ho : OkS N M s t hd rv cp S) => lift_is N M s t K Q fst hd rv ai cp bk S.1 S.2.1 S.2.2 u W HG.out hi hs ho
  have H0K := Lib.hid h0'; have H1K := Lib.hid h1'; have HMAY := Lib.hid hmay; have HPUSH := Lib.hid hpush; have HLIFT := Lib.hid hlift
  clear hbegin h0' h1' hmay hpush hlift H0 H1
  obtain ⟨AF, cF, AH, cH, AR, cR, AC, cC, AA, cA, AB, cB⟩ := K
  dsimp only [csrW, preW] at HBEG H0K H1K HMAY HPUSH HLIFT ⊢
  go_wp2_with fail
  refine (HBEG.out _ (below_alloc _)).mono ?_
  rintro e w3 ⟨Q, rfl, HX3⟩
  obtain ⟨AX, cX, AE, cE, AHH, cHH⟩ := Q
  dsimp only [preW] at HX3 ⊢
  have hw1z := HB1.out.size
  have B3 : Below w.heap.size w w3 := below_step HB1.out ((below_alloc _).trans (HX3.bel.mono (by simp)))
  have hst3 := HX3.st HBG.out.bal.1 HBG.out.le HBG.out.lh
  have hpa := HX3.abv (z := w.heap.size) (by simp; omega)
  have C3 : Blk w3 w1.heap.size 32 #[.int .i64 (N : Int), .int .i64 (s : Int), .int .i64 (t : Int), .slice AF (N + 1) cF, .slice AH M cH, .slice AR M cR, .slice AC M cC, .slice AA M cA, .slice AB M cB] := (Blk.new rfl).below HX3.bel (by simp)
  obtain ⟨w4, hw4⟩ : ∃ w4, w3.alloc (.cells #[.slice AX M cX, .slice AE N cE, .slice AHH N cHH] 29) = w4 := ⟨_, rfl⟩
  have C4 : Blk w4 w1.heap.size 32 #[.int .i64 (N : Int), .int .i64 (s : Int), .int .i64 (t : Int), .slice AF (N + 1) cF, .slice AH M cH, .slice AR M cR, .slice AC M cC, .slice AA M cA, .slice AB M cB] := by rw [← hw4]; exact C3.alloc _
  have P4 : Blk w4 w3.heap.size 29 #[.slice AX M cX, .slice AE N cE, .slice AHH N cHH] := by rw [← hw4]; exact Blk.new rfl
  have B4 : Below w.heap.size w w4 := by rw [← hw4]; exact B3.alloc B3.size _
  have S4 : StIn w4 w4.heap.size M N N ⟨AX, cX, AE, cE, AHH, cHH⟩ (begT N M s fst hd rv cp).1 (begT N M s fst hd rv cp).2.1 (begT N M s fst hd rv cp).2.2 := by rw [← hw4]; exact hst3.onAlloc _
  have b34 : Below w1.heap.size w1 w4 := by rw [← hw4]; exact ((below_alloc _).trans (HX3.bel.mono (by simp))).alloc (by have := C3.lt; omega) _
  have hpin4 := HPI1.out.on b34
  have hpin47 := HPI1.out.below b34
  have hkz4 : Kpz sp b0 w w4 := Kpz.all B4 hb0
  have hee := H0K.out ⟨AX, cX, AE, cE, AHH, cHH⟩ w4 hkz4 (HINI.out _ B4) hpin4 S4
  dsimp only [preW] at hee
  have HEE := Lib.hid hee
  have HC4 := Lib.hid C4; have HP4 := Lib.hid P4; have HS4 := Lib.hid S4; have HPA := Lib.hid hpa; have HPI4 := Lib.hid hpin47; have HKZ4 := Lib.hid hkz4; have HB4 := Lib.hid B4
  have HG7 := Lib.hid (show w.heap.size ≤ w1.heap.size from hw1z)
  have HG9 := Lib.hid (show w.heap.size ≤ w3.heap.size from B3.size)
  have HG79 := Lib.hid (show w1.heap.size < w3.heap.size from C3.lt)
  obtain ⟨b0', b1, b2, b3, b4, b5, b6, b7, b8⟩ := C4.at9
  obtain ⟨⟨p0, p1, p2⟩, -, hz2⟩ := P4.full3
  have hz1 := C4.lt
  clear hee hst3 hpa C3 C4 P4 B4 S4 hpin4 hpin47 hkz4 b34 HX3 B3 hw1z
  go_wp2_with fail
  clear hw4
  refine HEE.out.mono ?_
  rintro e w5 ⟨rfl, hJ5, hK5⟩
  obtain ⟨g7, hg7⟩ : ∃ g, w1.heap.size = g := ⟨_, rfl⟩
  obtain ⟨g9, hg9⟩ : ∃ g, w3.heap.size = g := ⟨_, rfl⟩
  have hs1 := HG7.out; have hs2 := HG9.out
  have C5 := hK5.kps.blk HC4.out (fun h => by have := HSP.out _ h; omega)
  have P5 := hK5.kps.blk HP4.out (fun h => by have := HSP.out _ h; omega)
  have hpz : ∀ (k : Nat) (o : Obj), w.heap.size ≤ k → ¬ sp k := fun k o hk h => by have := HSP.out _ h; omega
  have hpin5 := HPI4.out.kpz HKA.out hK5.kps hpz
  have hst5 := HS4.out.kps HPA.out hK5.kps hpz hK5.kps.size
  have hkz5 := HKZ4.out.trans hK5
  rw [hg7] at C5 hs1 hpin5 ⊢
  rw [hg9] at P5 hs2 ⊢
  have hne := HG79.out
  rw [hg7, hg9] at hne
  have HPZ := Lib.hid hpz
  have HL0 := Lib.hid (And.intro hJ5 (And.intro C5 (And.intro P5 (And.intro hpin5 (And.intro hst5 hkz5)))))
  have HGS := Lib.hid (And.intro hs1 (And.intro hs2 hne))
  clear hJ5 hK5 C5 P5 hpz hpin5 hst5 hkz5 hs1 hs2 hne HEE HC4 HP4 HS4 HPI4 HKZ4 HB4 HG7 HG9 HG79 b0' b1 b2 b3 b4 b5 b6 b7 b8 p0 p1 p2 hz1 hz2 hg7 hg9 HBEG HPI1 HB1 HINI H0K
  go_wp2_with fail
  go_loopw [11, 12, 13, 14, 15, 16, 34] (fun _ _ _ _ _ _ i wr => ∃ (k : Nat) (S : StN) (Q : PreS), k ≤ m ∧ i = .int .i64 k ∧ J ⟨AF, cF, AH, cH, AR, cR, AC, cC, AA, cA, AB, cB⟩ S Q wr ∧ Blk wr g7 32 #[.int .i64 (N : Int), .int .i64 (s : Int), .int .i64 (t : Int), .slice AF (N + 1) cF, .slice AH M cH, .slice AR M cR, .slice AC M cC, .slice AA M cA, .slice AB M cB] ∧ Blk wr g9 29 #[.slice Q.AX M Q.cX, .slice Q.AE N Q.cE, .slice Q.AH N Q.cH] ∧
      PIn wr g7 N M ⟨AF, cF, AH, cH, AR, cR, AC, cC, AA, cA, AB, cB⟩ fst hd rv ai cp bk ∧ StIn wr wr.heap.size M N N Q S.1 S.2.1 S.2.2 ∧ PreAbv w.heap.size Q ∧ OkS N M s t hd rv cp S ∧ Kpz sp b0 w wr) (fun _ _ _ _ _ _ i _ => m - (intOf i).toNat)
  case atStart =>
    obtain ⟨h1, h2, h3, h4, h5, h6⟩ := HL0.out
    exact ⟨0, begT N M s fst hd rv cp, ⟨AX, cX, AE, cE, AHH, cHH⟩, Nat.zero_le _, rfl, h1, h2, h3, h4, h5, HPA.out, HBG.out, h6⟩
  case round =>
    clear HL0
    obtain ⟨k, S, Q, hk, rfl, hj, C3, P3, hpi, hsi, hpa, hok, hkz⟩ := hrel
    obtain ⟨AX, cX, AE, cE, AHH, cHH⟩ := Q
    dsimp only at P3
    have hs7 := HGS.out.1; have hs9 := HGS.out.2.1; have hs79 := HGS.out.2.2
    have hl9 := P3.lt
    have hpw := hpi.more (show g7 ≤ wr.heap.size by omega)
    by_cases hlt : k < m
    · obtain ⟨b, off, x, hAe, hb, hx, cx⟩ := bytes_at HUU.out hlt
      have cxr := hkz.kps.cell (p := ⟨b, off + k, none⟩) (fun o _ => HUB.out (by omega) ⟨b, off, none⟩ hAe) cx
      have hbz := hkz.kps.size
      subst hAe
      have hxr := HUR.out x (List.mem_of_getElem? hx)
      obtain ⟨x, rfl⟩ := Int.eq_ofNat_of_zero_le hxr.1
      have hx255 : x ≤ 255 := by omega
      have hmc := HMAY.out ⟨AX, cX, AE, cE, AHH, cHH⟩ S wr hpw hsi hok
      have hma : ∀ j a, (mayA fst hd rv S.1 S.2.2 (selTo (actB s t S.2.1) N))[j]? = some a → a < M ∧ actB s t S.2.1 (hd (rv a)) = true ∧ admB hd rv S.1 S.2.2 a = true := fun j a h => by
        have := List.mem_of_getElem? h
        rw [mayA_sel HG.out.g N (Nat.le_refl _), HG.out.g.fN] at this
        have := sel_mem.1 this
        simpa using this
      have hmv : ∀ j u, (mayV fst hd rv S.1 S.2.2 (selTo (actB s t S.2.1) N))[j]? = some u → u < N ∧ actB s t S.2.1 u = true ∧ downs fst hd rv S.1 S.2.2 u = [] := fun j u h => by
        have := List.mem_of_getElem? h
        simp only [mayV, List.mem_filter, List.isEmpty_iff] at this
        exact ⟨(sel_mem.1 this.1).1, (sel_mem.1 this.1).2, this.2⟩
      obtain ⟨a, ha⟩ : ∃ a, mayA fst hd rv S.1 S.2.2 (selTo (actB s t S.2.1) N) = a := ⟨_, rfl⟩
      obtain ⟨v, hv⟩ : ∃ v, mayV fst hd rv S.1 S.2.2 (selTo (actB s t S.2.1) N) = v := ⟨_, rfl⟩
      rw [ha, hv] at hmc
      rw [ha] at hma
      rw [hv] at hmv
      dsimp only [preW] at hmc
      have HMC := Lib.hid hmc; have HMA := Lib.hid hma; have HMV := Lib.hid hmv
      have HJ3 := Lib.hid hj; have HC3 := Lib.hid C3; have HP3 := Lib.hid P3; have HPI3 := Lib.hid hpi; have HSI3 := Lib.hid hsi; have HPA3 := Lib.hid hpa; have HOK := Lib.hid hok; have HKZ3 := Lib.hid hkz
      obtain ⟨a0, a1, a2, a3, a4, a5, a6, a7, a8⟩ := C3.at9
      obtain ⟨⟨p0, p1, p2⟩, -, hz2⟩ := P3.full3
      have hz1 := C3.lt
      clear hmc hma hmv ha hv hj C3 P3 hpi hsi hpa hok hkz hpw cx hx hxr hb
      go_wp2_with fail
      refine HMC.out.mono ?_
      rintro e w6 ⟨A1, c1, A2, c2, rfl, HX6⟩
      have h36 := HX6.bel
      have HC6 := Lib.hid (HC3.out.below h36 (by omega)); have HP6 := Lib.hid (HP3.out.below h36 HP3.out.lt)
      have HJ6 := Lib.hid (HJ.out _ _ _ _ _ HJ3.out (h36.mono HKZ3.out.kps.size))
      have HPI6 := Lib.hid (HPI3.out.below (h36.mono (show g7 ≤ wr.heap.size by omega)))
      have HSI6 := Lib.hid (HSI3.out.on h36)
      have HKZ6 := Lib.hid (HKZ3.out.trans (Kpz.all h36 (by have := HKZ3.out.kps.size; omega)))
      have hz36 := h36.size
      have hX6 := Lib.hid HX6
      clear HX6 h36 HC3 HP3 HJ3 HPI3 HSI3 HKZ3 HMC a0 a1 a2 a3 a4 a5 a6 a7 a8 p0 p1 p2 hz1 hz2 cxr
      obtain ⟨w7, hw7⟩ : ∃ w7, w6.alloc (.cells #[.slice none 0 0, .slice none 0 0, .slice none 0 0] 29) = w7 := ⟨_, rfl⟩
      obtain ⟨gN, hgN⟩ : ∃ g, w6.heap.size = g := ⟨_, rfl⟩
      have b67 : Below w6.heap.size w6 w7 := by rw [← hw7]; exact below_alloc _
      have HN7 := Lib.hid (show Blk w7 gN 29 #[.slice none 0 0, .slice none 0 0, .slice none 0 0] by rw [← hw7, ← hgN]; exact Blk.new rfl)
      have HC7 := Lib.hid (HC6.out.below b67 HC6.out.lt); have HP7 := Lib.hid (HP6.out.below b67 HP6.out.lt)
      have hkz6 := HKZ6.out.kps.size
      have HJ7 := Lib.hid (HJ.out _ _ _ _ _ HJ6.out (b67.mono hkz6))
      have h7 : g7 ≤ w6.heap.size := by omega
      have HPI7 := Lib.hid (HPI6.out.below (b67.mono h7))
      have HSI7 := Lib.hid (HSI6.out.below b67)
      have HKZ7 := Lib.hid (HKZ6.out.trans (Kpz.all b67 (by omega)))
      have hX7 := Lib.hid (hX6.out.on b67)
      have hsi7 := HSI7.out
      rw [hgN] at hsi7
      have HSG7 := Lib.hid hsi7
      clear hsi7 HSI7
      have HZ7 := Lib.hid (show g9 < gN ∧ w.heap.size ≤ gN ∧ gN < w7.heap.size from ⟨by have := HP6.out.lt; omega, by omega, HN7.out.lt⟩)
      obtain ⟨na, hna⟩ : ∃ n, a.length = n := ⟨_, rfl⟩
      obtain ⟨nv, hnv⟩ : ∃ n, v.length = n := ⟨_, rfl⟩
      rw [hna, hnv]
      have HNA := Lib.hid hna; have HNV := Lib.hid hnv
      clear HC6 HP6 HJ6 HPI6 HSI6 HKZ6 hX6 b67 hkz6 h7 hna hnv
      by_cases ea : na = 0
      · by_cases ev : nv = 0
        · subst ea; subst ev
          go_wp2_with fail
          go_ret
          exact ⟨rfl, ⟨AF, cF, AH, cH, AR, cR, AC, cC, AA, cA, AB, cB⟩, S, ⟨AX, cX, AE, cE, AHH, cHH⟩, HPI7.out.more (by have := HZ7.out; omega), HKA.out, HSG7.out.more (by have := HZ7.out; omega), HPA3.out, HOK.out, HJ7.out, HKZ7.out⟩
        · subst ea
          have ev1 : 0 < nv := by omega
          obtain ⟨q, hq⟩ : ∃ q, x / 2 = q := ⟨_, rfl⟩
          obtain ⟨j, hj⟩ : ∃ j, q % nv = j := ⟨_, rfl⟩
          have hjl : j < nv := by rw [← hj]; exact Nat.mod_lt _ ev1
          have hqi : IntKind.i64.wrap ((x : Int) / 2) = (q : Int) := by rw [wrap_in (by omega) (by omega), ← hq]; omega
          have hji : (q : Int).tmod (nv : Int) = (j : Int) := by rw [Int.tmod_eq_emod_of_nonneg (by omega), ← hj]; omega
          clear hq hj
          obtain ⟨aj, haj⟩ : ∃ aj, v[j]? = some aj := ⟨_, List.getElem?_eq_getElem (by have := HNV.out; omega)⟩
          obtain ⟨m1, m2, m3⟩ := HMV.out j aj haj
          have hvj : (nvs v)[j]? = some (.int .i64 (aj : Int)) := by simp only [nvs, List.getElem?_map, haj, Option.map_some]
          obtain ⟨gA, hgA⟩ := own_some (n := v.length) (A := A2) (hX7.out.held.own 1 _ rfl) (by have := HNV.out; omega)
          subst hgA
          obtain ⟨hcj, -, hzj, -⟩ := hX7.out.cell (i := 1) (j := j) rfl (by have := HNV.out; omega) hvj
          have HM13 := Lib.hid (And.intro m1 (And.intro m2 m3))
          have HCJ := Lib.hid (And.intro hcj hzj)
          clear m1 m2 m3 hvj haj hcj hzj
          go_wp2_with fail
          obtain ⟨w8, hw8⟩ : ∃ w8, w7.drew = w8 := ⟨_, rfl⟩
          have b78 : Below w7.heap.size w7 w8 := by rw [← hw8]; exact (Below.refl _ w7).drew
          have HC8 := Lib.hid (HC7.out.below b78 HC7.out.lt); have HP8 := Lib.hid (HP7.out.below b78 HP7.out.lt); have HN8 := Lib.hid (HN7.out.below b78 HN7.out.lt)
          have hz7 := HZ7.out
          have HJ8 := Lib.hid (HJ.out _ _ _ _ _ HJ7.out (b78.mono (by omega)))
          have hc7 := HC7.out.lt
          have HPI8 := Lib.hid (HPI7.out.below (b78.mono (by omega)))
          have HSG8 := Lib.hid (HSG7.out.below (b78.mono (by omega)))
          have HSI8 := Lib.hid (HSG8.out.more (show gN ≤ w8.heap.size by have := b78.size; omega))
          have HKZ8 := Lib.hid (HKZ7.out.trans (Kpz.all b78 (by omega)))
          have HZ8 := Lib.hid (show w7.heap.size ≤ w8.heap.size from b78.size)
          have HGN := Lib.hid (show gN ≠ gA from own_apart (hX7.out.held.own 1 _ rfl) HN7.out (show (3 : TypeId) ≠ 29 by decide))
          have hcj8 := (b78.cell (p := ⟨gA, j, none⟩) HCJ.out.2).trans HCJ.out.1
          have hgj8 : gA < w8.heap.size := by have := HCJ.out.2; have := b78.size; omega
          obtain ⟨S', hnx, hok', hcall⟩ := lift_ok (K := ⟨AF, cF, AH, cH, AR, cR, AC, cC, AA, cA, AB, cB⟩) (Q := ⟨AX, cX, AE, cE, AHH, cHH⟩) (S := S) (w := w8) HG.out (HPI8.out.more (by have := HC8.out.lt; omega)) HSI8.out HOK.out HM13.out.1 HM13.out.2.1 HM13.out.2.2
          dsimp only [csrW, preW] at hcall
          have HCALL := Lib.hid hcall; have HNX := Lib.hid (And.intro hnx hok')
          have hkeep : ∀ W', Kps (fun k _ => k ≠ gN) w8 W' → Kps (fun k _ => k ≠ gN) w8 W' ∧ (W'.cell? ⟨g7, 0, none⟩ = some (.int .i64 (N : Int)) ∧ W'.cell? ⟨g7, 1, none⟩ = some (.int .i64 (s : Int)) ∧ W'.cell? ⟨g7, 2, none⟩ = some (.int .i64 (t : Int)) ∧ W'.cell? ⟨g7, 3, none⟩ = some (.slice AF (N + 1) cF) ∧ W'.cell? ⟨g7, 4, none⟩ = some (.slice AH M cH) ∧ W'.cell? ⟨g7, 5, none⟩ = some (.slice AR M cR) ∧ W'.cell? ⟨g7, 6, none⟩ = some (.slice AC M cC) ∧ W'.cell? ⟨g7, 7, none⟩ = some (.slice AA M cA) ∧ W'.cell? ⟨g7, 8, none⟩ = some (.slice AB M cB)) ∧ (W'.cell? ⟨g9, 0, none⟩ = some (.slice AX M cX) ∧ W'.cell? ⟨g9, 1, none⟩ = some (.slice AE N cE) ∧ W'.cell? ⟨g9, 2, none⟩ = some (.slice AHH N cHH)) ∧ W'.cell? ⟨gA, j, none⟩ = some (.int .i64 (aj : Int)) := by
            intro W' hb
            have hz7 := HZ7.out; have hgs := HGS.out
            obtain ⟨⟨p0, p1, p2⟩, -, -⟩ := (hb.blk HP8.out (by omega)).full3
            exact ⟨hb, (hb.blk HC8.out (by omega)).at9, ⟨p0, p1, p2⟩, hb.cell (p := ⟨gA, j, none⟩) (fun _ _ e => HGN.out e.symm) hcj8⟩
          have HKEEP := Lib.hid hkeep
          clear hcall hnx hok' hkeep hcj8 hgj8 b78 hz7 hc7 HC7 HP7 HN7 HJ7 HPI7 HSG7 HKZ7 HCJ HM13
          refine wp_region_held_drew (S := fun W' => Kps (fun k _ => k ≠ gN) w8 W' ∧ (W'.cell? ⟨g7, 0, none⟩ = some (.int .i64 (N : Int)) ∧ W'.cell? ⟨g7, 1, none⟩ = some (.int .i64 (s : Int)) ∧ W'.cell? ⟨g7, 2, none⟩ = some (.int .i64 (t : Int)) ∧ W'.cell? ⟨g7, 3, none⟩ = some (.slice AF (N + 1) cF) ∧ W'.cell? ⟨g7, 4, none⟩ = some (.slice AH M cH) ∧ W'.cell? ⟨g7, 5, none⟩ = some (.slice AR M cR) ∧ W'.cell? ⟨g7, 6, none⟩ = some (.slice AC M cC) ∧ W'.cell? ⟨g7, 7, none⟩ = some (.slice AA M cA) ∧ W'.cell? ⟨g7, 8, none⟩ = some (.slice AB M cB)) ∧ (W'.cell? ⟨g9, 0, none⟩ = some (.slice AX M cX) ∧ W'.cell? ⟨g9, 1, none⟩ = some (.slice AE N cE) ∧ W'.cell? ⟨g9, 2, none⟩ = some (.slice AHH N cHH)) ∧ W'.cell? ⟨gA, j, none⟩ = some (.int .i64 (aj : Int))) (by kernel_rfl) (by rw [hw8]; exact HKEEP.out _ Kps.refl) (fun hS0 => ?_)
          rw [hw8] at hS0 ⊢
          clear hw8
          refine takeD (i := 0) (v := ?_) (some 80) rfl rfl (by kernel_rfl) (by kernel_rfl) (by kernel_rfl) (fun _ _ _ h => h) (Or.inl ⟨by rfl, ?_⟩) (by assumption) ?_
          rotate_left
          · (intro W hSw; obtain ⟨-, ⟨a0, a1, a2, a3, a4, a5, a6, a7, a8⟩, ⟨p0, p1, p2⟩, cj⟩ := hSw; go_simp; try with_reducible rfl)
          simp only [Act.put, List.setIfInBounds_toArray, List.set_cons_zero, List.set_cons_succ]
          refine takeD (i := 1) (v := ?_) (some 81) rfl rfl (by kernel_rfl) (by kernel_rfl) (by kernel_rfl) (fun _ _ _ h => h) (Or.inl ⟨by rfl, ?_⟩) (by assumption) ?_
          rotate_left
          · (intro W hSw; obtain ⟨-, ⟨a0, a1, a2, a3, a4, a5, a6, a7, a8⟩, ⟨p0, p1, p2⟩, cj⟩ := hSw; go_simp; try with_reducible rfl)
          simp only [Act.put, List.setIfInBounds_toArray, List.set_cons_zero, List.set_cons_succ]
          refine takeD (i := 2) (v := ?_) (some 82) rfl rfl (by kernel_rfl) (by kernel_rfl) (by kernel_rfl) (fun _ _ _ h => h) (Or.inl ⟨by rfl, ?_⟩) (by assumption) ?_
          rotate_left
          · (intro W hSw; obtain ⟨-, ⟨a0, a1, a2, a3, a4, a5, a6, a7, a8⟩, ⟨p0, p1, p2⟩, cj⟩ := hSw; go_simp; try with_reducible rfl)
          simp only [Act.put, List.setIfInBounds_toArray, List.set_cons_zero, List.set_cons_succ]
          refine takeD (i := 3) (v := ?_) (some 83) rfl rfl (by kernel_rfl) (by kernel_rfl) (by kernel_rfl) (fun _ _ _ h => h) (Or.inl ⟨by rfl, ?_⟩) (by assumption) ?_
          rotate_left
          · (intro W hSw; obtain ⟨-, ⟨a0, a1, a2, a3, a4, a5, a6, a7, a8⟩, ⟨p0, p1, p2⟩, cj⟩ := hSw; go_simp; try with_reducible rfl)
          simp only [Act.put, List.setIfInBounds_toArray, List.set_cons_zero, List.set_cons_succ]
          refine takeD (i := 4) (v := ?_) (some 84) rfl rfl (by kernel_rfl) (by kernel_rfl) (by kernel_rfl) (fun _ _ _ h => h) (Or.inl ⟨by rfl, ?_⟩) (by assumption) ?_
          rotate_left
          · (intro W hSw; obtain ⟨-, ⟨a0, a1, a2, a3, a4, a5, a6, a7, a8⟩, ⟨p0, p1, p2⟩, cj⟩ := hSw; go_simp; try with_reducible rfl)
          simp only [Act.put, List.setIfInBounds_toArray, List.set_cons_zero, List.set_cons_succ]
          refine takeD (i := 5) (v := ?_) (some 85) rfl rfl (by kernel_rfl) (by kernel_rfl) (by kernel_rfl) (fun _ _ _ h => h) (Or.inl ⟨by rfl, ?_⟩) (by assumption) ?_
          rotate_left
          · (intro W hSw; obtain ⟨-, ⟨a0, a1, a2, a3, a4, a5, a6, a7, a8⟩, ⟨p0, p1, p2⟩, cj⟩ := hSw; go_simp; try with_reducible rfl)
          simp only [Act.put, List.setIfInBounds_toArray, List.set_cons_zero, List.set_cons_succ]
          refine takeD (i := 6) (v := ?_) (some 86) rfl rfl (by kernel_rfl) (by kernel_rfl) (by kernel_rfl) (fun _ _ _ h => h) (Or.inl ⟨by rfl, ?_⟩) (by assumption) ?_
          rotate_left
          · (intro W hSw; obtain ⟨-, ⟨a0, a1, a2, a3, a4, a5, a6, a7, a8⟩, ⟨p0, p1, p2⟩, cj⟩ := hSw; go_simp; try with_reducible rfl)
          simp only [Act.put, List.setIfInBounds_toArray, List.set_cons_zero, List.set_cons_succ]
          refine takeD (i := 7) (v := ?_) (some 87) rfl rfl (by kernel_rfl) (by kernel_rfl) (by kernel_rfl) (fun _ _ _ h => h) (Or.inl ⟨by rfl, ?_⟩) (by assumption) ?_
          rotate_left
          · (intro W hSw; obtain ⟨-, ⟨a0, a1, a2, a3, a4, a5, a6, a7, a8⟩, ⟨p0, p1, p2⟩, cj⟩ := hSw; go_simp; try with_reducible rfl)
          simp only [Act.put, List.setIfInBounds_toArray, List.set_cons_zero, List.set_cons_succ]
          refine takeD (i := 8) (v := ?_) (some 88) rfl rfl (by kernel_rfl) (by kernel_rfl) (by kernel_rfl) (fun _ _ _ h => h) (Or.inl ⟨by rfl, ?_⟩) (by assumption) ?_
          rotate_left
          · (intro W hSw; obtain ⟨-, ⟨a0, a1, a2, a3, a4, a5, a6, a7, a8⟩, ⟨p0, p1, p2⟩, cj⟩ := hSw; go_simp; try with_reducible rfl)
          simp only [Act.put, List.setIfInBounds_toArray, List.set_cons_zero, List.set_cons_succ]
          refine takeD (i := 9) (v := ?_) (some 89) rfl rfl (by kernel_rfl) (by kernel_rfl) (by kernel_rfl) (fun _ _ _ h => h) (Or.inl ⟨by rfl, ?_⟩) (by assumption) ?_
          rotate_left
          · (intro W hSw; obtain ⟨-, ⟨a0, a1, a2, a3, a4, a5, a6, a7, a8⟩, ⟨p0, p1, p2⟩, cj⟩ := hSw; go_simp; try with_reducible rfl)
          simp only [Act.put, List.setIfInBounds_toArray, List.set_cons_zero, List.set_cons_succ]
          refine wpAnyH_ready (rs := [10]) (by kernel_rfl) (by simp) ?_
          refine AllReadyH.cons rfl (fun K hK => ?_) AllReadyH.nil
          go_simp
          refine HCALL.out.mono ?_
          rintro e W9 ⟨⟨AX2, cX2, AE2, cE2, AH2, cH2⟩, rfl, HX9⟩
          dsimp only [preW] at HX9 ⊢
          refine hK.out _ _ (HKEEP.out _ (Kps.all HX9.bel)) (fun hSa => ?_)
          clear hK K
          try simp only [Act.put, List.setIfInBounds_toArray, List.set_cons_zero, List.set_cons_succ]
          refine takeD (i := 11) (v := ?_) (some 79) rfl rfl (by kernel_rfl) (by kernel_rfl) (by kernel_rfl) (fun _ _ _ h => h) (Or.inl ⟨by rfl, ?_⟩) (by assumption) ?_
          rotate_left
          · (intro W hSw; obtain ⟨-, ⟨a0, a1, a2, a3, a4, a5, a6, a7, a8⟩, ⟨p0, p1, p2⟩, cj⟩ := hSw; go_simp; try with_reducible rfl)
          simp only [Act.put, List.setIfInBounds_toArray, List.set_cons_zero, List.set_cons_succ]
          refine takeD (i := 12) (v := ?_) (some 91) rfl rfl (by kernel_rfl) (by kernel_rfl) (by kernel_rfl) (fun _ _ _ h => h) (Or.inl ⟨by rfl, ?_⟩) (by assumption) ?_
          rotate_left
          · (intro W hSw; obtain ⟨-, ⟨a0, a1, a2, a3, a4, a5, a6, a7, a8⟩, ⟨p0, p1, p2⟩, cj⟩ := hSw; go_simp; try with_reducible rfl)
          simp only [Act.put, List.setIfInBounds_toArray, List.set_cons_zero, List.set_cons_succ]
          refine takeD (i := 13) (v := ?_) (some 92) rfl rfl (by kernel_rfl) (by kernel_rfl) (by kernel_rfl) (fun _ _ _ h => h) (Or.inl ⟨by rfl, ?_⟩) (by assumption) ?_
          rotate_left
          · (intro W hSw; obtain ⟨-, ⟨a0, a1, a2, a3, a4, a5, a6, a7, a8⟩, ⟨p0, p1, p2⟩, cj⟩ := hSw; go_simp; try with_reducible rfl)
          simp only [Act.put, List.setIfInBounds_toArray, List.set_cons_zero, List.set_cons_succ]
          have HN9 := HN8.out.below HX9.bel HN8.out.lt
          obtain ⟨⟨q0, q1, q2⟩, ⟨f0, f1, f2⟩, hzp⟩ := HN9.full3
          refine wpAnyH_ready (rs := [14]) (by kernel_rfl) (by simp) ?_
          refine AllReadyH.cons rfl (fun K hK => ?_) AllReadyH.nil
          go_simp
          refine hK.out _ _ (HKEEP.out _ ((Kps.all HX9.bel).trans (kps_put3 (W := W9) (g := gN) (x := .slice AX2 M cX2) (y := .slice AE2 N cE2) (v := .slice AH2 N cH2)))) (fun hSz => ?_)
          clear hK K q0 q1 q2 f0 f1 f2 hzp hSa
          try simp only [Act.put, List.setIfInBounds_toArray, List.set_cons_zero, List.set_cons_succ]
          refine takeD (i := 15) (v := ?_) (some 16) rfl rfl (by kernel_rfl) (by kernel_rfl) (by kernel_rfl) (fun _ _ _ h => h) (Or.inl ⟨by rfl, ?_⟩) (by assumption) ?_
          rotate_left
          · (intro W hSw; obtain ⟨-, ⟨a0, a1, a2, a3, a4, a5, a6, a7, a8⟩, ⟨p0, p1, p2⟩, cj⟩ := hSw; go_simp; try with_reducible rfl)
          simp only [Act.put, List.setIfInBounds_toArray, List.set_cons_zero, List.set_cons_succ]
          refine wpAnyH_done (by kernel_rfl) ?_ _
          obtain ⟨W10, hW10⟩ : ∃ W, put3 W9 gN (.slice AX2 M cX2) (.slice AE2 N cE2) (.slice AH2 N cH2) = W := ⟨_, rfl⟩
          have hz7 := HZ7.out; have hgs := HGS.out; have hz8 := HZ8.out; have hz9 := HX9.bel.size
          have k910 : Kps (fun k _ => k ≠ gN) W9 W10 := by rw [← hW10]; exact kps_put3
          have b910 : Below gN W9 W10 := by rw [← hW10]; exact below_put3 (Below.refl _ _) (Nat.le_refl _)
          have N10 : Blk W10 gN 29 #[.slice AX2 M cX2, .slice AE2 N cE2, .slice AH2 N cH2] := by rw [← hW10]; exact HN9.put3
          have Z10 : Kpz sp b0 w W10 := by rw [← hW10]; exact (HKZ8.out.trans (Kpz.all HX9.bel (by omega))).put3 (by omega) (by omega)
          change put3 W9 gN (.slice AX2 M cX2) (.slice AE2 N cE2) (.slice AH2 N cH2) = W10 at hW10
          dsimp only [put3] at hW10
          rw [hW10] at hSz ⊢
          have b810 : Below gN w8 W10 := (HX9.bel.mono (by omega)).trans b910
          have C10 := hSz.1.blk HC8.out (by omega)
          have P10 := hSz.1.blk HP8.out (by omega)
          have J10 := HJ.out _ _ _ _ _ HJ8.out (b810.mono (by omega))
          have I10 := HPI8.out.below (b810.mono (by omega))
          have T10 := (HSG8.out.below b810).more (show gN ≤ W10.heap.size by have := b810.size; omega)
          have U9 := HX9.st HNX.out.2.bal.1 HNX.out.2.le HNX.out.2.lh
          have A9 := HX9.abv (z := gN + 1) (by omega)
          have A0 := HX9.abv (z := w.heap.size) (by omega)
          have U10 := U9.kps A9 k910 (fun k o h => by omega) k910.size
          have hcl := H1K.out S S' ⟨AX, cX, AE, cE, AHH, cHH⟩ ⟨AX2, cX2, AE2, cE2, AH2, cH2⟩ W10 Z10 J10 (I10.more (by have := b810.size; omega)) T10 U10 HOK.out HNX.out.2 HNX.out.1
          dsimp only [preW] at hcl
          have HCL := Lib.hid hcl
          have HA9 := Lib.hid A9; have HA0 := Lib.hid A0; have HC10 := Lib.hid C10; have HP10 := Lib.hid P10; have HN10 := Lib.hid N10; have HI10 := Lib.hid I10; have HU10 := Lib.hid U10; have HZ10 := Lib.hid Z10
          obtain ⟨a0, a1, a2, a3, a4, a5, a6, a7, a8⟩ := C10.at9
          obtain ⟨⟨p0, p1, p2⟩, -, hz2⟩ := P10.full3
          obtain ⟨⟨n0, n1, n2⟩, -, hz3⟩ := N10.full3
          have hz1 := C10.lt
          clear hcl A9 A0 C10 P10 N10 I10 T10 U9 U10 J10 Z10 b810 k910 b910 hW10 hSz HN9 HX9 HCALL HKEEP HJ8 HPI8 HSG8 HSI8 HKZ8 HC8 HP8 HN8 hz7 hgs hz8 hz9
          go_wp2_with fail
          refine HCL.out.mono ?_
          rintro e W11 ⟨rfl, hJ11, hK11⟩
          have hz7 := HZ7.out; have hgs := HGS.out
          have C11 := hK11.kps.blk HC10.out (HPZ.out _ (.cells #[] 0 (0, 0)) (by omega))
          have P11 := hK11.kps.blk HP10.out (HPZ.out _ (.cells #[] 0 (0, 0)) (by omega))
          have N11 := hK11.kps.blk HN10.out (HPZ.out _ (.cells #[] 0 (0, 0)) (by omega))
          have HI11 := Lib.hid (HI10.out.kpz HKA.out hK11.kps HPZ.out)
          have HU11 := Lib.hid (HU10.out.kps HA0.out hK11.kps HPZ.out hK11.kps.size)
          have HZ11 := Lib.hid (HZ10.out.trans hK11)
          have HJ11 := Lib.hid hJ11; have HC11 := Lib.hid C11; have HP11 := Lib.hid P11
          clear a0 a1 a2 a3 a4 a5 a6 a7 a8 p0 p1 p2 n0 n1 n2 hz1 hz2 hz3 HC10 HP10 HN10 HI10 HU10 HZ10 HCL hJ11 hK11
          obtain ⟨⟨p0, p1, p2⟩, ⟨f0, f1, f2⟩, hz2⟩ := P11.full3
          obtain ⟨⟨n0, n1, n2⟩, -, hz3⟩ := N11.full3
          clear C11 P11 N11 hz7 hgs
          go_wp2_with fail
          go_roundw
          case rel =>
            have hz7 := HZ7.out; have hgs := HGS.out
            refine ⟨k + 1, S', ⟨AX2, cX2, AE2, cE2, AH2, cH2⟩, by omega, by go_num, HJ.out _ _ _ _ _ HJ11.out (below_put3 (Below.refl _ _) (by omega)), HC11.out.far3 (by omega), HP11.out.put3, HI11.out.below (below_put3 (Below.refl _ _) (by omega)), HU11.out.kps (P := fun k _ => k ≠ g9) (z := gN + 1) HA9.out kps_put3 (fun k o h => by omega) (by simp), HA0.out, HNX.out.2, HZ11.out.put3 (by omega) (by omega)⟩
          case measure => simp [intOf]; omega
      · by_cases ex : x % 2 = 0
        · have ea1 : 0 < na := by omega
          obtain ⟨q, hq⟩ : ∃ q, x / 2 = q := ⟨_, rfl⟩
          obtain ⟨j, hj⟩ : ∃ j, q % na = j := ⟨_, rfl⟩
          have hjl : j < na := by rw [← hj]; exact Nat.mod_lt _ ea1
          have hqi : IntKind.i64.wrap ((x : Int) / 2) = (q : Int) := by rw [wrap_in (by omega) (by omega), ← hq]; omega
          have hji : (q : Int).tmod (na : Int) = (j : Int) := by rw [Int.tmod_eq_emod_of_nonneg (by omega), ← hj]; omega
          clear hq hj
          obtain ⟨aj, haj⟩ : ∃ aj, a[j]? = some aj := ⟨_, List.getElem?_eq_getElem (by have := HNA.out; omega)⟩
          obtain ⟨m1, m2, m3⟩ := HMA.out j aj haj
          have hvj : (nvs a)[j]? = some (.int .i64 (aj : Int)) := by simp only [nvs, List.getElem?_map, haj, Option.map_some]
          obtain ⟨gA, hgA⟩ := own_some (n := a.length) (A := A1) (hX7.out.held.own 0 _ rfl) (by have := HNA.out; omega)
          subst hgA
          obtain ⟨hcj, -, hzj, -⟩ := hX7.out.cell (i := 0) (j := j) rfl (by have := HNA.out; omega) hvj
          have HM13 := Lib.hid (And.intro m1 (And.intro m2 m3))
          have HCJ := Lib.hid (And.intro hcj hzj)
          clear m1 m2 m3 hvj haj hcj hzj
          go_wp2_with fail
          obtain ⟨w8, hw8⟩ : ∃ w8, w7.drew = w8 := ⟨_, rfl⟩
          have b78 : Below w7.heap.size w7 w8 := by rw [← hw8]; exact (Below.refl _ w7).drew
          have HC8 := Lib.hid (HC7.out.below b78 HC7.out.lt); have HP8 := Lib.hid (HP7.out.below b78 HP7.out.lt); have HN8 := Lib.hid (HN7.out.below b78 HN7.out.lt)
          have hz7 := HZ7.out
          have HJ8 := Lib.hid (HJ.out _ _ _ _ _ HJ7.out (b78.mono (by omega)))
          have hc7 := HC7.out.lt
          have HPI8 := Lib.hid (HPI7.out.below (b78.mono (by omega)))
          have HSG8 := Lib.hid (HSG7.out.below (b78.mono (by omega)))
          have HSI8 := Lib.hid (HSG8.out.more (show gN ≤ w8.heap.size by have := b78.size; omega))
          have HKZ8 := Lib.hid (HKZ7.out.trans (Kpz.all b78 (by omega)))
          have HZ8 := Lib.hid (show w7.heap.size ≤ w8.heap.size from b78.size)
          have HGN := Lib.hid (show gN ≠ gA from own_apart (hX7.out.held.own 0 _ rfl) HN7.out (show (3 : TypeId) ≠ 29 by decide))
          have hcj8 := (b78.cell (p := ⟨gA, j, none⟩) HCJ.out.2).trans HCJ.out.1
          have hgj8 : gA < w8.heap.size := by have := HCJ.out.2; have := b78.size; omega
          obtain ⟨S', d, hnx, hok', hcall⟩ := push_ok (K := ⟨AF, cF, AH, cH, AR, cR, AC, cC, AA, cA, AB, cB⟩) (Q := ⟨AX, cX, AE, cE, AHH, cHH⟩) (S := S) (w := w8) HG.out (HPI8.out.more (by have := HC8.out.lt; omega)) HSI8.out HOK.out HM13.out.1 HM13.out.2.1 HM13.out.2.2
          dsimp only [csrW, preW] at hcall
          have HCALL := Lib.hid hcall; have HNX := Lib.hid (And.intro hnx hok')
          have hkeep : ∀ W', Kps (fun k _ => k ≠ gN) w8 W' → Kps (fun k _ => k ≠ gN) w8 W' ∧ (W'.cell? ⟨g7, 0, none⟩ = some (.int .i64 (N : Int)) ∧ W'.cell? ⟨g7, 1, none⟩ = some (.int .i64 (s : Int)) ∧ W'.cell? ⟨g7, 2, none⟩ = some (.int .i64 (t : Int)) ∧ W'.cell? ⟨g7, 3, none⟩ = some (.slice AF (N + 1) cF) ∧ W'.cell? ⟨g7, 4, none⟩ = some (.slice AH M cH) ∧ W'.cell? ⟨g7, 5, none⟩ = some (.slice AR M cR) ∧ W'.cell? ⟨g7, 6, none⟩ = some (.slice AC M cC) ∧ W'.cell? ⟨g7, 7, none⟩ = some (.slice AA M cA) ∧ W'.cell? ⟨g7, 8, none⟩ = some (.slice AB M cB)) ∧ (W'.cell? ⟨g9, 0, none⟩ = some (.slice AX M cX) ∧ W'.cell? ⟨g9, 1, none⟩ = some (.slice AE N cE) ∧ W'.cell? ⟨g9, 2, none⟩ = some (.slice AHH N cHH)) ∧ W'.cell? ⟨gA, j, none⟩ = some (.int .i64 (aj : Int)) := by
            intro W' hb
            have hz7 := HZ7.out; have hgs := HGS.out
            obtain ⟨⟨p0, p1, p2⟩, -, -⟩ := (hb.blk HP8.out (by omega)).full3
            exact ⟨hb, (hb.blk HC8.out (by omega)).at9, ⟨p0, p1, p2⟩, hb.cell (p := ⟨gA, j, none⟩) (fun _ _ e => HGN.out e.symm) hcj8⟩
          have HKEEP := Lib.hid hkeep
          clear hcall hnx hok' hkeep hcj8 hgj8 b78 hz7 hc7 HC7 HP7 HN7 HJ7 HPI7 HSG7 HKZ7 HCJ HM13
          refine wp_region_held_drew (S := fun W' => Kps (fun k _ => k ≠ gN) w8 W' ∧ (W'.cell? ⟨g7, 0, none⟩ = some (.int .i64 (N : Int)) ∧ W'.cell? ⟨g7, 1, none⟩ = some (.int .i64 (s : Int)) ∧ W'.cell? ⟨g7, 2, none⟩ = some (.int .i64 (t : Int)) ∧ W'.cell? ⟨g7, 3, none⟩ = some (.slice AF (N + 1) cF) ∧ W'.cell? ⟨g7, 4, none⟩ = some (.slice AH M cH) ∧ W'.cell? ⟨g7, 5, none⟩ = some (.slice AR M cR) ∧ W'.cell? ⟨g7, 6, none⟩ = some (.slice AC M cC) ∧ W'.cell? ⟨g7, 7, none⟩ = some (.slice AA M cA) ∧ W'.cell? ⟨g7, 8, none⟩ = some (.slice AB M cB)) ∧ (W'.cell? ⟨g9, 0, none⟩ = some (.slice AX M cX) ∧ W'.cell? ⟨g9, 1, none⟩ = some (.slice AE N cE) ∧ W'.cell? ⟨g9, 2, none⟩ = some (.slice AHH N cHH)) ∧ W'.cell? ⟨gA, j, none⟩ = some (.int .i64 (aj : Int))) (by kernel_rfl) (by rw [hw8]; exact HKEEP.out _ Kps.refl) (fun hS0 => ?_)
          rw [hw8] at hS0 ⊢
          clear hw8
          refine takeD (i := 0) (v := ?_) (some 61) rfl rfl (by kernel_rfl) (by kernel_rfl) (by kernel_rfl) (fun _ _ _ h => h) (Or.inl ⟨by rfl, ?_⟩) (by assumption) ?_
          rotate_left
          · (intro W hSw; obtain ⟨-, ⟨a0, a1, a2, a3, a4, a5, a6, a7, a8⟩, ⟨p0, p1, p2⟩, cj⟩ := hSw; go_simp; try with_reducible rfl)
          simp only [Act.put, List.setIfInBounds_toArray, List.set_cons_zero, List.set_cons_succ]
          refine takeD (i := 1) (v := ?_) (some 62) rfl rfl (by kernel_rfl) (by kernel_rfl) (by kernel_rfl) (fun _ _ _ h => h) (Or.inl ⟨by rfl, ?_⟩) (by assumption) ?_
          rotate_left
          · (intro W hSw; obtain ⟨-, ⟨a0, a1, a2, a3, a4, a5, a6, a7, a8⟩, ⟨p0, p1, p2⟩, cj⟩ := hSw; go_simp; try with_reducible rfl)
          simp only [Act.put, List.setIfInBounds_toArray, List.set_cons_zero, List.set_cons_succ]
          refine takeD (i := 2) (v := ?_) (some 63) rfl rfl (by kernel_rfl) (by kernel_rfl) (by kernel_rfl) (fun _ _ _ h => h) (Or.inl ⟨by rfl, ?_⟩) (by assumption) ?_
          rotate_left
          · (intro W hSw; obtain ⟨-, ⟨a0, a1, a2, a3, a4, a5, a6, a7, a8⟩, ⟨p0, p1, p2⟩, cj⟩ := hSw; go_simp; try with_reducible rfl)
          simp only [Act.put, List.setIfInBounds_toArray, List.set_cons_zero, List.set_cons_succ]
          refine takeD (i := 3) (v := ?_) (some 64) rfl rfl (by kernel_rfl) (by kernel_rfl) (by kernel_rfl) (fun _ _ _ h => h) (Or.inl ⟨by rfl, ?_⟩) (by assumption) ?_
          rotate_left
          · (intro W hSw; obtain ⟨-, ⟨a0, a1, a2, a3, a4, a5, a6, a7, a8⟩, ⟨p0, p1, p2⟩, cj⟩ := hSw; go_simp; try with_reducible rfl)
          simp only [Act.put, List.setIfInBounds_toArray, List.set_cons_zero, List.set_cons_succ]
          refine takeD (i := 4) (v := ?_) (some 65) rfl rfl (by kernel_rfl) (by kernel_rfl) (by kernel_rfl) (fun _ _ _ h => h) (Or.inl ⟨by rfl, ?_⟩) (by assumption) ?_
          rotate_left
          · (intro W hSw; obtain ⟨-, ⟨a0, a1, a2, a3, a4, a5, a6, a7, a8⟩, ⟨p0, p1, p2⟩, cj⟩ := hSw; go_simp; try with_reducible rfl)
          simp only [Act.put, List.setIfInBounds_toArray, List.set_cons_zero, List.set_cons_succ]
          refine takeD (i := 5) (v := ?_) (some 66) rfl rfl (by kernel_rfl) (by kernel_rfl) (by kernel_rfl) (fun _ _ _ h => h) (Or.inl ⟨by rfl, ?_⟩) (by assumption) ?_
          rotate_left
          · (intro W hSw; obtain ⟨-, ⟨a0, a1, a2, a3, a4, a5, a6, a7, a8⟩, ⟨p0, p1, p2⟩, cj⟩ := hSw; go_simp; try with_reducible rfl)
          simp only [Act.put, List.setIfInBounds_toArray, List.set_cons_zero, List.set_cons_succ]
          refine takeD (i := 6) (v := ?_) (some 67) rfl rfl (by kernel_rfl) (by kernel_rfl) (by kernel_rfl) (fun _ _ _ h => h) (Or.inl ⟨by rfl, ?_⟩) (by assumption) ?_
          rotate_left
          · (intro W hSw; obtain ⟨-, ⟨a0, a1, a2, a3, a4, a5, a6, a7, a8⟩, ⟨p0, p1, p2⟩, cj⟩ := hSw; go_simp; try with_reducible rfl)
          simp only [Act.put, List.setIfInBounds_toArray, List.set_cons_zero, List.set_cons_succ]
          refine takeD (i := 7) (v := ?_) (some 68) rfl rfl (by kernel_rfl) (by kernel_rfl) (by kernel_rfl) (fun _ _ _ h => h) (Or.inl ⟨by rfl, ?_⟩) (by assumption) ?_
          rotate_left
          · (intro W hSw; obtain ⟨-, ⟨a0, a1, a2, a3, a4, a5, a6, a7, a8⟩, ⟨p0, p1, p2⟩, cj⟩ := hSw; go_simp; try with_reducible rfl)
          simp only [Act.put, List.setIfInBounds_toArray, List.set_cons_zero, List.set_cons_succ]
          refine takeD (i := 8) (v := ?_) (some 69) rfl rfl (by kernel_rfl) (by kernel_rfl) (by kernel_rfl) (fun _ _ _ h => h) (Or.inl ⟨by rfl, ?_⟩) (by assumption) ?_
          rotate_left
          · (intro W hSw; obtain ⟨-, ⟨a0, a1, a2, a3, a4, a5, a6, a7, a8⟩, ⟨p0, p1, p2⟩, cj⟩ := hSw; go_simp; try with_reducible rfl)
          simp only [Act.put, List.setIfInBounds_toArray, List.set_cons_zero, List.set_cons_succ]
          refine takeD (i := 9) (v := ?_) (some 70) rfl rfl (by kernel_rfl) (by kernel_rfl) (by kernel_rfl) (fun _ _ _ h => h) (Or.inl ⟨by rfl, ?_⟩) (by assumption) ?_
          rotate_left
          · (intro W hSw; obtain ⟨-, ⟨a0, a1, a2, a3, a4, a5, a6, a7, a8⟩, ⟨p0, p1, p2⟩, cj⟩ := hSw; go_simp; try with_reducible rfl)
          simp only [Act.put, List.setIfInBounds_toArray, List.set_cons_zero, List.set_cons_succ]
          refine wpAnyH_ready (rs := [10]) (by kernel_rfl) (by simp) ?_
          refine AllReadyH.cons rfl (fun K hK => ?_) AllReadyH.nil
          go_simp
          refine HCALL.out.mono ?_
          rintro e W9 ⟨⟨AX2, cX2, AE2, cE2, AH2, cH2⟩, rfl, HX9⟩
          dsimp only [preW] at HX9 ⊢
          refine hK.out _ _ (HKEEP.out _ (Kps.all HX9.bel)) (fun hSa => ?_)
          clear hK K
          try simp only [Act.put, List.setIfInBounds_toArray, List.set_cons_zero, List.set_cons_succ]
          refine takeD (i := 11) (v := ?_) (some 60) rfl rfl (by kernel_rfl) (by kernel_rfl) (by kernel_rfl) (fun _ _ _ h => h) (Or.inl ⟨by rfl, ?_⟩) (by assumption) ?_
          rotate_left
          · (intro W hSw; obtain ⟨-, ⟨a0, a1, a2, a3, a4, a5, a6, a7, a8⟩, ⟨p0, p1, p2⟩, cj⟩ := hSw; go_simp; try with_reducible rfl)
          simp only [Act.put, List.setIfInBounds_toArray, List.set_cons_zero, List.set_cons_succ]
          refine takeD (i := 12) (v := ?_) (some 72) rfl rfl (by kernel_rfl) (by kernel_rfl) (by kernel_rfl) (fun _ _ _ h => h) (Or.inl ⟨by rfl, ?_⟩) (by assumption) ?_
          rotate_left
          · (intro W hSw; obtain ⟨-, ⟨a0, a1, a2, a3, a4, a5, a6, a7, a8⟩, ⟨p0, p1, p2⟩, cj⟩ := hSw; go_simp; try with_reducible rfl)
          simp only [Act.put, List.setIfInBounds_toArray, List.set_cons_zero, List.set_cons_succ]
          refine takeD (i := 13) (v := ?_) (some 73) rfl rfl (by kernel_rfl) (by kernel_rfl) (by kernel_rfl) (fun _ _ _ h => h) (Or.inl ⟨by rfl, ?_⟩) (by assumption) ?_
          rotate_left
          · (intro W hSw; obtain ⟨-, ⟨a0, a1, a2, a3, a4, a5, a6, a7, a8⟩, ⟨p0, p1, p2⟩, cj⟩ := hSw; go_simp; try with_reducible rfl)
          simp only [Act.put, List.setIfInBounds_toArray, List.set_cons_zero, List.set_cons_succ]
          refine takeD (i := 14) (v := ?_) (some 74) rfl rfl (by kernel_rfl) (by kernel_rfl) (by kernel_rfl) (fun _ _ _ h => h) (Or.inl ⟨by rfl, ?_⟩) (by assumption) ?_
          rotate_left
          · (intro W hSw; obtain ⟨-, ⟨a0, a1, a2, a3, a4, a5, a6, a7, a8⟩, ⟨p0, p1, p2⟩, cj⟩ := hSw; go_simp; try with_reducible rfl)
          simp only [Act.put, List.setIfInBounds_toArray, List.set_cons_zero, List.set_cons_succ]
          have HN9 := HN8.out.below HX9.bel HN8.out.lt
          obtain ⟨⟨q0, q1, q2⟩, ⟨f0, f1, f2⟩, hzp⟩ := HN9.full3
          refine wpAnyH_ready (rs := [15]) (by kernel_rfl) (by simp) ?_
          refine AllReadyH.cons rfl (fun K hK => ?_) AllReadyH.nil
          go_simp
          refine hK.out _ _ (HKEEP.out _ ((Kps.all HX9.bel).trans (kps_put3 (W := W9) (g := gN) (x := .slice AX2 M cX2) (y := .slice AE2 N cE2) (v := .slice AH2 N cH2)))) (fun hSz => ?_)
          clear hK K q0 q1 q2 f0 f1 f2 hzp hSa
          try simp only [Act.put, List.setIfInBounds_toArray, List.set_cons_zero, List.set_cons_succ]
          refine takeD (i := 16) (v := ?_) (some 16) rfl rfl (by kernel_rfl) (by kernel_rfl) (by kernel_rfl) (fun _ _ _ h => h) (Or.inl ⟨by rfl, ?_⟩) (by assumption) ?_
          rotate_left
          · (intro W hSw; obtain ⟨-, ⟨a0, a1, a2, a3, a4, a5, a6, a7, a8⟩, ⟨p0, p1, p2⟩, cj⟩ := hSw; go_simp; try with_reducible rfl)
          simp only [Act.put, List.setIfInBounds_toArray, List.set_cons_zero, List.set_cons_succ]
          refine wpAnyH_done (by kernel_rfl) ?_ _
          obtain ⟨W10, hW10⟩ : ∃ W, put3 W9 gN (.slice AX2 M cX2) (.slice AE2 N cE2) (.slice AH2 N cH2) = W := ⟨_, rfl⟩
          have hz7 := HZ7.out; have hgs := HGS.out; have hz8 := HZ8.out; have hz9 := HX9.bel.size
          have k910 : Kps (fun k _ => k ≠ gN) W9 W10 := by rw [← hW10]; exact kps_put3
          have b910 : Below gN W9 W10 := by rw [← hW10]; exact below_put3 (Below.refl _ _) (Nat.le_refl _)
          have N10 : Blk W10 gN 29 #[.slice AX2 M cX2, .slice AE2 N cE2, .slice AH2 N cH2] := by rw [← hW10]; exact HN9.put3
          have Z10 : Kpz sp b0 w W10 := by rw [← hW10]; exact (HKZ8.out.trans (Kpz.all HX9.bel (by omega))).put3 (by omega) (by omega)
          change put3 W9 gN (.slice AX2 M cX2) (.slice AE2 N cE2) (.slice AH2 N cH2) = W10 at hW10
          dsimp only [put3] at hW10
          rw [hW10] at hSz ⊢
          have b810 : Below gN w8 W10 := (HX9.bel.mono (by omega)).trans b910
          have C10 := hSz.1.blk HC8.out (by omega)
          have P10 := hSz.1.blk HP8.out (by omega)
          have J10 := HJ.out _ _ _ _ _ HJ8.out (b810.mono (by omega))
          have I10 := HPI8.out.below (b810.mono (by omega))
          have T10 := (HSG8.out.below b810).more (show gN ≤ W10.heap.size by have := b810.size; omega)
          have U9 := HX9.st HNX.out.2.bal.1 HNX.out.2.le HNX.out.2.lh
          have A9 := HX9.abv (z := gN + 1) (by omega)
          have A0 := HX9.abv (z := w.heap.size) (by omega)
          have U10 := U9.kps A9 k910 (fun k o h => by omega) k910.size
          have hcl := H1K.out S S' ⟨AX, cX, AE, cE, AHH, cHH⟩ ⟨AX2, cX2, AE2, cE2, AH2, cH2⟩ W10 Z10 J10 (I10.more (by have := b810.size; omega)) T10 U10 HOK.out HNX.out.2 HNX.out.1
          dsimp only [preW] at hcl
          have HCL := Lib.hid hcl
          have HA9 := Lib.hid A9; have HA0 := Lib.hid A0; have HC10 := Lib.hid C10; have HP10 := Lib.hid P10; have HN10 := Lib.hid N10; have HI10 := Lib.hid I10; have HU10 := Lib.hid U10; have HZ10 := Lib.hid Z10
          obtain ⟨a0, a1, a2, a3, a4, a5, a6, a7, a8⟩ := C10.at9
          obtain ⟨⟨p0, p1, p2⟩, -, hz2⟩ := P10.full3
          obtain ⟨⟨n0, n1, n2⟩, -, hz3⟩ := N10.full3
          have hz1 := C10.lt
          clear hcl A9 A0 C10 P10 N10 I10 T10 U9 U10 J10 Z10 b810 k910 b910 hW10 hSz HN9 HX9 HCALL HKEEP HJ8 HPI8 HSG8 HSI8 HKZ8 HC8 HP8 HN8 hz7 hgs hz8 hz9
          go_wp2_with fail
          refine HCL.out.mono ?_
          rintro e W11 ⟨rfl, hJ11, hK11⟩
          have hz7 := HZ7.out; have hgs := HGS.out
          have C11 := hK11.kps.blk HC10.out (HPZ.out _ (.cells #[] 0 (0, 0)) (by omega))
          have P11 := hK11.kps.blk HP10.out (HPZ.out _ (.cells #[] 0 (0, 0)) (by omega))
          have N11 := hK11.kps.blk HN10.out (HPZ.out _ (.cells #[] 0 (0, 0)) (by omega))
          have HI11 := Lib.hid (HI10.out.kpz HKA.out hK11.kps HPZ.out)
          have HU11 := Lib.hid (HU10.out.kps HA0.out hK11.kps HPZ.out hK11.kps.size)
          have HZ11 := Lib.hid (HZ10.out.trans hK11)
          have HJ11 := Lib.hid hJ11; have HC11 := Lib.hid C11; have HP11 := Lib.hid P11
          clear a0 a1 a2 a3 a4 a5 a6 a7 a8 p0 p1 p2 n0 n1 n2 hz1 hz2 hz3 HC10 HP10 HN10 HI10 HU10 HZ10 HCL hJ11 hK11
          obtain ⟨⟨p0, p1, p2⟩, ⟨f0, f1, f2⟩, hz2⟩ := P11.full3
          obtain ⟨⟨n0, n1, n2⟩, -, hz3⟩ := N11.full3
          clear C11 P11 N11 hz7 hgs
          go_wp2_with fail
          go_roundw
          case rel =>
            have hz7 := HZ7.out; have hgs := HGS.out
            refine ⟨k + 1, S', ⟨AX2, cX2, AE2, cE2, AH2, cH2⟩, by omega, by go_num, HJ.out _ _ _ _ _ HJ11.out (below_put3 (Below.refl _ _) (by omega)), HC11.out.far3 (by omega), HP11.out.put3, HI11.out.below (below_put3 (Below.refl _ _) (by omega)), HU11.out.kps (P := fun k _ => k ≠ g9) (z := gN + 1) HA9.out kps_put3 (fun k o h => by omega) (by simp), HA0.out, HNX.out.2, HZ11.out.put3 (by omega) (by omega)⟩
          case measure => simp [intOf]; omega
        · have ex1 : x % 2 = 1 := by omega
          have ea1 : 0 < na := by omega
          clear ex
          by_cases ev : nv = 0
          · subst ev
            obtain ⟨q, hq⟩ : ∃ q, x / 2 = q := ⟨_, rfl⟩
            obtain ⟨j, hj⟩ : ∃ j, q % na = j := ⟨_, rfl⟩
            have hjl : j < na := by rw [← hj]; exact Nat.mod_lt _ ea1
            have hqi : IntKind.i64.wrap ((x : Int) / 2) = (q : Int) := by rw [wrap_in (by omega) (by omega), ← hq]; omega
            have hji : (q : Int).tmod (na : Int) = (j : Int) := by rw [Int.tmod_eq_emod_of_nonneg (by omega), ← hj]; omega
            clear hq hj
            obtain ⟨aj, haj⟩ : ∃ aj, a[j]? = some aj := ⟨_, List.getElem?_eq_getElem (by have := HNA.out; omega)⟩
            obtain ⟨m1, m2, m3⟩ := HMA.out j aj haj
            have hvj : (nvs a)[j]? = some (.int .i64 (aj : Int)) := by simp only [nvs, List.getElem?_map, haj, Option.map_some]
            obtain ⟨gA, hgA⟩ := own_some (n := a.length) (A := A1) (hX7.out.held.own 0 _ rfl) (by have := HNA.out; omega)
            subst hgA
            obtain ⟨hcj, -, hzj, -⟩ := hX7.out.cell (i := 0) (j := j) rfl (by have := HNA.out; omega) hvj
            have HM13 := Lib.hid (And.intro m1 (And.intro m2 m3))
            have HCJ := Lib.hid (And.intro hcj hzj)
            clear m1 m2 m3 hvj haj hcj hzj
            go_wp2_with fail
            obtain ⟨w8, hw8⟩ : ∃ w8, w7.drew = w8 := ⟨_, rfl⟩
            have b78 : Below w7.heap.size w7 w8 := by rw [← hw8]; exact (Below.refl _ w7).drew
            have HC8 := Lib.hid (HC7.out.below b78 HC7.out.lt); have HP8 := Lib.hid (HP7.out.below b78 HP7.out.lt); have HN8 := Lib.hid (HN7.out.below b78 HN7.out.lt)
            have hz7 := HZ7.out
            have HJ8 := Lib.hid (HJ.out _ _ _ _ _ HJ7.out (b78.mono (by omega)))
            have hc7 := HC7.out.lt
            have HPI8 := Lib.hid (HPI7.out.below (b78.mono (by omega)))
            have HSG8 := Lib.hid (HSG7.out.below (b78.mono (by omega)))
            have HSI8 := Lib.hid (HSG8.out.more (show gN ≤ w8.heap.size by have := b78.size; omega))
            have HKZ8 := Lib.hid (HKZ7.out.trans (Kpz.all b78 (by omega)))
            have HZ8 := Lib.hid (show w7.heap.size ≤ w8.heap.size from b78.size)
            have HGN := Lib.hid (show gN ≠ gA from own_apart (hX7.out.held.own 0 _ rfl) HN7.out (show (3 : TypeId) ≠ 29 by decide))
            have hcj8 := (b78.cell (p := ⟨gA, j, none⟩) HCJ.out.2).trans HCJ.out.1
            have hgj8 : gA < w8.heap.size := by have := HCJ.out.2; have := b78.size; omega
            obtain ⟨S', d, hnx, hok', hcall⟩ := push_ok (K := ⟨AF, cF, AH, cH, AR, cR, AC, cC, AA, cA, AB, cB⟩) (Q := ⟨AX, cX, AE, cE, AHH, cHH⟩) (S := S) (w := w8) HG.out (HPI8.out.more (by have := HC8.out.lt; omega)) HSI8.out HOK.out HM13.out.1 HM13.out.2.1 HM13.out.2.2
            dsimp only [csrW, preW] at hcall
            have HCALL := Lib.hid hcall; have HNX := Lib.hid (And.intro hnx hok')
            have hkeep : ∀ W', Kps (fun k _ => k ≠ gN) w8 W' → Kps (fun k _ => k ≠ gN) w8 W' ∧ (W'.cell? ⟨g7, 0, none⟩ = some (.int .i64 (N : Int)) ∧ W'.cell? ⟨g7, 1, none⟩ = some (.int .i64 (s : Int)) ∧ W'.cell? ⟨g7, 2, none⟩ = some (.int .i64 (t : Int)) ∧ W'.cell? ⟨g7, 3, none⟩ = some (.slice AF (N + 1) cF) ∧ W'.cell? ⟨g7, 4, none⟩ = some (.slice AH M cH) ∧ W'.cell? ⟨g7, 5, none⟩ = some (.slice AR M cR) ∧ W'.cell? ⟨g7, 6, none⟩ = some (.slice AC M cC) ∧ W'.cell? ⟨g7, 7, none⟩ = some (.slice AA M cA) ∧ W'.cell? ⟨g7, 8, none⟩ = some (.slice AB M cB)) ∧ (W'.cell? ⟨g9, 0, none⟩ = some (.slice AX M cX) ∧ W'.cell? ⟨g9, 1, none⟩ = some (.slice AE N cE) ∧ W'.cell? ⟨g9, 2, none⟩ = some (.slice AHH N cHH)) ∧ W'.cell? ⟨gA, j, none⟩ = some (.int .i64 (aj : Int)) := by
              intro W' hb
              have hz7 := HZ7.out; have hgs := HGS.out
              obtain ⟨⟨p0, p1, p2⟩, -, -⟩ := (hb.blk HP8.out (by omega)).full3
              exact ⟨hb, (hb.blk HC8.out (by omega)).at9, ⟨p0, p1, p2⟩, hb.cell (p := ⟨gA, j, none⟩) (fun _ _ e => HGN.out e.symm) hcj8⟩
            have HKEEP := Lib.hid hkeep
            clear hcall hnx hok' hkeep hcj8 hgj8 b78 hz7 hc7 HC7 HP7 HN7 HJ7 HPI7 HSG7 HKZ7 HCJ HM13
            refine wp_region_held_drew (S := fun W' => Kps (fun k _ => k ≠ gN) w8 W' ∧ (W'.cell? ⟨g7, 0, none⟩ = some (.int .i64 (N : Int)) ∧ W'.cell? ⟨g7, 1, none⟩ = some (.int .i64 (s : Int)) ∧ W'.cell? ⟨g7, 2, none⟩ = some (.int .i64 (t : Int)) ∧ W'.cell? ⟨g7, 3, none⟩ = some (.slice AF (N + 1) cF) ∧ W'.cell? ⟨g7, 4, none⟩ = some (.slice AH M cH) ∧ W'.cell? ⟨g7, 5, none⟩ = some (.slice AR M cR) ∧ W'.cell? ⟨g7, 6, none⟩ = some (.slice AC M cC) ∧ W'.cell? ⟨g7, 7, none⟩ = some (.slice AA M cA) ∧ W'.cell? ⟨g7, 8, none⟩ = some (.slice AB M cB)) ∧ (W'.cell? ⟨g9, 0, none⟩ = some (.slice AX M cX) ∧ W'.cell? ⟨g9, 1, none⟩ = some (.slice AE N cE) ∧ W'.cell? ⟨g9, 2, none⟩ = some (.slice AHH N cHH)) ∧ W'.cell? ⟨gA, j, none⟩ = some (.int .i64 (aj : Int))) (by kernel_rfl) (by rw [hw8]; exact HKEEP.out _ Kps.refl) (fun hS0 => ?_)
            rw [hw8] at hS0 ⊢
            clear hw8
            refine takeD (i := 0) (v := ?_) (some 61) rfl rfl (by kernel_rfl) (by kernel_rfl) (by kernel_rfl) (fun _ _ _ h => h) (Or.inl ⟨by rfl, ?_⟩) (by assumption) ?_
            rotate_left
            · (intro W hSw; obtain ⟨-, ⟨a0, a1, a2, a3, a4, a5, a6, a7, a8⟩, ⟨p0, p1, p2⟩, cj⟩ := hSw; go_simp; try with_reducible rfl)
            simp only [Act.put, List.setIfInBounds_toArray, List.set_cons_zero, List.set_cons_succ]
            refine takeD (i := 1) (v := ?_) (some 62) rfl rfl (by kernel_rfl) (by kernel_rfl) (by kernel_rfl) (fun _ _ _ h => h) (Or.inl ⟨by rfl, ?_⟩) (by assumption) ?_
            rotate_left
            · (intro W hSw; obtain ⟨-, ⟨a0, a1, a2, a3, a4, a5, a6, a7, a8⟩, ⟨p0, p1, p2⟩, cj⟩ := hSw; go_simp; try with_reducible rfl)
            simp only [Act.put, List.setIfInBounds_toArray, List.set_cons_zero, List.set_cons_succ]
            refine takeD (i := 2) (v := ?_) (some 63) rfl rfl (by kernel_rfl) (by kernel_rfl) (by kernel_rfl) (fun _ _ _ h => h) (Or.inl ⟨by rfl, ?_⟩) (by assumption) ?_
            rotate_left
            · (intro W hSw; obtain ⟨-, ⟨a0, a1, a2, a3, a4, a5, a6, a7, a8⟩, ⟨p0, p1, p2⟩, cj⟩ := hSw; go_simp; try with_reducible rfl)
            simp only [Act.put, List.setIfInBounds_toArray, List.set_cons_zero, List.set_cons_succ]
            refine takeD (i := 3) (v := ?_) (some 64) rfl rfl (by kernel_rfl) (by kernel_rfl) (by kernel_rfl) (fun _ _ _ h => h) (Or.inl ⟨by rfl, ?_⟩) (by assumption) ?_
            rotate_left
            · (intro W hSw; obtain ⟨-, ⟨a0, a1, a2, a3, a4, a5, a6, a7, a8⟩, ⟨p0, p1, p2⟩, cj⟩ := hSw; go_simp; try with_reducible rfl)
            simp only [Act.put, List.setIfInBounds_toArray, List.set_cons_zero, List.set_cons_succ]
            refine takeD (i := 4) (v := ?_) (some 65) rfl rfl (by kernel_rfl) (by kernel_rfl) (by kernel_rfl) (fun _ _ _ h => h) (Or.inl ⟨by rfl, ?_⟩) (by assumption) ?_
            rotate_left
            · (intro W hSw; obtain ⟨-, ⟨a0, a1, a2, a3, a4, a5, a6, a7, a8⟩, ⟨p0, p1, p2⟩, cj⟩ := hSw; go_simp; try with_reducible rfl)
            simp only [Act.put, List.setIfInBounds_toArray, List.set_cons_zero, List.set_cons_succ]
            refine takeD (i := 5) (v := ?_) (some 66) rfl rfl (by kernel_rfl) (by kernel_rfl) (by kernel_rfl) (fun _ _ _ h => h) (Or.inl ⟨by rfl, ?_⟩) (by assumption) ?_
            rotate_left
            · (intro W hSw; obtain ⟨-, ⟨a0, a1, a2, a3, a4, a5, a6, a7, a8⟩, ⟨p0, p1, p2⟩, cj⟩ := hSw; go_simp; try with_reducible rfl)
            simp only [Act.put, List.setIfInBounds_toArray, List.set_cons_zero, List.set_cons_succ]
            refine takeD (i := 6) (v := ?_) (some 67) rfl rfl (by kernel_rfl) (by kernel_rfl) (by kernel_rfl) (fun _ _ _ h => h) (Or.inl ⟨by rfl, ?_⟩) (by assumption) ?_
            rotate_left
            · (intro W hSw; obtain ⟨-, ⟨a0, a1, a2, a3, a4, a5, a6, a7, a8⟩, ⟨p0, p1, p2⟩, cj⟩ := hSw; go_simp; try with_reducible rfl)
            simp only [Act.put, List.setIfInBounds_toArray, List.set_cons_zero, List.set_cons_succ]
            refine takeD (i := 7) (v := ?_) (some 68) rfl rfl (by kernel_rfl) (by kernel_rfl) (by kernel_rfl) (fun _ _ _ h => h) (Or.inl ⟨by rfl, ?_⟩) (by assumption) ?_
            rotate_left
            · (intro W hSw; obtain ⟨-, ⟨a0, a1, a2, a3, a4, a5, a6, a7, a8⟩, ⟨p0, p1, p2⟩, cj⟩ := hSw; go_simp; try with_reducible rfl)
            simp only [Act.put, List.setIfInBounds_toArray, List.set_cons_zero, List.set_cons_succ]
            refine takeD (i := 8) (v := ?_) (some 69) rfl rfl (by kernel_rfl) (by kernel_rfl) (by kernel_rfl) (fun _ _ _ h => h) (Or.inl ⟨by rfl, ?_⟩) (by assumption) ?_
            rotate_left
            · (intro W hSw; obtain ⟨-, ⟨a0, a1, a2, a3, a4, a5, a6, a7, a8⟩, ⟨p0, p1, p2⟩, cj⟩ := hSw; go_simp; try with_reducible rfl)
            simp only [Act.put, List.setIfInBounds_toArray, List.set_cons_zero, List.set_cons_succ]
            refine takeD (i := 9) (v := ?_) (some 70) rfl rfl (by kernel_rfl) (by kernel_rfl) (by kernel_rfl) (fun _ _ _ h => h) (Or.inl ⟨by rfl, ?_⟩) (by assumption) ?_
            rotate_left
            · (intro W hSw; obtain ⟨-, ⟨a0, a1, a2, a3, a4, a5, a6, a7, a8⟩, ⟨p0, p1, p2⟩, cj⟩ := hSw; go_simp; try with_reducible rfl)
            simp only [Act.put, List.setIfInBounds_toArray, List.set_cons_zero, List.set_cons_succ]
            refine wpAnyH_ready (rs := [10]) (by kernel_rfl) (by simp) ?_
            refine AllReadyH.cons rfl (fun K hK => ?_) AllReadyH.nil
            go_simp
            refine HCALL.out.mono ?_
            rintro e W9 ⟨⟨AX2, cX2, AE2, cE2, AH2, cH2⟩, rfl, HX9⟩
            dsimp only [preW] at HX9 ⊢
            refine hK.out _ _ (HKEEP.out _ (Kps.all HX9.bel)) (fun hSa => ?_)
            clear hK K
            try simp only [Act.put, List.setIfInBounds_toArray, List.set_cons_zero, List.set_cons_succ]
            refine takeD (i := 11) (v := ?_) (some 60) rfl rfl (by kernel_rfl) (by kernel_rfl) (by kernel_rfl) (fun _ _ _ h => h) (Or.inl ⟨by rfl, ?_⟩) (by assumption) ?_
            rotate_left
            · (intro W hSw; obtain ⟨-, ⟨a0, a1, a2, a3, a4, a5, a6, a7, a8⟩, ⟨p0, p1, p2⟩, cj⟩ := hSw; go_simp; try with_reducible rfl)
            simp only [Act.put, List.setIfInBounds_toArray, List.set_cons_zero, List.set_cons_succ]
            refine takeD (i := 12) (v := ?_) (some 72) rfl rfl (by kernel_rfl) (by kernel_rfl) (by kernel_rfl) (fun _ _ _ h => h) (Or.inl ⟨by rfl, ?_⟩) (by assumption) ?_
            rotate_left
            · (intro W hSw; obtain ⟨-, ⟨a0, a1, a2, a3, a4, a5, a6, a7, a8⟩, ⟨p0, p1, p2⟩, cj⟩ := hSw; go_simp; try with_reducible rfl)
            simp only [Act.put, List.setIfInBounds_toArray, List.set_cons_zero, List.set_cons_succ]
            refine takeD (i := 13) (v := ?_) (some 73) rfl rfl (by kernel_rfl) (by kernel_rfl) (by kernel_rfl) (fun _ _ _ h => h) (Or.inl ⟨by rfl, ?_⟩) (by assumption) ?_
            rotate_left
            · (intro W hSw; obtain ⟨-, ⟨a0, a1, a2, a3, a4, a5, a6, a7, a8⟩, ⟨p0, p1, p2⟩, cj⟩ := hSw; go_simp; try with_reducible rfl)
            simp only [Act.put, List.setIfInBounds_toArray, List.set_cons_zero, List.set_cons_succ]
            refine takeD (i := 14) (v := ?_) (some 74) rfl rfl (by kernel_rfl) (by kernel_rfl) (by kernel_rfl) (fun _ _ _ h => h) (Or.inl ⟨by rfl, ?_⟩) (by assumption) ?_
            rotate_left
            · (intro W hSw; obtain ⟨-, ⟨a0, a1, a2, a3, a4, a5, a6, a7, a8⟩, ⟨p0, p1, p2⟩, cj⟩ := hSw; go_simp; try with_reducible rfl)
            simp only [Act.put, List.setIfInBounds_toArray, List.set_cons_zero, List.set_cons_succ]
            have HN9 := HN8.out.below HX9.bel HN8.out.lt
            obtain ⟨⟨q0, q1, q2⟩, ⟨f0, f1, f2⟩, hzp⟩ := HN9.full3
            refine wpAnyH_ready (rs := [15]) (by kernel_rfl) (by simp) ?_
            refine AllReadyH.cons rfl (fun K hK => ?_) AllReadyH.nil
            go_simp
            refine hK.out _ _ (HKEEP.out _ ((Kps.all HX9.bel).trans (kps_put3 (W := W9) (g := gN) (x := .slice AX2 M cX2) (y := .slice AE2 N cE2) (v := .slice AH2 N cH2)))) (fun hSz => ?_)
            clear hK K q0 q1 q2 f0 f1 f2 hzp hSa
            try simp only [Act.put, List.setIfInBounds_toArray, List.set_cons_zero, List.set_cons_succ]
            refine takeD (i := 16) (v := ?_) (some 16) rfl rfl (by kernel_rfl) (by kernel_rfl) (by kernel_rfl) (fun _ _ _ h => h) (Or.inl ⟨by rfl, ?_⟩) (by assumption) ?_
            rotate_left
            · (intro W hSw; obtain ⟨-, ⟨a0, a1, a2, a3, a4, a5, a6, a7, a8⟩, ⟨p0, p1, p2⟩, cj⟩ := hSw; go_simp; try with_reducible rfl)
            simp only [Act.put, List.setIfInBounds_toArray, List.set_cons_zero, List.set_cons_succ]
            refine wpAnyH_done (by kernel_rfl) ?_ _
            obtain ⟨W10, hW10⟩ : ∃ W, put3 W9 gN (.slice AX2 M cX2) (.slice AE2 N cE2) (.slice AH2 N cH2) = W := ⟨_, rfl⟩
            have hz7 := HZ7.out; have hgs := HGS.out; have hz8 := HZ8.out; have hz9 := HX9.bel.size
            have k910 : Kps (fun k _ => k ≠ gN) W9 W10 := by rw [← hW10]; exact kps_put3
            have b910 : Below gN W9 W10 := by rw [← hW10]; exact below_put3 (Below.refl _ _) (Nat.le_refl _)
            have N10 : Blk W10 gN 29 #[.slice AX2 M cX2, .slice AE2 N cE2, .slice AH2 N cH2] := by rw [← hW10]; exact HN9.put3
            have Z10 : Kpz sp b0 w W10 := by rw [← hW10]; exact (HKZ8.out.trans (Kpz.all HX9.bel (by omega))).put3 (by omega) (by omega)
            change put3 W9 gN (.slice AX2 M cX2) (.slice AE2 N cE2) (.slice AH2 N cH2) = W10 at hW10
            dsimp only [put3] at hW10
            rw [hW10] at hSz ⊢
            have b810 : Below gN w8 W10 := (HX9.bel.mono (by omega)).trans b910
            have C10 := hSz.1.blk HC8.out (by omega)
            have P10 := hSz.1.blk HP8.out (by omega)
            have J10 := HJ.out _ _ _ _ _ HJ8.out (b810.mono (by omega))
            have I10 := HPI8.out.below (b810.mono (by omega))
            have T10 := (HSG8.out.below b810).more (show gN ≤ W10.heap.size by have := b810.size; omega)
            have U9 := HX9.st HNX.out.2.bal.1 HNX.out.2.le HNX.out.2.lh
            have A9 := HX9.abv (z := gN + 1) (by omega)
            have A0 := HX9.abv (z := w.heap.size) (by omega)
            have U10 := U9.kps A9 k910 (fun k o h => by omega) k910.size
            have hcl := H1K.out S S' ⟨AX, cX, AE, cE, AHH, cHH⟩ ⟨AX2, cX2, AE2, cE2, AH2, cH2⟩ W10 Z10 J10 (I10.more (by have := b810.size; omega)) T10 U10 HOK.out HNX.out.2 HNX.out.1
            dsimp only [preW] at hcl
            have HCL := Lib.hid hcl
            have HA9 := Lib.hid A9; have HA0 := Lib.hid A0; have HC10 := Lib.hid C10; have HP10 := Lib.hid P10; have HN10 := Lib.hid N10; have HI10 := Lib.hid I10; have HU10 := Lib.hid U10; have HZ10 := Lib.hid Z10
            obtain ⟨a0, a1, a2, a3, a4, a5, a6, a7, a8⟩ := C10.at9
            obtain ⟨⟨p0, p1, p2⟩, -, hz2⟩ := P10.full3
            obtain ⟨⟨n0, n1, n2⟩, -, hz3⟩ := N10.full3
            have hz1 := C10.lt
            clear hcl A9 A0 C10 P10 N10 I10 T10 U9 U10 J10 Z10 b810 k910 b910 hW10 hSz HN9 HX9 HCALL HKEEP HJ8 HPI8 HSG8 HSI8 HKZ8 HC8 HP8 HN8 hz7 hgs hz8 hz9
            go_wp2_with fail
            refine HCL.out.mono ?_
            rintro e W11 ⟨rfl, hJ11, hK11⟩
            have hz7 := HZ7.out; have hgs := HGS.out
            have C11 := hK11.kps.blk HC10.out (HPZ.out _ (.cells #[] 0 (0, 0)) (by omega))
            have P11 := hK11.kps.blk HP10.out (HPZ.out _ (.cells #[] 0 (0, 0)) (by omega))
            have N11 := hK11.kps.blk HN10.out (HPZ.out _ (.cells #[] 0 (0, 0)) (by omega))
            have HI11 := Lib.hid (HI10.out.kpz HKA.out hK11.kps HPZ.out)
            have HU11 := Lib.hid (HU10.out.kps HA0.out hK11.kps HPZ.out hK11.kps.size)
            have HZ11 := Lib.hid (HZ10.out.trans hK11)
            have HJ11 := Lib.hid hJ11; have HC11 := Lib.hid C11; have HP11 := Lib.hid P11
            clear a0 a1 a2 a3 a4 a5 a6 a7 a8 p0 p1 p2 n0 n1 n2 hz1 hz2 hz3 HC10 HP10 HN10 HI10 HU10 HZ10 HCL hJ11 hK11
            obtain ⟨⟨p0, p1, p2⟩, ⟨f0, f1, f2⟩, hz2⟩ := P11.full3
            obtain ⟨⟨n0, n1, n2⟩, -, hz3⟩ := N11.full3
            clear C11 P11 N11 hz7 hgs
            go_wp2_with fail
            go_roundw
            case rel =>
              have hz7 := HZ7.out; have hgs := HGS.out
              refine ⟨k + 1, S', ⟨AX2, cX2, AE2, cE2, AH2, cH2⟩, by omega, by go_num, HJ.out _ _ _ _ _ HJ11.out (below_put3 (Below.refl _ _) (by omega)), HC11.out.far3 (by omega), HP11.out.put3, HI11.out.below (below_put3 (Below.refl _ _) (by omega)), HU11.out.kps (P := fun k _ => k ≠ g9) (z := gN + 1) HA9.out kps_put3 (fun k o h => by omega) (by simp), HA0.out, HNX.out.2, HZ11.out.put3 (by omega) (by omega)⟩
            case measure => simp [intOf]; omega
          · have ev1 : 0 < nv := by omega
            have ev2 : ((nv : Int) == 0) = false := beq_false_of_ne (by omega)
            obtain ⟨q, hq⟩ : ∃ q, x / 2 = q := ⟨_, rfl⟩
            obtain ⟨j, hj⟩ : ∃ j, q % nv = j := ⟨_, rfl⟩
            have hjl : j < nv := by rw [← hj]; exact Nat.mod_lt _ ev1
            have hqi : IntKind.i64.wrap ((x : Int) / 2) = (q : Int) := by rw [wrap_in (by omega) (by omega), ← hq]; omega
            have hji : (q : Int).tmod (nv : Int) = (j : Int) := by rw [Int.tmod_eq_emod_of_nonneg (by omega), ← hj]; omega
            clear hq hj
            obtain ⟨aj, haj⟩ : ∃ aj, v[j]? = some aj := ⟨_, List.getElem?_eq_getElem (by have := HNV.out; omega)⟩
            obtain ⟨m1, m2, m3⟩ := HMV.out j aj haj
            have hvj : (nvs v)[j]? = some (.int .i64 (aj : Int)) := by simp only [nvs, List.getElem?_map, haj, Option.map_some]
            obtain ⟨gA, hgA⟩ := own_some (n := v.length) (A := A2) (hX7.out.held.own 1 _ rfl) (by have := HNV.out; omega)
            subst hgA
            obtain ⟨hcj, -, hzj, -⟩ := hX7.out.cell (i := 1) (j := j) rfl (by have := HNV.out; omega) hvj
            have HM13 := Lib.hid (And.intro m1 (And.intro m2 m3))
            have HCJ := Lib.hid (And.intro hcj hzj)
            clear m1 m2 m3 hvj haj hcj hzj
            go_wp2_with fail
            obtain ⟨w8, hw8⟩ : ∃ w8, w7.drew = w8 := ⟨_, rfl⟩
            have b78 : Below w7.heap.size w7 w8 := by rw [← hw8]; exact (Below.refl _ w7).drew
            have HC8 := Lib.hid (HC7.out.below b78 HC7.out.lt); have HP8 := Lib.hid (HP7.out.below b78 HP7.out.lt); have HN8 := Lib.hid (HN7.out.below b78 HN7.out.lt)
            have hz7 := HZ7.out
            have HJ8 := Lib.hid (HJ.out _ _ _ _ _ HJ7.out (b78.mono (by omega)))
            have hc7 := HC7.out.lt
            have HPI8 := Lib.hid (HPI7.out.below (b78.mono (by omega)))
            have HSG8 := Lib.hid (HSG7.out.below (b78.mono (by omega)))
            have HSI8 := Lib.hid (HSG8.out.more (show gN ≤ w8.heap.size by have := b78.size; omega))
            have HKZ8 := Lib.hid (HKZ7.out.trans (Kpz.all b78 (by omega)))
            have HZ8 := Lib.hid (show w7.heap.size ≤ w8.heap.size from b78.size)
            have HGN := Lib.hid (show gN ≠ gA from own_apart (hX7.out.held.own 1 _ rfl) HN7.out (show (3 : TypeId) ≠ 29 by decide))
            have hcj8 := (b78.cell (p := ⟨gA, j, none⟩) HCJ.out.2).trans HCJ.out.1
            have hgj8 : gA < w8.heap.size := by have := HCJ.out.2; have := b78.size; omega
            obtain ⟨S', hnx, hok', hcall⟩ := lift_ok (K := ⟨AF, cF, AH, cH, AR, cR, AC, cC, AA, cA, AB, cB⟩) (Q := ⟨AX, cX, AE, cE, AHH, cHH⟩) (S := S) (w := w8) HG.out (HPI8.out.more (by have := HC8.out.lt; omega)) HSI8.out HOK.out HM13.out.1 HM13.out.2.1 HM13.out.2.2
            dsimp only [csrW, preW] at hcall
            have HCALL := Lib.hid hcall; have HNX := Lib.hid (And.intro hnx hok')
            have hkeep : ∀ W', Kps (fun k _ => k ≠ gN) w8 W' → Kps (fun k _ => k ≠ gN) w8 W' ∧ (W'.cell? ⟨g7, 0, none⟩ = some (.int .i64 (N : Int)) ∧ W'.cell? ⟨g7, 1, none⟩ = some (.int .i64 (s : Int)) ∧ W'.cell? ⟨g7, 2, none⟩ = some (.int .i64 (t : Int)) ∧ W'.cell? ⟨g7, 3, none⟩ = some (.slice AF (N + 1) cF) ∧ W'.cell? ⟨g7, 4, none⟩ = some (.slice AH M cH) ∧ W'.cell? ⟨g7, 5, none⟩ = some (.slice AR M cR) ∧ W'.cell? ⟨g7, 6, none⟩ = some (.slice AC M cC) ∧ W'.cell? ⟨g7, 7, none⟩ = some (.slice AA M cA) ∧ W'.cell? ⟨g7, 8, none⟩ = some (.slice AB M cB)) ∧ (W'.cell? ⟨g9, 0, none⟩ = some (.slice AX M cX) ∧ W'.cell? ⟨g9, 1, none⟩ = some (.slice AE N cE) ∧ W'.cell? ⟨g9, 2, none⟩ = some (.slice AHH N cHH)) ∧ W'.cell? ⟨gA, j, none⟩ = some (.int .i64 (aj : Int)) := by
              intro W' hb
              have hz7 := HZ7.out; have hgs := HGS.out
              obtain ⟨⟨p0, p1, p2⟩, -, -⟩ := (hb.blk HP8.out (by omega)).full3
              exact ⟨hb, (hb.blk HC8.out (by omega)).at9, ⟨p0, p1, p2⟩, hb.cell (p := ⟨gA, j, none⟩) (fun _ _ e => HGN.out e.symm) hcj8⟩
            have HKEEP := Lib.hid hkeep
            clear hcall hnx hok' hkeep hcj8 hgj8 b78 hz7 hc7 HC7 HP7 HN7 HJ7 HPI7 HSG7 HKZ7 HCJ HM13
            refine wp_region_held_drew (S := fun W' => Kps (fun k _ => k ≠ gN) w8 W' ∧ (W'.cell? ⟨g7, 0, none⟩ = some (.int .i64 (N : Int)) ∧ W'.cell? ⟨g7, 1, none⟩ = some (.int .i64 (s : Int)) ∧ W'.cell? ⟨g7, 2, none⟩ = some (.int .i64 (t : Int)) ∧ W'.cell? ⟨g7, 3, none⟩ = some (.slice AF (N + 1) cF) ∧ W'.cell? ⟨g7, 4, none⟩ = some (.slice AH M cH) ∧ W'.cell? ⟨g7, 5, none⟩ = some (.slice AR M cR) ∧ W'.cell? ⟨g7, 6, none⟩ = some (.slice AC M cC) ∧ W'.cell? ⟨g7, 7, none⟩ = some (.slice AA M cA) ∧ W'.cell? ⟨g7, 8, none⟩ = some (.slice AB M cB)) ∧ (W'.cell? ⟨g9, 0, none⟩ = some (.slice AX M cX) ∧ W'.cell? ⟨g9, 1, none⟩ = some (.slice AE N cE) ∧ W'.cell? ⟨g9, 2, none⟩ = some (.slice AHH N cHH)) ∧ W'.cell? ⟨gA, j, none⟩ = some (.int .i64 (aj : Int))) (by kernel_rfl) (by rw [hw8]; exact HKEEP.out _ Kps.refl) (fun hS0 => ?_)
            rw [hw8] at hS0 ⊢
            clear hw8
            refine takeD (i := 0) (v := ?_) (some 80) rfl rfl (by kernel_rfl) (by kernel_rfl) (by kernel_rfl) (fun _ _ _ h => h) (Or.inl ⟨by rfl, ?_⟩) (by assumption) ?_
            rotate_left
            · (intro W hSw; obtain ⟨-, ⟨a0, a1, a2, a3, a4, a5, a6, a7, a8⟩, ⟨p0, p1, p2⟩, cj⟩ := hSw; go_simp; try with_reducible rfl)
            simp only [Act.put, List.setIfInBounds_toArray, List.set_cons_zero, List.set_cons_succ]
            refine takeD (i := 1) (v := ?_) (some 81) rfl rfl (by kernel_rfl) (by kernel_rfl) (by kernel_rfl) (fun _ _ _ h => h) (Or.inl ⟨by rfl, ?_⟩) (by assumption) ?_
            rotate_left
            · (intro W hSw; obtain ⟨-, ⟨a0, a1, a2, a3, a4, a5, a6, a7, a8⟩, ⟨p0, p1, p2⟩, cj⟩ := hSw; go_simp; try with_reducible rfl)
            simp only [Act.put, List.setIfInBounds_toArray, List.set_cons_zero, List.set_cons_succ]
            refine takeD (i := 2) (v := ?_) (some 82) rfl rfl (by kernel_rfl) (by kernel_rfl) (by kernel_rfl) (fun _ _ _ h => h) (Or.inl ⟨by rfl, ?_⟩) (by assumption) ?_
            rotate_left
            · (intro W hSw; obtain ⟨-, ⟨a0, a1, a2, a3, a4, a5, a6, a7, a8⟩, ⟨p0, p1, p2⟩, cj⟩ := hSw; go_simp; try with_reducible rfl)
            simp only [Act.put, List.setIfInBounds_toArray, List.set_cons_zero, List.set_cons_succ]
            refine takeD (i := 3) (v := ?_) (some 83) rfl rfl (by kernel_rfl) (by kernel_rfl) (by kernel_rfl) (fun _ _ _ h => h) (Or.inl ⟨by rfl, ?_⟩) (by assumption) ?_
            rotate_left
            · (intro W hSw; obtain ⟨-, ⟨a0, a1, a2, a3, a4, a5, a6, a7, a8⟩, ⟨p0, p1, p2⟩, cj⟩ := hSw; go_simp; try with_reducible rfl)
            simp only [Act.put, List.setIfInBounds_toArray, List.set_cons_zero, List.set_cons_succ]
            refine takeD (i := 4) (v := ?_) (some 84) rfl rfl (by kernel_rfl) (by kernel_rfl) (by kernel_rfl) (fun _ _ _ h => h) (Or.inl ⟨by rfl, ?_⟩) (by assumption) ?_
            rotate_left
            · (intro W hSw; obtain ⟨-, ⟨a0, a1, a2, a3, a4, a5, a6, a7, a8⟩, ⟨p0, p1, p2⟩, cj⟩ := hSw; go_simp; try with_reducible rfl)
            simp only [Act.put, List.setIfInBounds_toArray, List.set_cons_zero, List.set_cons_succ]
            refine takeD (i := 5) (v := ?_) (some 85) rfl rfl (by kernel_rfl) (by kernel_rfl) (by kernel_rfl) (fun _ _ _ h => h) (Or.inl ⟨by rfl, ?_⟩) (by assumption) ?_
            rotate_left
            · (intro W hSw; obtain ⟨-, ⟨a0, a1, a2, a3, a4, a5, a6, a7, a8⟩, ⟨p0, p1, p2⟩, cj⟩ := hSw; go_simp; try with_reducible rfl)
            simp only [Act.put, List.setIfInBounds_toArray, List.set_cons_zero, List.set_cons_succ]
            refine takeD (i := 6) (v := ?_) (some 86) rfl rfl (by kernel_rfl) (by kernel_rfl) (by kernel_rfl) (fun _ _ _ h => h) (Or.inl ⟨by rfl, ?_⟩) (by assumption) ?_
            rotate_left
            · (intro W hSw; obtain ⟨-, ⟨a0, a1, a2, a3, a4, a5, a6, a7, a8⟩, ⟨p0, p1, p2⟩, cj⟩ := hSw; go_simp; try with_reducible rfl)
            simp only [Act.put, List.setIfInBounds_toArray, List.set_cons_zero, List.set_cons_succ]
            refine takeD (i := 7) (v := ?_) (some 87) rfl rfl (by kernel_rfl) (by kernel_rfl) (by kernel_rfl) (fun _ _ _ h => h) (Or.inl ⟨by rfl, ?_⟩) (by assumption) ?_
            rotate_left
            · (intro W hSw; obtain ⟨-, ⟨a0, a1, a2, a3, a4, a5, a6, a7, a8⟩, ⟨p0, p1, p2⟩, cj⟩ := hSw; go_simp; try with_reducible rfl)
            simp only [Act.put, List.setIfInBounds_toArray, List.set_cons_zero, List.set_cons_succ]
            refine takeD (i := 8) (v := ?_) (some 88) rfl rfl (by kernel_rfl) (by kernel_rfl) (by kernel_rfl) (fun _ _ _ h => h) (Or.inl ⟨by rfl, ?_⟩) (by assumption) ?_
            rotate_left
            · (intro W hSw; obtain ⟨-, ⟨a0, a1, a2, a3, a4, a5, a6, a7, a8⟩, ⟨p0, p1, p2⟩, cj⟩ := hSw; go_simp; try with_reducible rfl)
            simp only [Act.put, List.setIfInBounds_toArray, List.set_cons_zero, List.set_cons_succ]
            refine takeD (i := 9) (v := ?_) (some 89) rfl rfl (by kernel_rfl) (by kernel_rfl) (by kernel_rfl) (fun _ _ _ h => h) (Or.inl ⟨by rfl, ?_⟩) (by assumption) ?_
            rotate_left
            · (intro W hSw; obtain ⟨-, ⟨a0, a1, a2, a3, a4, a5, a6, a7, a8⟩, ⟨p0, p1, p2⟩, cj⟩ := hSw; go_simp; try with_reducible rfl)
            simp only [Act.put, List.setIfInBounds_toArray, List.set_cons_zero, List.set_cons_succ]
            refine wpAnyH_ready (rs := [10]) (by kernel_rfl) (by simp) ?_
            refine AllReadyH.cons rfl (fun K hK => ?_) AllReadyH.nil
            go_simp
            refine HCALL.out.mono ?_
            rintro e W9 ⟨⟨AX2, cX2, AE2, cE2, AH2, cH2⟩, rfl, HX9⟩
            dsimp only [preW] at HX9 ⊢
            refine hK.out _ _ (HKEEP.out _ (Kps.all HX9.bel)) (fun hSa => ?_)
            clear hK K
            try simp only [Act.put, List.setIfInBounds_toArray, List.set_cons_zero, List.set_cons_succ]
            refine takeD (i := 11) (v := ?_) (some 79) rfl rfl (by kernel_rfl) (by kernel_rfl) (by kernel_rfl) (fun _ _ _ h => h) (Or.inl ⟨by rfl, ?_⟩) (by assumption) ?_
            rotate_left
            · (intro W hSw; obtain ⟨-, ⟨a0, a1, a2, a3, a4, a5, a6, a7, a8⟩, ⟨p0, p1, p2⟩, cj⟩ := hSw; go_simp; try with_reducible rfl)
            simp only [Act.put, List.setIfInBounds_toArray, List.set_cons_zero, List.set_cons_succ]
            refine takeD (i := 12) (v := ?_) (some 91) rfl rfl (by kernel_rfl) (by kernel_rfl) (by kernel_rfl) (fun _ _ _ h => h) (Or.inl ⟨by rfl, ?_⟩) (by assumption) ?_
            rotate_left
            · (intro W hSw; obtain ⟨-, ⟨a0, a1, a2, a3, a4, a5, a6, a7, a8⟩, ⟨p0, p1, p2⟩, cj⟩ := hSw; go_simp; try with_reducible rfl)
            simp only [Act.put, List.setIfInBounds_toArray, List.set_cons_zero, List.set_cons_succ]
            refine takeD (i := 13) (v := ?_) (some 92) rfl rfl (by kernel_rfl) (by kernel_rfl) (by kernel_rfl) (fun _ _ _ h => h) (Or.inl ⟨by rfl, ?_⟩) (by assumption) ?_
            rotate_left
            · (intro W hSw; obtain ⟨-, ⟨a0, a1, a2, a3, a4, a5, a6, a7, a8⟩, ⟨p0, p1, p2⟩, cj⟩ := hSw; go_simp; try with_reducible rfl)
            simp only [Act.put, List.setIfInBounds_toArray, List.set_cons_zero, List.set_cons_succ]
            have HN9 := HN8.out.below HX9.bel HN8.out.lt
            obtain ⟨⟨q0, q1, q2⟩, ⟨f0, f1, f2⟩, hzp⟩ := HN9.full3
            refine wpAnyH_ready (rs := [14]) (by kernel_rfl) (by simp) ?_
            refine AllReadyH.cons rfl (fun K hK => ?_) AllReadyH.nil
            go_simp
            refine hK.out _ _ (HKEEP.out _ ((Kps.all HX9.bel).trans (kps_put3 (W := W9) (g := gN) (x := .slice AX2 M cX2) (y := .slice AE2 N cE2) (v := .slice AH2 N cH2)))) (fun hSz => ?_)
            clear hK K q0 q1 q2 f0 f1 f2 hzp hSa
            try simp only [Act.put, List.setIfInBounds_toArray, List.set_cons_zero, List.set_cons_succ]
            refine takeD (i := 15) (v := ?_) (some 16) rfl rfl (by kernel_rfl) (by kernel_rfl) (by kernel_rfl) (fun _ _ _ h => h) (Or.inl ⟨by rfl, ?_⟩) (by assumption) ?_
            rotate_left
            · (intro W hSw; obtain ⟨-, ⟨a0, a1, a2, a3, a4, a5, a6, a7, a8⟩, ⟨p0, p1, p2⟩, cj⟩ := hSw; go_simp; try with_reducible rfl)
            simp only [Act.put, List.setIfInBounds_toArray, List.set_cons_zero, List.set_cons_succ]
            refine wpAnyH_done (by kernel_rfl) ?_ _
            obtain ⟨W10, hW10⟩ : ∃ W, put3 W9 gN (.slice AX2 M cX2) (.slice AE2 N cE2) (.slice AH2 N cH2) = W := ⟨_, rfl⟩
            have hz7 := HZ7.out; have hgs := HGS.out; have hz8 := HZ8.out; have hz9 := HX9.bel.size
            have k910 : Kps (fun k _ => k ≠ gN) W9 W10 := by rw [← hW10]; exact kps_put3
            have b910 : Below gN W9 W10 := by rw [← hW10]; exact below_put3 (Below.refl _ _) (Nat.le_refl _)
            have N10 : Blk W10 gN 29 #[.slice AX2 M cX2, .slice AE2 N cE2, .slice AH2 N cH2] := by rw [← hW10]; exact HN9.put3
            have Z10 : Kpz sp b0 w W10 := by rw [← hW10]; exact (HKZ8.out.trans (Kpz.all HX9.bel (by omega))).put3 (by omega) (by omega)
            change put3 W9 gN (.slice AX2 M cX2) (.slice AE2 N cE2) (.slice AH2 N cH2) = W10 at hW10
            dsimp only [put3] at hW10
            rw [hW10] at hSz ⊢
            have b810 : Below gN w8 W10 := (HX9.bel.mono (by omega)).trans b910
            have C10 := hSz.1.blk HC8.out (by omega)
            have P10 := hSz.1.blk HP8.out (by omega)
            have J10 := HJ.out _ _ _ _ _ HJ8.out (b810.mono (by omega))
            have I10 := HPI8.out.below (b810.mono (by omega))
            have T10 := (HSG8.out.below b810).more (show gN ≤ W10.heap.size by have := b810.size; omega)
            have U9 := HX9.st HNX.out.2.bal.1 HNX.out.2.le HNX.out.2.lh
            have A9 := HX9.abv (z := gN + 1) (by omega)
            have A0 := HX9.abv (z := w.heap.size) (by omega)
            have U10 := U9.kps A9 k910 (fun k o h => by omega) k910.size
            have hcl := H1K.out S S' ⟨AX, cX, AE, cE, AHH, cHH⟩ ⟨AX2, cX2, AE2, cE2, AH2, cH2⟩ W10 Z10 J10 (I10.more (by have := b810.size; omega)) T10 U10 HOK.out HNX.out.2 HNX.out.1
            dsimp only [preW] at hcl
            have HCL := Lib.hid hcl
            have HA9 := Lib.hid A9; have HA0 := Lib.hid A0; have HC10 := Lib.hid C10; have HP10 := Lib.hid P10; have HN10 := Lib.hid N10; have HI10 := Lib.hid I10; have HU10 := Lib.hid U10; have HZ10 := Lib.hid Z10
            obtain ⟨a0, a1, a2, a3, a4, a5, a6, a7, a8⟩ := C10.at9
            obtain ⟨⟨p0, p1, p2⟩, -, hz2⟩ := P10.full3
            obtain ⟨⟨n0, n1, n2⟩, -, hz3⟩ := N10.full3
            have hz1 := C10.lt
            clear hcl A9 A0 C10 P10 N10 I10 T10 U9 U10 J10 Z10 b810 k910 b910 hW10 hSz HN9 HX9 HCALL HKEEP HJ8 HPI8 HSG8 HSI8 HKZ8 HC8 HP8 HN8 hz7 hgs hz8 hz9
            go_wp2_with fail
            refine HCL.out.mono ?_
            rintro e W11 ⟨rfl, hJ11, hK11⟩
            have hz7 := HZ7.out; have hgs := HGS.out
            have C11 := hK11.kps.blk HC10.out (HPZ.out _ (.cells #[] 0 (0, 0)) (by omega))
            have P11 := hK11.kps.blk HP10.out (HPZ.out _ (.cells #[] 0 (0, 0)) (by omega))
            have N11 := hK11.kps.blk HN10.out (HPZ.out _ (.cells #[] 0 (0, 0)) (by omega))
            have HI11 := Lib.hid (HI10.out.kpz HKA.out hK11.kps HPZ.out)
            have HU11 := Lib.hid (HU10.out.kps HA0.out hK11.kps HPZ.out hK11.kps.size)
            have HZ11 := Lib.hid (HZ10.out.trans hK11)
            have HJ11 := Lib.hid hJ11; have HC11 := Lib.hid C11; have HP11 := Lib.hid P11
            clear a0 a1 a2 a3 a4 a5 a6 a7 a8 p0 p1 p2 n0 n1 n2 hz1 hz2 hz3 HC10 HP10 HN10 HI10 HU10 HZ10 HCL hJ11 hK11
            obtain ⟨⟨p0, p1, p2⟩, ⟨f0, f1, f2⟩, hz2⟩ := P11.full3
            obtain ⟨⟨n0, n1, n2⟩, -, hz3⟩ := N11.full3
            clear C11 P11 N11 hz7 hgs
            go_wp2_with fail
            go_roundw
            case rel =>
              have hz7 := HZ7.out; have hgs := HGS.out
              refine ⟨k + 1, S', ⟨AX2, cX2, AE2, cE2, AH2, cH2⟩, by omega, by go_num, HJ.out _ _ _ _ _ HJ11.out (below_put3 (Below.refl _ _) (by omega)), HC11.out.far3 (by omega), HP11.out.put3, HI11.out.below (below_put3 (Below.refl _ _) (by omega)), HU11.out.kps (P := fun k _ => k ≠ g9) (z := gN + 1) HA9.out kps_put3 (fun k o h => by omega) (by simp), HA0.out, HNX.out.2, HZ11.out.put3 (by omega) (by omega)⟩
            case measure => simp [intOf]; omega
    · have hkm : k = m := by omega
      have HJ3 := Lib.hid hj; have HPI3 := Lib.hid hpw; have HSI3 := Lib.hid hsi; have HPA3 := Lib.hid hpa; have HOK := Lib.hid hok; have HKZ3 := Lib.hid hkz
      clear hj C3 P3 hpi hsi hpa hok hkz hpw hkm
      go_wp2_with fail
      go_ret
      exact ⟨rfl, ⟨AF, cF, AH, cH, AR, cR, AC, cC, AA, cA, AB, cB⟩, S, ⟨AX, cX, AE, cE, AHH, cHH⟩, HPI3.out, HKA.out, HSI3.out, HPA3.out, HOK.out, HJ3.out, HKZ3.out⟩

end Go.Proofs.Ytgjokddcaadjdaa
