/- Layer 7: Play, whatever is asked of each state. -/
import Derived.Test.YtfcjmhihheeifaaPlap
import Derived.Test.YtfcjmhihheeifaaBego
import Derived.Test.YtfcjmhihheeifaaOpen3
namespace Go.Proofs.Ytfcjmhihheeifaa
open Go.RowKit Go.Shelf
set_option maxRecDepth 100000
attribute [local go_sem] Oper.semAt_some

/-- What is written to lies where sp says; nothing below b0 was touched. -/
structure Kpz (sp : Nat → Prop) (b0 : Nat) (W W' : World) : Prop where
  kps : Kps (fun k _ => ¬ sp k) W W'
  bel : Below b0 W W'
section
variable {sp : Nat → Prop} {b0 : Nat} {W W' W'' : World}
theorem Kpz.refl : Kpz sp b0 W W := ⟨Kps.refl, Below.refl _ _⟩
theorem Kpz.trans (h : Kpz sp b0 W W') (k : Kpz sp b0 W' W'') : Kpz sp b0 W W'' := ⟨h.kps.trans k.kps, h.bel.trans k.bel⟩
theorem Kpz.all (h : Below W.heap.size W W') (hb : b0 ≤ W.heap.size) : Kpz sp b0 W W' := ⟨Kps.all h, h.mono hb⟩
theorem Kpz.put3 {w : World} {g : Nat} {x y v : Value} (h : Kpz sp b0 w W) (hz : w.heap.size ≤ g) (hb : b0 ≤ g) : Kpz sp b0 w (Proofs.Ytfcjmhihheeifaa.put3 W g x y v) := by
  refine ⟨⟨by have := h.kps.size; simp; omega, fun k o hk hp => ?_⟩, below_put3 h.bel hb⟩
  have hkl := (Array.getElem?_eq_some_iff.1 hk).1
  have hne : k ≠ g := by omega
  have := h.kps.same k o hk hp
  exact (Below.heap_setCell _ ⟨g, 2, none⟩ v k hne).trans ((Below.heap_setCell _ ⟨g, 1, none⟩ y k hne).trans ((Below.heap_setCell _ ⟨g, 0, none⟩ x k hne).trans this))
theorem kps_put3 {g : Nat} {x y v : Value} : Kps (fun k _ => k ≠ g) W (Proofs.Ytfcjmhihheeifaa.put3 W g x y v) :=
  ⟨by simp, fun k o hk hne => (Below.heap_setCell _ ⟨g, 2, none⟩ v k hne).trans ((Below.heap_setCell _ ⟨g, 1, none⟩ y k hne).trans ((Below.heap_setCell _ ⟨g, 0, none⟩ x k hne).trans hk))⟩
end
theorem RdBy.kpz {α : Type} {f : α → List Value} {size : Nat} {w w' : World} {x z n : Nat} {A : Option Addr} {L : List α} {P : Nat → Obj → Prop} (h : RdBy f size w x A n L) (ha : Abv z A) (hk : Kps P w w') (hp : ∀ k o, z ≤ k → P k o) : RdBy f size w' x A n L :=
  ⟨h.1, fun hn => by
    obtain ⟨b, off, e, hb, hc⟩ := h.2 hn
    refine ⟨b, off, e, hb, fun k a hka j u hu => ?_⟩
    exact hk.cell (p := ⟨b, off + (k * size + j), none⟩) (fun o _ => hp b o (by have := ha _ e; exact this)) (hc k a hka j u hu)⟩
theorem PIn.kpz {w w' : World} {x z N M : Nat} {K : CsrS} {fst hd rv ai : Nat → Nat} {cp : Nat → Int} {bk : Nat → Bool} {P : Nat → Obj → Prop} (h : PIn w x N M K fst hd rv ai cp bk) (ha : CsrAbv z K) (hk : Kps P w w') (hp : ∀ k o, z ≤ k → P k o) : PIn w' x N M K fst hd rv ai cp bk :=
  ⟨⟨h.gi.iF.kpz ha.aF hk hp, h.gi.iH.kpz ha.aH hk hp, h.gi.iR.kpz ha.aR hk hp⟩, h.iC.kpz ha.aC hk hp, h.iA.kpz ha.aA hk hp, h.iB.kpz ha.aB hk hp⟩
/-- A push that may be done, and a lift. -/
theorem push_ok {N M s t a : Nat} {K : CsrS} {Q : PreS} {fst hd rv ai : Nat → Nat} {cp : Nat → Int} {bk : Nat → Bool} {S : StN} {w : World} (hG : PNet N M s t fst hd rv ai cp bk) (hI : PIn w w.heap.size N M K fst hd rv ai cp bk)
    (hQ : StIn w w.heap.size M N N Q S.1 S.2.1 S.2.2) (hS : OkS N M s t hd rv cp S) (ha : a < M) (h1 : actB s t S.2.1 (hd (rv a)) = true) (h2 : admB hd rv S.1 S.2.2 a = true) :
    ∃ S' d, Nx N M s t fst hd rv S S' ∧ OkS N M s t hd rv cp S' ∧ Calls Try.prog 27 #[csrW N M s t K, preW M N N Q, .int .i64 (a : Int)] w fun e w' => ∃ Q', e = .returned (.tuple #[preW M N N Q', .int .i64 d, .int .i64 0]) ∧ Hx w w' w.heap.size (pstR M N N Q' S'.1 S'.2.1 S'.2.2) := by
  have hc : pushC M s t hd rv S.1 S.2.1 S.2.2 (a : Int) = 0 := by
    unfold pushC
    rw [if_neg (fun h => h ⟨by omega, by omega⟩)]
    simp only [Int.toNat_natCast, h1, h2, Bool.and_self, if_true]
  have hs : pushS M s t hd rv S.1 S.2.1 S.2.2 (a : Int) = (pushD hd rv S.1 S.2.1 a, mvX rv S.1 a (pushD hd rv S.1 S.2.1 a), mvE hd rv S.2.1 a (pushD hd rv S.1 S.2.1 a), S.2.2) := by
    unfold pushS
    rw [hc]
    rfl
  have hnx : Nx N M s t fst hd rv S (mvX rv S.1 a (pushD hd rv S.1 S.2.1 a), mvE hd rv S.2.1 a (pushD hd rv S.1 S.2.1 a), S.2.2) := .inl ⟨a, ha, h1, h2, rfl⟩
  have hok := hnx.ok hG hS
  refine ⟨_, pushD hd rv S.1 S.2.1 a, hnx, hok, ?_⟩
  have := push_is N M s t K Q fst hd rv ai cp bk S.1 S.2.1 S.2.2 (a : Int) w hG hI hQ hS
  rw [hs, hc] at this
  refine this.mono fun e w' h => ?_
  obtain ⟨Q', he, hx⟩ := h
  dsimp only at he hx
  have l1 := hok.bal.1; have l2 := hok.le; have l3 := hok.lh
  dsimp only at l1 l2 l3
  rw [l1, l2, l3] at he hx
  exact ⟨Q', he, hx⟩
theorem lift_ok {N M s t u : Nat} {K : CsrS} {Q : PreS} {fst hd rv ai : Nat → Nat} {cp : Nat → Int} {bk : Nat → Bool} {S : StN} {w : World} (hG : PNet N M s t fst hd rv ai cp bk) (hI : PIn w w.heap.size N M K fst hd rv ai cp bk)
    (hQ : StIn w w.heap.size M N N Q S.1 S.2.1 S.2.2) (hS : OkS N M s t hd rv cp S) (hu : u < N) (h1 : actB s t S.2.1 u = true) (h2 : downs fst hd rv S.1 S.2.2 u = []) :
    ∃ S', Nx N M s t fst hd rv S S' ∧ OkS N M s t hd rv cp S' ∧ Calls Try.prog 28 #[csrW N M s t K, preW M N N Q, .int .i64 (u : Int)] w fun e w' => ∃ Q', e = .returned (.tuple #[preW M N N Q', .int .i64 0]) ∧ Hx w w' w.heap.size (pstR M N N Q' S'.1 S'.2.1 S'.2.2) := by
  have hc : liftC N s t fst hd rv S.1 S.2.1 S.2.2 (u : Int) = 0 := by
    unfold liftC
    rw [if_neg (fun h => h ⟨by omega, by omega⟩)]
    unfold downs at h2
    simp only [Int.toNat_natCast, h1, h2, List.isEmpty_nil, Bool.and_self, if_true]
  have hs : liftS N s t fst hd rv S.1 S.2.1 S.2.2 (u : Int) = (S.1, S.2.1, S.2.2.set u (lowV fst hd S.1 S.2.2 u + 1)) := by
    unfold liftS
    rw [hc]
    rfl
  have hnx : Nx N M s t fst hd rv S (S.1, S.2.1, S.2.2.set u (lowV fst hd S.1 S.2.2 u + 1)) := .inr ⟨u, hu, h1, h2, rfl⟩
  have hok := hnx.ok hG hS
  refine ⟨_, hnx, hok, ?_⟩
  have := lift_is N M s t K Q fst hd rv ai cp bk S.1 S.2.1 S.2.2 (u : Int) w hG hI hQ hS
  rw [hs, hc] at this
  refine this.mono fun e w' h => ?_
  obtain ⟨Q', he, hx⟩ := h
  dsimp only at he hx
  have l1 := hok.bal.1; have l2 := hok.le; have l3 := hok.lh
  dsimp only at l1 l2 l3
  rw [l1, l2, l3] at he hx
  exact ⟨Q', he, hx⟩
/-- What each asks: it says yes, and what it keeps of the state is told. -/
def EachPost (J : CsrS → StN → PreS → World → Prop) (K : CsrS) (S : StN) (Q : PreS) (sp : Nat → Prop) (b0 : Nat) (W : World) (e : Ending) (W' : World) : Prop := e = .returned (.bool true) ∧ J K S Q W' ∧ Kpz sp b0 W W'
/-- What a play has come to. -/
def PlayPost (J : CsrS → StN → PreS → World → Prop) (N M s t : Nat) (fst hd rv ai : Nat → Nat) (cp : Nat → Int) (bk : Nat → Bool) (sp : Nat → Prop) (b0 : Nat) (w : World) (e : Ending) (W' : World) : Prop :=
  e = .returned (.bool true) ∧ ∃ K S Q, PIn W' W'.heap.size N M K fst hd rv ai cp bk ∧ CsrAbv w.heap.size K ∧ StIn W' W'.heap.size M N N Q S.1 S.2.1 S.2.2 ∧ PreAbv w.heap.size Q ∧ OkS N M s t hd rv cp S ∧ J K S Q W' ∧ Kpz sp b0 w W'
def begT (N M s : Nat) (fst hd rv : Nat → Nat) (cp : Nat → Int) : StN := (begX fst rv cp M s (fst (s + 1) - fst s), begE fst hd rv cp M N s (fst (s + 1) - fst s), begH N s)


end Go.Proofs.Ytfcjmhihheeifaa
