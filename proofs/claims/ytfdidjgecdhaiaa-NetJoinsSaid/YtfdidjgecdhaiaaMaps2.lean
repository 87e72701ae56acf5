/- 'm[k]++' at a key that is not there. -/
import Derived.Test.YtfdidjgecdhaiaaMaps
import Derived.WideKeyEntry
namespace Go.Proofs.Ytfdidjgecdhaiaa
open Go.RowKit Go.Maps
open Go.ChangeMaps (setBlock heap_setBlock_same heap_setBlock_other)

theorem setBlock_twice (w : World) (b : Nat) (x y : Obj) : setBlock (setBlock w b x) b y = setBlock w b y := by
  simp [setBlock]

theorem MapsTo.entry_new {κ : Type} [DecidableEq κ] {key : κ → Value} {P : Program} {kT eT : TypeId} {w : World} {b n : Nat} {m : κ → Option Int} {t : TypeId} (h : MapsTo key P kT eT w b n m) (KL : WideMaps.KeyLaw P kT) (hinj : ∀ x y, key x = key y → x = y)
    (ht : P.underlying t = some (.map kT eT)) (he : P.underlying eT = some (.int .i64)) (hz : ∀ u : World, (zeroValue eT).run P u = .ok (.int .i64 0) u) (hn : n < maxLen) {x : κ} {kl : Lit} (hk : keyOf P kT (key x) = some kl) (hm : m x = none) {v : Int} (hv : (Lit.int .i64 v).wf = true) :
    ∃ (st : Nat) (w1 w3 : World), (Instr.mapEntry t (.map (some b)) (key x)).run P w = .ok (.tuple #[.int .i64 0, goInt st]) w1 ∧ (Instr.lookup t (.map (some b)) (key x) false).run P w1 = .ok (.int .i64 0) w1 ∧
      (Instr.entryStore t (.map (some b)) (goInt st) (.int .i64 v)).run P w1 = .ok () w3 ∧ MapsTo key P kT eT w3 b (n + 1) (fun y => if y = x then some v else m y) ∧ w.grownBy w1 (some b) ∧ w.grownBy w3 (some b) := by
  have K := Keyed.of_law KL
  have h0 := h.update K hinj ht he hn hk (v := 0) (by decide)
  have h1 := h.update K hinj ht he hn hk hv
  obtain ⟨D, ⟨es, clock, hb, F, hs, rfl⟩, hD⟩ := h
  obtain ⟨hhas, _⟩ := hD x kl hk
  rw [hm] at hhas
  rcases KL.find w hk es.toList F.keys with ⟨f1, f2⟩ | ⟨j, e0, f1, f2, f3⟩
  · obtain ⟨v0, st, es1, clock1, hrun, hcase, hstore⟩ := WideElems.entry_then_store KL ht hz hb F hk
    have e1 : (Instr.mapEntry t (.map (some b)) (key x)).run P w = .ok (.tuple #[.int .i64 0, goInt clock]) (setBlock w b (.map (es.push ⟨key x, .int .i64 0, clock⟩) (clock + 1))) := by
      simp [Instr.mapEntry, run_underlying ht, MapKept.run_getObj_map hb, KL.check w false hk, f1, hz, MapKept.run_setObj_map _ hb, Result.andThen, setBlock]
    have e2 : (Instr.mapUpdate t (.map (some b)) (key x) (.int .i64 0)).run P w = .ok () (setBlock w b (.map (es.push ⟨key x, .int .i64 0, clock⟩) (clock + 1))) := by
      simp [Instr.mapUpdate, run_underlying ht, MapKept.run_getObj_map hb, KL.check w false hk, f1, MapKept.run_setObj_map _ hb, Result.andThen, setBlock]
    rw [e1] at hrun
    injection hrun with hr1 hr2
    injection hr1 with hr1
    simp only [Array.mk.injEq, List.cons.injEq, and_true] at hr1
    have hst : goInt clock = goInt st := hr1.2
    obtain ⟨w', g1, g2, g3⟩ := h0
    rw [e2] at g1
    injection g1 with _ g1
    obtain ⟨w'', k1, k2, k3⟩ := h1
    obtain ⟨es', clock', s1, s2⟩ := hstore (setBlock w b (.map es1 clock1)) (.int .i64 v) (heap_setBlock_same hb _)
    rw [s2] at k1
    injection k1 with _ k1
    rw [setBlock_twice] at s1
    refine ⟨st, setBlock w b (.map es1 clock1), w'', ?_, ?_, ?_, k2, ?_, k3⟩
    · rw [e1, hst, hr2]
    · rw [← hr2, g1]
      have := g2.look K ht he (hz _) hk
      simpa using this
    · rw [s1, k1]
    · rw [← hr2, g1]; exact g3
  · exfalso
    rcases Maps.fit_look true K ht (hz w) hb F hk with ⟨_, g, _⟩ | ⟨e0, y, _, _, _, _, hat, _⟩
    · exact g e0 (List.mem_of_getElem? f2) f3
    · rw [Maps.has_true_of_atKey hat] at hhas
      cases hhas

end Go.Proofs.Ytfdidjgecdhaiaa
