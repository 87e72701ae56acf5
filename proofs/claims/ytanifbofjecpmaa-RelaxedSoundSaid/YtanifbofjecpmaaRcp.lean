/- Layer 9: append onto an empty slice made in the same statement, in whatever order. -/
import Derived.Test.YtanifbofjecpmaaRsb
namespace Go.Proofs.Ytanifbofjecpmaa
open Go.RowKit Go.Shelf
set_option maxRecDepth 100000

/-- An append that is met in a drawn region. -/
theorem op_app {P : Program} {o : Oper} {a : Act} {w w' : World} {K : Act → World → Prop} {Q : Exit → Act → World → Prop} (s x : Operand) (t : TypeId) (ho : o.op = .call { callee := .builtin .append, args := #[s, x], argTypes := #[t, t] }) {vs vx v : Value} (hs : a.eval s = vs) (hx : a.eval x = vx)
    (hrun : (Builtin.append_ #[t, t] o.type #[vs, vx]).run P w = .ok v w') (h : K (a.put o.dst v) w') : o.wp P a w K Q := by
  unfold Oper.wp execOp
  simp only [ho, resolve, invoke, builtin, Sem.run_bind, Sem.run_pure, Result.andThen_ok, List.map_toArray, List.map_cons, List.map_nil, hs, hx, hrun]
  exact h
/-- Rows of numbers stay while an empty block grows. -/
theorem ints_grown {w w' : World} {x n g : Nat} {A : Option Addr} {L : List Int} {e : TypeId} (h : Ints w x A n L) (hx : x ≤ w.heap.size) (K : Blk w g e #[]) (hg : w.grownBy w' (some g)) : Ints w' x A n L := by
  refine ⟨h.1, fun hn => ?_⟩
  obtain ⟨b, off, e, hb, hc⟩ := h.2 hn
  have hne : b ≠ g := by
    rintro rfl
    obtain ⟨a, ha⟩ : ∃ a, L[0]? = some a := ⟨_, List.getElem?_eq_getElem (by have := h.1; omega)⟩
    have h0 := hc 0 a ha 0 (.int .i64 a) rfl
    rw [K.cell] at h0
    simp at h0
  exact ⟨b, off, e, hb, fun k a ha j u hu => by
    have h1 := hc k a ha j u hu
    rw [← h1]
    unfold World.cell?
    rw [hg.block b (by omega) (fun e => hne (by injection e))]⟩
theorem blk_ne {w : World} {g g' : Nat} {t t' : TypeId} {cs cs' : Array Value} (h : Blk w g t cs) (k : Blk w g' t' cs') (ht : t ≠ t') : g ≠ g' := by
  rintro rfl
  unfold Blk at h k
  rw [h] at k
  injection k with k
  injection k with _ k
  exact ht k
/-- An append onto an empty block of the call's own. -/
theorem op_appE {t e : TypeId} {bytes : Nat} (E : OneWide Try.prog t e bytes) {o : Oper} {a : Act} {w wb : World} {K : Act → World → Prop} {Q : Exit → Act → World → Prop} (s x : Operand) (ho : o.op = .call { callee := .builtin .append, args := #[s, x], argTypes := #[t, t] }) {g : Nat} (hb : Blk w g e #[]) (hg : wb.heap.size ≤ g) (hB : Below wb.heap.size wb w)
    (hs : a.eval s = .slice (some ⟨g, 0, none⟩) 0 0) {A : Option Addr} {n c : Nat} {L : List Int} (hx : a.eval x = .slice A n c) (hI : Ints wb wb.heap.size A n L) (hn : n ≤ 1000000000)
    (h : ∀ A' c' w', Below wb.heap.size wb w' → (∀ A n L, Ints w w.heap.size A n L → Ints w' w'.heap.size A n L) → (∀ b t cs, Blk w b t cs → b ≠ g → Blk w' b t cs) → w.heap.size ≤ w'.heap.size → Ints w' w'.heap.size A' n L → K (a.put o.dst (.slice A' n c')) w') : o.wp Try.prog a w K Q := by
  obtain ⟨i, z, hi, hz, h1, h2, h3⟩ := E.info
  have hown : w.ownsRow wb.heap.size e 1 (.slice (some ⟨g, 0, none⟩) 0 0) 0 [] := own_of_block hb hg (Nat.zero_le _) rfl
  have hIw := hI.on hB
  have hsrc : 0 < n → ∃ ad, A = some ad ∧ ∀ j u, (lvs L)[j]? = some u → w.cell? (ad.add j) = some u := fun h0 => by
    have := RdBy.src (int_len L) hIw h0
    rw [flat_ints] at this
    exact this
  obtain ⟨A', c', w', hrun, ho', hgr, -⟩ := run_append_row (P := Try.prog) (w := w) wb.heap.size t o.type e i z 1 bytes E.und hi hz h1 h2 h3 (by omega) (some ⟨g, 0, none⟩) 0 0 [] hown A n c (lvs L) (by simp [hI.1]) hsrc
    (fun u hu => by obtain ⟨x, _, rfl⟩ := List.mem_map.1 hu; rfl) (by unfold maxLen; omega) (by have := E.small; have h4 := Nat.mul_le_mul (show 0 + n ≤ 1000000000 by omega) this; omega) hB.size
  rw [Nat.zero_add] at hrun ho'
  rw [List.nil_append] at ho'
  refine op_app s x t ho hs hx hrun (h A' c' w' (below_grown hB hgr hown (Nat.le_refl _) hB.size) (fun A n L hL => (ints_grown hL (Nat.le_refl _) hb hgr).more hgr.size) (fun b t cs hk hne => hk.grown hgr (fun e => hne (by injection e))) hgr.size ?_)
  exact RdBy.of_own hI.1 (int_len L) (by rw [flat_ints]; exact ho')
end Go.Proofs.Ytanifbofjecpmaa
