/- A state (api.Pre) that came in, opened; no row is greater than memory. -/
import Derived.Test.YtanifbofjecpmaaOpeno
import Derived.Test.YtanifbofjecpmaaOpens
import Derived.SizedLaws
namespace Go.Proofs.Ytanifbofjecpmaa
open Go.ChangeShapes Go.WideShapes Go.ChangeAt Go.RowKit Go.Deep Go.Joins
set_option maxRecDepth 100000

section
variable {H : Type} {enc : TypeId × Value → H} {w : World} {base : Nat} {spare : Nat → Bool} {held : Bool}
theorem lits_len (k : IntKind) (zs : List Int) : (lits (H := H) k zs).length = zs.length := by simp [lits]
theorem open_row8 {t e : TypeId} {fuel : Nat} {v : Value} {y : DataW H × List MemPlace} (ht : Try.prog.underlying t = some (.slice e)) (he : Try.prog.underlying e = some (.int .i64)) (hc : Try.prog.cellsOf e = 1) (hb8 : Try.prog.bytesOf e = 8)
    (h : DataW.trod enc Try.prog w base spare held fuel t [v] = some y) (hz : ∀ m ∈ y.1.weights Try.prog t, m ≤ reachBytes) :
    ∃ (A : Option Addr) (n c : Nat) (L : List Int), v = .slice A n c ∧ Ints w w.heap.size A n L ∧ (∀ x ∈ L, InR x) ∧ n ≤ 17592186044416 := by
  rcases open_ints ht he hc h with ⟨hcs, _⟩ | ⟨ad, n, c, zs, hcs, _, hl, _, hzl, hy, hcl, hw⟩
  · simp only [List.cons.injEq, and_true] at hcs
    exact ⟨none, 0, 0, [], hcs, RdBy.empty, by simp, by omega⟩
  · simp only [List.cons.injEq, and_true] at hcs
    have hlz : n ≤ zs.length := by rw [hzl]; split <;> omega
    have hlen : (zs.take n).length = n := by simp; omega
    have hsz : zs.length * 8 ≤ reachBytes := by
      have := hz (((lits (H := H) .i64 (zs.take n)).length + (lits (H := H) .i64 (zs.drop n)).length) * Try.prog.bytesOf e) (by rw [hy]; simp [DataW.weights, ht])
      rw [lits_len, lits_len, hb8, List.length_take, List.length_drop] at this
      have e1 : min n zs.length + (zs.length - n) = zs.length := by omega
      rwa [e1] at this
    unfold reachBytes at hsz
    refine ⟨some ad, n, c, zs.take n, hcs, ⟨hlen, fun hn => ?_⟩, fun x hx => inR_of_wf (hw x (List.mem_of_mem_take hx)), by omega⟩
    have hc0 := hcl 0 (by omega)
    have hsp : ad.spot = none := by simpa [Addr.add] using World.cell?_spot hc0
    obtain ⟨b, off, spot⟩ := ad
    simp only at hsp
    subst hsp
    refine ⟨b, off, rfl, by simpa [Addr.add] using World.block_lt_of_cell? w _ hc0, fun k x hk j u hu => ?_⟩
    have hkl : k < n := by have := (List.getElem?_eq_some_iff.1 hk).1; omega
    have hck := hcl k (by omega)
    have ea : ∀ j, (⟨b, off, none⟩ : Addr).add j = ⟨b, off + j, none⟩ := fun j => by unfold Addr.add; split <;> simp_all
    rw [ea] at hck
    cases j with
    | zero =>
      simp only [intCells, List.getElem?_cons_zero, Option.some.injEq] at hu
      subst hu
      have hx : zs.getD k 0 = x := by
        rw [List.getElem?_take_of_lt hkl] at hk
        simp [List.getD, hk]
      rw [hx] at hck
      simpa using hck
    | succ j => simp [intCells] at hu
theorem open_pre {r : Reach} {b0 : Nat} {v : Value} {d : DataW H} {p : List MemPlace} (hv : Value.okWide Try.prog w r b0 29 v) (h : DataW.Trod enc Try.prog w base spare held 29 v d p) (hz : ∀ m ∈ d.weights Try.prog 29, m ≤ reachBytes) :
    ∃ (nX nE nH : Nat) (Q : PreS) (X E Hh : List Int), v = preW nX nE nH Q ∧ StIn w w.heap.size nX nE nH Q X E Hh ∧ (∀ x ∈ X, InR x) ∧ (∀ x ∈ Hh, InR x) ∧ nX ≤ 17592186044416 ∧ nE ≤ 17592186044416 ∧ nH ≤ 17592186044416 := by
  obtain ⟨v0, v1, v2, y0, y1, y2, k, rfl, hd, _, h0, h1, h2⟩ := open_agg3 Try.underlying29 (by kernel_rfl) (by kernel_rfl) hv h
  have hw : d.weights Try.prog 29 = y0.1.weights Try.prog 26 ++ (y1.1.weights Try.prog 26 ++ (y2.1.weights Try.prog 27 ++ [])) := by
    rw [hd]
    simp only [DataW.weights, Try.underlying29]
    rfl
  rw [hw] at hz
  obtain ⟨A0, n0, c0, L0, rfl, i0, r0, z0⟩ := open_row8 Try.underlying26 Try.underlying2 (by kernel_rfl) (by kernel_rfl) h0 (fun m hm => hz m (List.mem_append.2 (.inl hm)))
  obtain ⟨A1, n1, c1, L1, rfl, i1, r1, z1⟩ := open_row8 Try.underlying26 Try.underlying2 (by kernel_rfl) (by kernel_rfl) h1 (fun m hm => hz m (List.mem_append.2 (.inr (List.mem_append.2 (.inl hm)))))
  obtain ⟨A2, n2, c2, L2, rfl, i2, r2, z2⟩ := open_row8 Try.underlying27 Try.underlying3 (by kernel_rfl) (by kernel_rfl) h2 (fun m hm => hz m (List.mem_append.2 (.inr (List.mem_append.2 (.inr (List.mem_append.2 (.inl hm)))))))
  exact ⟨n0, n1, n2, ⟨A0, c0, A1, c1, A2, c2⟩, L0, L1, L2, rfl, ⟨i0, i1, i2⟩, r0, r2, z0, z1, z2⟩
end

end Go.Proofs.Ytanifbofjecpmaa
