/- A map of integers that the call itself makes, told as a function of its keys. -/
import Derived.Test.YtfcjmhihheeifaaGround
import Derived.Maps.OwnSet
import Derived.Maps.Views
namespace Go.Proofs.Ytfcjmhihheeifaa
open Go.RowKit Go.Maps

/-- Block b is a map of at most n entries: the key 'key x' has the number 'm x', or none. -/
def MapsTo {κ : Type} (key : κ → Value) (P : Program) (kT eT : TypeId) (w : World) (b n : Nat) (m : κ → Option Int) : Prop :=
  ∃ D : DataW Unit, w.ownsMap P kT (plainElem P eT) b n D ∧ ∀ x kl, keyOf P kT (key x) = some kl → has D kl = (m x).isSome ∧ D.atKey kl (.lit (.int .i64 0)) = .lit (.int .i64 ((m x).getD 0))

section
variable {κ : Type} {key : κ → Value} {P : Program} {kT eT : TypeId} {w w' : World} {b n : Nat} {m : κ → Option Int}

theorem MapsTo.made (w : World) : MapsTo key P kT eT (w.alloc (.map #[] 0)) w.heap.size 0 fun _ => none :=
  ⟨_, World.ownsMap_made w P kT _, fun _ _ _ => ⟨rfl, rfl⟩⟩
theorem MapsTo.made_at {w : World} {g : Nat} (h : w.heap.size = g) : MapsTo key P kT eT (w.alloc (.map #[] 0)) g 0 fun _ => none := by
  subst h
  exact MapsTo.made w
theorem MapsTo.lt (h : MapsTo key P kT eT w b n m) : b < w.heap.size := h.choose_spec.1.lt
theorem MapsTo.kept {row : Option Nat} (h : MapsTo key P kT eT w b n m) (hg : w.grownBy w' row) (hne : some b ≠ row) : MapsTo key P kT eT w' b n m :=
  ⟨_, h.choose_spec.1.kept hg hne, h.choose_spec.2⟩
theorem MapsTo.alloc (h : MapsTo key P kT eT w b n m) (o : Obj) : MapsTo key P kT eT (w.alloc o) b n m := ⟨_, h.choose_spec.1.alloc o, h.choose_spec.2⟩
theorem MapsTo.drew (h : MapsTo key P kT eT w b n m) : MapsTo key P kT eT w.drew b n m := ⟨_, h.choose_spec.1.drew, h.choose_spec.2⟩
theorem MapsTo.drewN (h : MapsTo key P kT eT w b n m) (k : Nat) : MapsTo key P kT eT (w.drewN k) b n m := h
theorem MapsTo.setCell (h : MapsTo key P kT eT w b n m) {a : Addr} (ha : b ≠ a.block) (u : Value) : MapsTo key P kT eT (w.setCell a u) b n m := ⟨_, h.choose_spec.1.setCell ha u, h.choose_spec.2⟩
theorem MapsTo.mono (h : MapsTo key P kT eT w b n m) {n' : Nat} (hn : n ≤ n') : MapsTo key P kT eT w b n' m := ⟨_, h.choose_spec.1.mono hn, h.choose_spec.2⟩
theorem MapsTo.as (h : MapsTo key P kT eT w b n m) {m' : κ → Option Int} (e : ∀ x, m' x = m x) : MapsTo key P kT eT w b n m' := by
  obtain ⟨D, h1, h2⟩ := h
  exact ⟨D, h1, fun x kl hk => by rw [e]; exact h2 x kl hk⟩

/-- A map's block is none of cells. -/
theorem MapsTo.ne {g : Nat} {t : TypeId} {cs : Array Value} (h : MapsTo key P kT eT w b n m) (hk : Blk w g t cs) : b ≠ g := by
  rintro rfl
  obtain ⟨D, ⟨es, clock, hb, _⟩, _⟩ := h
  unfold Blk at hk
  rw [hb] at hk
  cases hk
theorem MapsTo.ne_own {e : TypeId} {base size k c : Nat} {A : Option Addr} {xs : List Value} (h : MapsTo key P kT eT w b n m) (hk : w.ownsRow base e size (.slice A k c) k xs) : ∀ g, A = some ⟨g, 0, none⟩ → b ≠ g := by
  rintro g rfl rfl
  obtain ⟨D, ⟨es, clock, hb, _⟩, _⟩ := h
  rcases hk.2 with ⟨h0, _⟩ | ⟨g, cap, cur, hv, _, hh, _⟩
  · cases h0
  · injection hv with hA
    injection hA with hA
    injection hA with hA
    subst hA
    rw [hb] at hh
    cases hh

theorem MapsTo.look_ok {t : TypeId} (h : MapsTo key P kT eT w b n m) (K : Keyed P kT) (ht : P.underlying t = some (.map kT eT)) (he : P.underlying eT = some (.int .i64)) (hz : (zeroValue eT).run P w = .ok (.int .i64 0) w)
    {x : κ} {kl : Lit} (hk : keyOf P kT (key x) = some kl) : (Instr.lookup t (.map (some b)) (key x) true).run P w = .ok (.tuple #[.int .i64 ((m x).getD 0), .bool (m x).isSome]) w := by
  obtain ⟨D, h1, h2⟩ := h
  obtain ⟨a1, a2⟩ := h2 x kl hk
  obtain ⟨v, ps, hrun, hv⟩ := h1.look_ok K ht hz (plainElem_int he (by decide)) hk
  obtain ⟨c, rfl, hc, _⟩ := plainElem_int_inv he hv
  have hc1 := congrArg Prod.fst hc
  simp only [a2] at hc1
  injection hc1 with hc1
  injection hc1 with _ hc1
  rw [hrun, a1, hc1]

theorem MapsTo.look {t : TypeId} (h : MapsTo key P kT eT w b n m) (K : Keyed P kT) (ht : P.underlying t = some (.map kT eT)) (he : P.underlying eT = some (.int .i64)) (hz : (zeroValue eT).run P w = .ok (.int .i64 0) w)
    {x : κ} {kl : Lit} (hk : keyOf P kT (key x) = some kl) : (Instr.lookup t (.map (some b)) (key x) false).run P w = .ok (.int .i64 ((m x).getD 0)) w := by
  obtain ⟨D, h1, h2⟩ := h
  obtain ⟨a1, a2⟩ := h2 x kl hk
  obtain ⟨c, hrun, hc, _⟩ := h1.lookup_int K ht he hz hk
  rw [a2] at hc
  injection hc with hc
  injection hc with _ hc
  rw [hrun, hc]

theorem MapsTo.update [DecidableEq κ] {t : TypeId} (h : MapsTo key P kT eT w b n m) (K : Keyed P kT) (hinj : ∀ x y, key x = key y → x = y) (ht : P.underlying t = some (.map kT eT)) (he : P.underlying eT = some (.int .i64)) (hn : n < maxLen)
    {x : κ} {kl : Lit} (hk : keyOf P kT (key x) = some kl) {v : Int} (hv : (Lit.int .i64 v).wf = true) :
    ∃ w', (Instr.mapUpdate t (.map (some b)) (key x) (.int .i64 v)).run P w = .ok () w' ∧ MapsTo key P kT eT w' b (n + 1) (fun y => if y = x then some v else m y) ∧ w.grownBy w' (some b) := by
  obtain ⟨D, h1, h2⟩ := h
  obtain ⟨w', hrun, h3, hg⟩ := h1.update K ht hn hk (plainElem_int he hv)
  refine ⟨w', hrun, ⟨_, h3, fun y ky hy => ?_⟩, hg⟩
  by_cases e : y = x
  · subst e
    rw [hk] at hy
    injection hy with hy
    subst hy
    simp only [if_true]
    exact ⟨has_put_same h1.isMap (K.key hk) _, atKey_put_same h1.isMap (K.key hk) _ _⟩
  · simp only [if_neg e]
    have hne : ky ≠ kl := by
      rintro rfl
      exact e (hinj _ _ (K.inj hy hk))
    rw [has_put_other hne, atKey_put_other hne]
    exact h2 y ky hy

theorem wpList_mapUpdate_to [DecidableEq κ] (w : World) {ops : Array Oper} {rest : List Oper} {o : Oper} {a : Act} {Q : Exit → Act → World → Prop} (hg : o.guard = none) (mo xo vo : Operand) (t : TypeId) (hop : o.op = Op.mapUpdate t mo xo vo)
    (h : MapsTo key P kT eT w b n m) (K : Keyed P kT) (hinj : ∀ x y, key x = key y → x = y) (ht : P.underlying t = some (.map kT eT)) (he : P.underlying eT = some (.int .i64)) (hn : n < maxLen)
    (x : κ) (kl : Lit) (hk : keyOf P kT (key x) = some kl) (v : Int) (hv : (Lit.int .i64 v).wf = true)
    (hm : a.eval mo = .map (some b)) (hx : a.eval xo = key x) (hvo : a.eval vo = .int .i64 v)
    (hK : ∀ w', Hid (MapsTo key P kT eT w' b (n + 1) (fun y => if y = x then some v else m y)) → w.grownBy w' (some b) → wpList P ops Q rest (a.put o.dst undef) w') : wpList P ops Q (o :: rest) a w := by
  refine wpList_plain hg fun K' hK' => ?_
  obtain ⟨w', hrun, r1, r2⟩ := h.update K hinj ht he hn hk hv
  unfold Oper.wp
  simp [execOp, hop, hm, hx, hvo, hrun, Result.andThen]
  exact hK' _ _ (hK w' r1 r2)
end

def pairV (p : Int × Int) : Value := .agg #[.int .i64 p.1, .int .i64 p.2]
theorem pairV_inj : ∀ p q : Int × Int, pairV p = pairV q → p = q := by
  rintro ⟨a, b⟩ ⟨c, d⟩ h
  simpa [pairV] using h
theorem wf_i64 {x : Int} (h : InR x) : (Lit.int .i64 x).wf = true := by
  obtain ⟨h1, h2⟩ := h
  simp [Lit.wf, IntKind.min, IntKind.max, IntKind.signed, IntKind.bits]
  omega

/-- A struct of two integers as a key. -/
theorem keyOf_two {P : Program} {k e : TypeId} {f0 f1 : Field} (hu : P.underlying k = some (.struct #[f0, f1])) (ht : P.keyType k = true) (hc : P.cellsOf k = 2) (hce : P.cellsOf e = 1) (hsz : ∃ m, P.types.size = m + 1)
    (t0 : f0.type = e) (t1 : f1.type = e) (o0 : f0.offset = 0) (o1 : f1.offset = 1) (n0 : (f0.name != "_") = true) (n1 : (f1.name != "_") = true) (he : P.underlying e = some (.int .i64)) {p : Int × Int} (h1 : InR p.1) (h2 : InR p.2) :
    keyOf P k (pairV p) = some (.string (keyBytes [.int .i64 p.1, .int .i64 p.2])) := by
  obtain ⟨m, hm⟩ := hsz
  unfold keyOf pairV
  simp only [hu]
  rw [if_pos (by simp [ht, Value.formed, hu, hc]), hm]
  unfold Program.keyLits
  simp only [hu, Value.cells]
  rw [if_pos ⟨by rw [hc]; rfl, by simp [n0, n1]⟩]
  simp [t0, t1, o0, o1, hce, Program.keyLits, he, wf_i64 h1, wf_i64 h2]

end Go.Proofs.Ytfcjmhihheeifaa
