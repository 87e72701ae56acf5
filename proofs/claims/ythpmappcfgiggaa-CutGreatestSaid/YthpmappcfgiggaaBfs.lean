/- Plain facts: a search that keeps the hops by which it met its vertices; flows to which no way can be added. -/
import Derived.Test.YthpmappcfgiggaaReaches
import Derived.Test.YthpmappcfgiggaaWays
namespace Go.Proofs.Ythpmappcfgiggaa

/-- The hops by which a search met its vertices: each comes from one that was met ahead. -/
structure Tree (l : List ArcN) (s N : Nat) (xs : List Int) (P : List HopN) : Prop where
  len : P.length = N
  hop : ∀ (p v : Nat), xs[p]? = some (v : Int) → v ≠ s → ∃ (q : Nat) (u : Int) (h : HopN), q < p ∧ xs[q]? = some u ∧ P[v]? = some h ∧ HopAt l h u (v : Int)
section
variable {l : List ArcN} {F : List Int} {s t N i k : Nat} {K : List Bool} {xs : List Int} {P : List HopN}
theorem Tree.start : Tree l s N [(s : Int)] (List.replicate N ⟨0, false⟩) := by
  refine ⟨by simp, fun p v hp hv => ?_⟩
  match p with
  | 0 =>
    simp only [List.getElem?_cons_zero, Option.some.injEq] at hp
    omega
  | p + 1 => simp at hp
theorem Tree.add {v : Nat} {u : Int} {h : HopN} (hT : Tree l s N xs P) (hK : (v : Int) ∉ xs) (hi : xs[i]? = some u) (hh : HopAt l h u (v : Int)) (hv : v < N) : Tree l s N (xs ++ [(v : Int)]) (P.set v h) := by
  have hl := hT.len
  have hil := (List.getElem?_eq_some_iff.1 hi).1
  refine ⟨by simp [hl], fun p x hp hx => ?_⟩
  by_cases hlt : p < xs.length
  · rw [List.getElem?_append_left hlt] at hp
    obtain ⟨q, y, g, h1, h2, h3, h4⟩ := hT.hop p x hp hx
    have hne : v ≠ x := fun e => hK (by subst e; exact List.mem_of_getElem? hp)
    exact ⟨q, y, g, h1, by rw [List.getElem?_append_left (by omega)]; exact h2, by rw [List.getElem?_set_ne hne]; exact h3, h4⟩
  · have hpl := (List.getElem?_eq_some_iff.1 hp).1
    simp only [List.length_append, List.length_cons, List.length_nil] at hpl
    obtain rfl : p = xs.length := by omega
    simp only [List.getElem?_append_right (Nat.le_refl _), Nat.sub_self, List.getElem?_cons_zero, Option.some.injEq] at hp
    obtain rfl : v = x := by omega
    exact ⟨i, u, h, hil, by rw [List.getElem?_append_left hil]; exact hi, by rw [List.getElem?_set_self (by omega)], hh⟩

/-- A search through open arcs, its first i vertices gone through. -/
structure Bfs (l : List ArcN) (F : List Int) (N s i : Nat) (K : List Bool) (xs : List Int) (P : List HopN) : Prop where
  seek : SeekInv (Opn l F) N (s : Int) i K xs
  tree : Tree l s N xs P
/-- Vertex v's arcs, as far as the first k. -/
def Seen4 (l : List ArcN) (F : List Int) (K : List Bool) (v : Int) (k : Nat) : Prop :=
  ∀ (j : Nat) (a : ArcN) (x : Int), j < k → l[j]? = some a → F[j]? = some x → (a.frm = v → x < a.cap → inS K a.to = true) ∧ (a.to = v → 0 < x → inS K a.frm = true)

theorem Bfs.start (hs : s < N) : Bfs l F N s 0 ((List.replicate N false).set s true) [(s : Int)] (List.replicate N ⟨0, false⟩) := ⟨SeekInv.start hs, Tree.start⟩
theorem Bfs.nat (h : Bfs l F N s i K xs P) {p : Nat} {v : Int} (hv : xs[p]? = some v) : ∃ u : Nat, v = (u : Int) ∧ u < N ∧ inS K (u : Int) = true ∧ Star (Opn l F) (s : Int) (u : Int) := by
  obtain ⟨h1, h2, h3, h4⟩ := h.seek.ent v (List.mem_of_getElem? hv)
  obtain ⟨u, rfl⟩ := Int.eq_ofNat_of_zero_le h1
  exact ⟨u, rfl, by omega, h3, h4⟩
theorem Seen4.zero (v : Int) : Seen4 l F K v 0 := fun j a x hj => absurd hj (by omega)
theorem Seen4.next {v : Int} (h : Seen4 l F K v k) {a : ArcN} {x : Int} (ha : l[k]? = some a) (hx : F[k]? = some x) (h1 : a.frm = v → x < a.cap → inS K a.to = true) (h2 : a.to = v → 0 < x → inS K a.frm = true) : Seen4 l F K v (k + 1) := fun j b y hj hb hy => by
  by_cases e : j = k
  · subst e
    rw [ha] at hb
    rw [hx] at hy
    injection hb with hb
    injection hy with hy
    subst hb; subst hy
    exact ⟨h1, h2⟩
  · exact h j b y (by omega) hb hy
theorem Seen4.set {v : Int} (h : Seen4 l F K v k) (hE : EndsIn N l) {u : Nat} (hu : u < K.length) : Seen4 l F (K.set u true) v k := fun j a x hj ha hx => by
  have he := hE a (mem_at ha)
  obtain ⟨g1, g2⟩ := h j a x hj ha hx
  exact ⟨fun e1 e2 => by rw [inS_set he.2.2.1 hu, g1 e1 e2]; rfl, fun e1 e2 => by rw [inS_set he.1 hu, g2 e1 e2]; rfl⟩
theorem Seen4.all {v : Int} (h : Seen4 l F K v k) (hk : k = l.length) : ∀ u, 0 ≤ u → Opn l F v u → inS K u = true := by
  rintro u hu ⟨j, a, x, ha, hx, hne, hh⟩
  obtain ⟨g1, g2⟩ := h j a x (by rw [hk]; exact (List.getElem?_eq_some_iff.1 ha).1) ha hx
  rcases hh with ⟨e1, e2, e3⟩ | ⟨e1, e2, e3⟩
  · subst e2; exact g1 e1 e3
  · subst e2; exact g2 e1 e3
theorem Bfs.next {v : Int} (h : Bfs l F N s i K xs P) (hv : xs[i]? = some v) (hp : Seen4 l F K v k) (hk : k = l.length) : Bfs l F N s (i + 1) K xs P := ⟨h.seek.next hv (hp.all hk), h.tree⟩
/-- One more is met. -/
theorem Bfs.add {v u : Nat} {h : HopN} (hB : Bfs l F N s i K xs P) (hv : xs[i]? = some (v : Int)) (hu : u < N) (hK : inS K (u : Int) = false) (hh : HopAt l h (v : Int) (u : Int)) (hR : Opn l F (v : Int) (u : Int)) :
    Bfs l F N s i (K.set u true) (xs ++ [(u : Int)]) (P.set u h) := by
  have hil := (List.getElem?_eq_some_iff.1 hv).1
  have he := hB.seek.ent _ (List.mem_of_getElem? hv)
  refine ⟨hB.seek.add (by omega) hu (.more he.2.2.2 hR) hK (by omega), hB.tree.add (fun hm => ?_) hv hh hu⟩
  have := (hB.seek.ent _ hm).2.2.1
  rw [hK] at this
  cases this
theorem Bfs.fwd {v u : Nat} {c x : Int} (hB : Bfs l F N s i K xs P) (hv : xs[i]? = some (v : Int)) (hu : u < N) (hK : inS K (u : Int) = false) (ha : l[k]? = some ⟨(v : Int), (u : Int), c⟩) (hx : F[k]? = some x) (hlt : x < c) :
    Bfs l F N s i (K.set u true) (xs ++ [(u : Int)]) (P.set u ⟨(k : Int), false⟩) := by
  have he := hB.seek.ent _ (List.mem_of_getElem? hv)
  refine hB.add hv hu hK ⟨by simp, _, by simpa using ha, rfl, rfl⟩ ⟨k, _, x, ha, hx, fun e => ?_, .inl ⟨rfl, rfl, hlt⟩⟩
  simp only at e
  rw [e, hK] at he
  exact absurd he.2.2.1 (by decide)
theorem Bfs.bwd {v u : Nat} {c x : Int} (hB : Bfs l F N s i K xs P) (hv : xs[i]? = some (v : Int)) (hu : u < N) (hK : inS K (u : Int) = false) (ha : l[k]? = some ⟨(u : Int), (v : Int), c⟩) (hx : F[k]? = some x) (hlt : 0 < x) :
    Bfs l F N s i (K.set u true) (xs ++ [(u : Int)]) (P.set u ⟨(k : Int), true⟩) := by
  have he := hB.seek.ent _ (List.mem_of_getElem? hv)
  refine hB.add hv hu hK ⟨by simp, _, by simpa using ha, rfl, rfl⟩ ⟨k, _, x, ha, hx, fun e => ?_, .inr ⟨rfl, rfl, hlt⟩⟩
  simp only at e
  rw [← e, hK] at he
  exact absurd he.2.2.1 (by decide)
theorem Bfs.room {u : Nat} (hB : Bfs l F N s i K xs P) (hu : u < N) (hK : inS K (u : Int) = false) : xs.length < N := by
  have hl := hB.seek.len
  have h1 := hB.seek.cnt
  have h2 : K.count true < K.length := by
    rcases Nat.lt_or_ge (K.count true) K.length with h | h
    · exact h
    · have := List.count_eq_length.1 (Nat.le_antisymm List.count_le_length h) (K[u]'(by omega)) (List.getElem_mem _)
      have h3 := at_inS (K := K) (v := u) (by omega)
      rw [List.getElem?_eq_getElem (by omega), hK] at h3
      injection h3 with h3
      rw [h3] at this
      cases this
  omega
/-- All that is reached is met. -/
theorem Bfs.all (h : Bfs l F N s i K xs P) (hi : ¬ i < xs.length) (hE : EndsIn N l) {v : Nat} : inS K (v : Int) = true ↔ Star (Opn l F) (s : Int) (v : Int) :=
  h.seek.all hi (by omega) (fun v u hR => by
    obtain ⟨j, a, x, ha, hx, hne, hh⟩ := hR
    have := hE a (mem_at ha)
    rcases hh with ⟨e1, e2, e3⟩ | ⟨e1, e2, e3⟩ <;> omega) (by omega)
/-- The way back to s: where one stands, and the way from there on. -/
def BackTo (l : List ArcN) (t : Nat) (xs : List Int) (v : Int) (W : List HopN) : Prop := ∃ p : Nat, xs[p]? = some v ∧ p + W.length < xs.length ∧ Way l v W (t : Int)
theorem Bfs.back (h : Bfs l F N s i K xs P) (ht : inS K (t : Int) = true) : BackTo l t xs (t : Int) [] := by
  obtain ⟨p, hp⟩ := List.getElem?_of_mem (h.seek.mem _ (by omega) ht)
  exact ⟨p, hp, by simpa using (List.getElem?_eq_some_iff.1 hp).1, rfl⟩
theorem Bfs.step {v : Nat} {W : List HopN} (h : Bfs l F N s i K xs P) (hb : BackTo l t xs (v : Int) W) (hv : v ≠ s) : ∃ (g : HopN) (u : Int), P[v]? = some g ∧ HopAt l g u (v : Int) ∧ BackTo l t xs u (g :: W) := by
  obtain ⟨p, hp, hl, hw⟩ := hb
  obtain ⟨q, u, g, h1, h2, h3, h4⟩ := h.tree.hop p v hp hv
  exact ⟨g, u, h3, h4, q, h2, by simp; omega, _, h4, hw⟩
theorem BackTo.isWay {v : Int} {W : List HopN} (h : BackTo l t xs v W) : IsWay l W := by
  obtain ⟨p, _, _, hw⟩ := h
  exact .inr ⟨_, _, hw⟩

/-- What is sent along a way from S to T leaves a flow one. -/
theorem right_sent {S T : Int} {W : List HopN} {d : Int} (hl : F.length = l.length) (h : RightIn N S T l F) (hw : Way l S W T) : RightIn N S T l (sent F W d) := fun u hu => by
  rw [ex_sent hl hw]
  rcases h u hu with e | e | e
  · exact .inl e
  · exact .inr (.inl e)
  · by_cases h1 : T = (u : Int)
    · exact .inr (.inl h1.symm)
    · by_cases h2 : S = (u : Int)
      · exact .inl h2.symm
      · rw [if_neg h1, if_neg h2, e]; exact .inr (.inr rfl)

/-- No open arc leads out of K. -/
def Close4 (l : List ArcN) (F : List Int) (N : Nat) (K : List Bool) : Prop := ∀ v u : Nat, v < N → u < N → Opn l F (v : Int) (u : Int) → inS K (v : Int) = true → inS K (u : Int) = true
theorem shut_tight (hE : EndsIn N l) (hF : FlowIn l F) : Close4 l F N K ↔ TightFor K l F := by
  constructor
  · intro h j a x ha hx
    have he := hE a (mem_at ha)
    have hb := hF.ent j a x ha hx
    obtain ⟨f, g, c⟩ := a
    simp only at he hb
    obtain ⟨f, rfl⟩ := Int.eq_ofNat_of_zero_le he.1
    obtain ⟨u, rfl⟩ := Int.eq_ofNat_of_zero_le he.2.2.1
    simp only [outB, innB, Bool.and_eq_true, Bool.not_eq_true']
    refine ⟨fun ⟨h1, h2⟩ => ?_, fun ⟨h1, h2⟩ => ?_⟩
    · refine Classical.byContradiction fun hne => ?_
      have := h f u (by omega) (by omega) ⟨j, _, x, ha, hx, fun e => (by simp only at e; rw [e, h2] at h1; cases h1), .inl ⟨rfl, rfl, by simp only; omega⟩⟩ h1
      rw [h2] at this; cases this
    · refine Classical.byContradiction fun hne => ?_
      have := h u f (by omega) (by omega) ⟨j, _, x, ha, hx, fun e => (by simp only at e; rw [← e, h1] at h2; cases h2), .inr ⟨rfl, rfl, by omega⟩⟩ h2
      rw [h1] at this; cases this
  · rintro h v u hv hu ⟨j, a, x, ha, hx, hne, hh⟩ hK
    obtain ⟨g1, g2⟩ := h j a x ha hx
    refine Classical.byContradiction fun hn => ?_
    have hn' : inS K (u : Int) = false := by simpa using hn
    rcases hh with ⟨e1, e2, e3⟩ | ⟨e1, e2, e3⟩
    · have := g1 (by simp only [outB, e1, e2, hK, hn']; rfl)
      omega
    · have := g2 (by simp only [innB, e1, e2, hK, hn']; rfl)
      omega
theorem from_shut (hK : ∀ v : Int, 0 ≤ v → (inS K v = true ↔ Star (Opn l F) (s : Int) v)) : Close4 l F N K := fun v u hv hu hR h => by
  rw [hK _ (by omega)] at h ⊢
  exact .more h hR
theorem to_shut (hK : ∀ v : Nat, v < N → (inS K (v : Int) = true ↔ ¬ Star (Opn l F) (v : Int) (t : Int))) : Close4 l F N K := fun v u hv hu hR h => by
  rw [hK _ hv] at h
  rw [hK _ hu]
  exact fun h' => h (Star.ahead hR h')
theorem Close4.star (h : Close4 l F N K) (hE : EndsIn N l) {v : Nat} {x : Int} (hv : v < N) (hs : Star (Opn l F) (v : Int) x) (hK : inS K (v : Int) = true) : inS K x = true := by
  have := hs.shut (p := fun y => 0 ≤ y ∧ y < N ∧ inS K y = true) ⟨by omega, by omega, hK⟩ fun a b ⟨h1, h2, h3⟩ hR => by
    obtain ⟨a, rfl⟩ := Int.eq_ofNat_of_zero_le h1
    have hb : 0 ≤ b ∧ b < N := by
      obtain ⟨j, c, y, hc, hy, hne, hh⟩ := hR
      have := hE c (mem_at hc)
      rcases hh with ⟨e1, e2, e3⟩ | ⟨e1, e2, e3⟩ <;> omega
    obtain ⟨b, rfl⟩ := Int.eq_ofNat_of_zero_le hb.1
    exact ⟨hb.1, hb.2, h a b (by omega) (by omega) hR h3⟩
  exact this.2.2
end
end Go.Proofs.Ythpmappcfgiggaa
