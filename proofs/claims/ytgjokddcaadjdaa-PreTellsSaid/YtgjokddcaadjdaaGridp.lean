/- Plain facts: a residual network by its rows, distances, a search in width. No word of the program. -/
import Derived.Test.YtgjokddcaadjdaaRefp
namespace Go.Proofs.Ytgjokddcaadjdaa

/-- A residual network, by numbers: where rows begin, heads, the other ones. -/
structure Grid (N M : Nat) (fst hd rv : Nat → Nat) : Prop where
  f0 : fst 0 = 0
  fN : fst N = M
  mono : ∀ v, v < N → fst v ≤ fst (v + 1)
  hdl : ∀ a, a < M → hd a < N
  rvl : ∀ a, a < M → rv a < M
  rvv : ∀ a, a < M → rv (rv a) = a
  tail : ∀ v a, v < N → fst v ≤ a → a < fst (v + 1) → hd (rv a) = v

/-- A residual arc that p takes leads from v to u. -/
def Lk (M : Nat) (hd rv : Nat → Nat) (p : Nat → Bool) (v u : Nat) : Prop := ∃ a, a < M ∧ hd (rv a) = v ∧ hd a = u ∧ p a = true

section
variable {N M : Nat} {fst hd rv : Nat → Nat} {p q : Nat → Bool}
theorem Grid.monoN (h : Grid N M fst hd rv) : ∀ {i j : Nat}, i ≤ j → j ≤ N → fst i ≤ fst j := by
  intro i j hij
  induction j with
  | zero => intro _; have : i = 0 := by omega
            subst this; exact Nat.le_refl _
  | succ j ih =>
    intro hj
    by_cases e : i = j + 1
    · subst e; exact Nat.le_refl _
    · have := ih (by omega) (by omega)
      have := h.mono j (by omega)
      omega
theorem Grid.fle (h : Grid N M fst hd rv) {v : Nat} (hv : v ≤ N) : fst v ≤ M := by
  have := h.monoN hv (Nat.le_refl N)
  rwa [h.fN] at this
/-- Each residual arc stands in the row of its tail. -/
theorem Grid.row (h : Grid N M fst hd rv) {a : Nat} (ha : a < M) : fst (hd (rv a)) ≤ a ∧ a < fst (hd (rv a) + 1) ∧ hd (rv a) < N := by
  have key : ∀ n, n ≤ N → a < fst n → ∃ v, v < n ∧ fst v ≤ a ∧ a < fst (v + 1) := by
    intro n
    induction n with
    | zero => intro _ hl; rw [h.f0] at hl; omega
    | succ n ih =>
      intro hn hl
      by_cases hc : a < fst n
      · obtain ⟨v, h1, h2⟩ := ih (by omega) hc
        exact ⟨v, by omega, h2⟩
      · exact ⟨n, by omega, by omega, hl⟩
  obtain ⟨v, h1, h2, h3⟩ := key N (Nat.le_refl _) (by rw [h.fN]; exact ha)
  rw [h.tail v a h1 h2 h3]
  exact ⟨h2, h3, h1⟩
theorem lk_row (h : Grid N M fst hd rv) {v u : Nat} (hk : Lk M hd rv p v u) : v < N ∧ u < N ∧ ∃ a, fst v ≤ a ∧ a < fst (v + 1) ∧ hd a = u ∧ p a = true := by
  obtain ⟨a, ha, rfl, rfl, hp⟩ := hk
  have := h.row ha
  exact ⟨this.2.2, h.hdl a ha, a, this.1, this.2.1, rfl, hp⟩
theorem row_lk (h : Grid N M fst hd rv) {v a : Nat} (hv : v < N) (h1 : fst v ≤ a) (h2 : a < fst (v + 1)) (hp : p a = true) : Lk M hd rv p v (hd a) := by
  have := h.fle (show v + 1 ≤ N by omega)
  exact ⟨a, by omega, h.tail v a hv h1 h2, rfl, hp⟩
/-- What is left of the other ones leads the other way. -/
theorem lk_flip (h : Grid N M fst hd rv) (hq : ∀ a, a < M → q a = p (rv a)) {v u : Nat} : Lk M hd rv q v u ↔ Lk M hd rv p u v := by
  constructor
  · rintro ⟨a, ha, h1, h2, h3⟩
    refine ⟨rv a, h.rvl a ha, by rw [h.rvv a ha]; exact h2, h1, ?_⟩
    rw [← hq a ha]; exact h3
  · rintro ⟨a, ha, h1, h2, h3⟩
    refine ⟨rv a, h.rvl a ha, by rw [h.rvv a ha]; exact h2, h1, ?_⟩
    rw [hq _ (h.rvl a ha), h.rvv a ha]; exact h3
theorem lk_mono (hq : ∀ a, a < M → p a = true → q a = true) {v u : Nat} (h : Lk M hd rv p v u) : Lk M hd rv q v u := by
  obtain ⟨a, ha, h1, h2, h3⟩ := h
  exact ⟨a, ha, h1, h2, hq a ha h3⟩
end

/-- How many steps each vertex is away from t, along R. -/
structure IsDist (R : Nat → Nat → Prop) (N t : Nat) (d : Nat → Nat) : Prop where
  le : ∀ v, v < N → d v ≤ N
  zero : d t = 0
  step : ∀ u v, u < N → v < N → R u v → d v ≤ d u + 1
  near : ∀ v, v < N → d v < N → v ≠ t → ∃ u, u < N ∧ R u v ∧ d v = d u + 1

section
variable {R R' : Nat → Nat → Prop} {N s t : Nat} {d d' f g : Nat → Nat}
theorem IsDist.sub (h : IsDist R N t d) (h' : IsDist R' N t d') (hR : ∀ u v, u < N → v < N → R u v → R' u v) : ∀ v, v < N → d' v ≤ d v := by
  have key : ∀ k v, v < N → d v = k → d' v ≤ k := by
    intro k
    induction k with
    | zero =>
      intro v hv hk
      by_cases e : v = t
      · rw [e, h'.zero]; exact Nat.le_refl _
      · obtain ⟨u, _, _, h3⟩ := h.near v hv (by omega) e
        omega
    | succ k ih =>
      intro v hv hk
      by_cases e : v = t
      · rw [e, h'.zero]; omega
      · by_cases hN : d v < N
        · obtain ⟨u, h1, h2, h3⟩ := h.near v hv hN e
          have := ih u h1 (by omega)
          have := h'.step u v h1 hv (hR u v h1 hv h2)
          omega
        · have := h'.le v hv
          omega
  exact fun v hv => key _ v hv rfl
theorem IsDist.same (h : IsDist R N t d) (h' : IsDist R' N t d') (hR : ∀ u v, u < N → v < N → (R u v ↔ R' u v)) : ∀ v, v < N → d v = d' v := fun v hv =>
  Nat.le_antisymm (h'.sub h (fun u v hu hv k => (hR u v hu hv).2 k) v hv) (h.sub h' (fun u v hu hv k => (hR u v hu hv).1 k) v hv)
theorem IsDist.zero_iff (h : IsDist R N t d) {v : Nat} (hv : v < N) : d v = 0 ↔ v = t := by
  constructor
  · intro e
    by_cases hc : v = t
    · exact hc
    · obtain ⟨u, _, _, h3⟩ := h.near v hv (by omega) hc
      omega
  · rintro rfl; exact h.zero
/-- Over a third one it is no nearer. -/
theorem IsDist.over (hf : IsDist R N s f) (hg : IsDist (fun u v => R v u) N t g) : ∀ w, w < N → f w < N → g s ≤ f w + g w := by
  have key : ∀ k w, w < N → f w < N → f w = k → g s ≤ k + g w := by
    intro k
    induction k with
    | zero =>
      intro w hw _ hk
      rw [(hf.zero_iff hw).1 hk]; omega
    | succ k ih =>
      intro w hw hN hk
      by_cases e : w = s
      · rw [e]; omega
      · obtain ⟨u, h1, h2, h3⟩ := hf.near w hw hN e
        have := ih u h1 (by omega) (by omega)
        have := hg.step w u hw h1 h2
        omega
  exact fun w hw hN => key _ w hw hN rfl
theorem IsDist.both (hf : IsDist R N s f) (hg : IsDist (fun u v => R v u) N t g) (hs : s < N) (ht : t < N) : g s = f t := by
  refine Nat.le_antisymm ?_ ?_
  · by_cases h : f t < N
    · have := hf.over hg t ht h
      rw [hg.zero] at this
      omega
    · have := hg.le s hs
      omega
  · by_cases h : g s < N
    · have := IsDist.over (R := fun u v => R v u) hg hf s hs h
      rw [hf.zero] at this
      omega
    · have := hf.le t ht
      omega
end

/-- A function changed at one number. -/
def nupd (f : Nat → Nat) (u x : Nat) : Nat → Nat := fun v => if v = u then x else f v
theorem nupd_at (f : Nat → Nat) (u x : Nat) : nupd f u x u = x := by simp [nupd]
theorem nupd_ne {f : Nat → Nat} {u x v : Nat} (h : v ≠ u) : nupd f u x v = f v := by simp [nupd, h]

/-- A search in width: the first i of the queue xs are done. -/
structure Bfs (R : Nat → Nat → Prop) (N s i : Nat) (far : Nat → Nat) (xs : List Nat) : Prop where
  hd : xs[0]? = some s
  lt : ∀ v ∈ xs, v < N
  nodup : xs.Nodup
  mem : ∀ v, v < N → (far v ≠ N ↔ v ∈ xs)
  idx : ∀ (j v : Nat), xs[j]? = some v → far v ≤ j
  zero : far s = 0
  mono : ∀ (j k v u : Nat), j ≤ k → xs[j]? = some v → xs[k]? = some u → far v ≤ far u
  cap : ∀ (v u : Nat), xs[i]? = some v → u ∈ xs → far u ≤ far v + 1
  done : ∀ (j v u : Nat), j < i → xs[j]? = some v → R v u → u < N → far u ≤ far v + 1
  near : ∀ v ∈ xs, v ≠ s → ∃ u, u ∈ xs ∧ R u v ∧ far v = far u + 1
  le : ∀ v, v < N → far v ≤ N

section
variable {R : Nat → Nat → Prop} {N s i v u : Nat} {far : Nat → Nat} {xs : List Nat}
theorem nodup_le : ∀ {N : Nat} {xs : List Nat} (_ : xs.Nodup) (_ : ∀ v ∈ xs, v < N), xs.length ≤ N
  | 0, xs, _, hl => by
    cases xs with
    | nil => simp
    | cons x r => exact absurd (hl x (by simp)) (by omega)
  | N + 1, xs, hn, hl => by
    have h1 := nodup_le (N := N) (xs := xs.erase N) (hn.erase N) (fun v hv => by
      have h2 := (hn.mem_erase_iff).1 hv
      have := hl v h2.2
      have := h2.1
      omega)
    have h3 : xs.length ≤ (xs.erase N).length + 1 := by
      rw [List.length_erase]
      split <;> omega
    omega
theorem Bfs.len (h : Bfs R N s i far xs) : xs.length ≤ N := nodup_le h.nodup h.lt
theorem Bfs.start (hs : s < N) : Bfs R N s 0 (nupd (fun _ => N) s 0) [s] := by
  have hu : ∀ v, nupd (fun _ => N) s 0 v = if v = s then 0 else N := fun _ => rfl
  refine ⟨rfl, by simpa using hs, by simp, fun v hv => ?_, fun j v hj => ?_, nupd_at _ _ _, fun j k v u _ hj hk => ?_, fun v u hv hu' => ?_, fun j v u hj => absurd hj (by omega), fun v hv hne => ?_, fun v hv => ?_⟩
  · rw [hu]; by_cases e : v = s
    · simp [e]; omega
    · simp [e]
  · cases j with
    | zero => simp at hj; subst hj; rw [nupd_at]; exact Nat.le_refl _
    | succ j => simp at hj
  · have e1 : v = s := by
      have := List.mem_of_getElem? hj
      simpa using this
    rw [e1, nupd_at]; omega
  · have e1 : u = s := by simpa using hu'
    rw [e1, nupd_at]; omega
  · simp at hv; exact absurd hv hne
  · rw [hu]; split <;> omega
theorem Bfs.add (h : Bfs R N s i far xs) (hv : xs[i]? = some v) (hu : u < N) (hf : far u = N) (hR : R v u) : Bfs R N s i (nupd far u (far v + 1)) (xs ++ [u]) := by
  have hmem : u ∉ xs := fun hc => ((h.mem u hu).2 hc) hf
  have hne : ∀ w, w ∈ xs → w ≠ u := fun w hw e => hmem (e ▸ hw)
  have hvm := List.mem_of_getElem? hv
  have hnd : (xs ++ [u]).Nodup := by
    rw [List.nodup_append]
    exact ⟨h.nodup, by simp, fun a ha b hb => by
      simp at hb
      subst hb
      exact hne a ha⟩
  have hlt : ∀ w ∈ xs ++ [u], w < N := fun w hw => by
    rcases List.mem_append.1 hw with hw | hw
    · exact h.lt w hw
    · simp at hw; omega
  have hlen := nodup_le hnd hlt
  simp at hlen
  have hil := (List.getElem?_eq_some_iff.1 hv).1
  have hvi := h.idx i v hv
  have hold : ∀ w, w ∈ xs → nupd far u (far v + 1) w = far w := fun w hw => nupd_ne (hne w hw)
  have hmm : ∀ (j w : Nat), (xs ++ [u])[j]? = some w → (w ∈ xs ∧ xs[j]? = some w) ∨ (w = u ∧ j = xs.length) := by
    intro j w hj
    by_cases hjl : j < xs.length
    · rw [List.getElem?_append_left hjl] at hj
      exact .inl ⟨List.mem_of_getElem? hj, hj⟩
    · have hj2 := (List.getElem?_eq_some_iff.1 hj).1
      simp at hj2
      have e : j = xs.length := by omega
      rw [e] at hj
      simp at hj
      exact .inr ⟨hj.symm, e⟩
  have hiv : ∀ w, (xs ++ [u])[i]? = some w → w = v := fun w hw => by
    rw [List.getElem?_append_left hil, hv] at hw
    injection hw with hw
    exact hw.symm
  refine ⟨?_, hlt, hnd, fun w hw => ?_, fun j w hj => ?_, ?_, fun j k a b hjk ha hb => ?_, fun a b ha hb => ?_, fun j a b hj ha hR' hb => ?_, fun a ha hne' => ?_, fun w hw => ?_⟩
  · rw [List.getElem?_append_left (by omega)]; exact h.hd
  · by_cases e : w = u
    · subst e; rw [nupd_at]; simp; omega
    · rw [nupd_ne e, h.mem w hw]
      simp [e]
  · rcases hmm j w hj with ⟨h1, h2⟩ | ⟨h1, h2⟩
    · rw [hold w h1]; exact h.idx j w h2
    · subst h1; rw [nupd_at]; omega
  · rw [nupd_ne]
    · exact h.zero
    · exact hne s (List.mem_of_getElem? h.hd)
  · rcases hmm j a ha with ⟨h1, h2⟩ | ⟨h1, h2⟩
    · rw [hold a h1]
      rcases hmm k b hb with ⟨g1, g2⟩ | ⟨g1, g2⟩
      · rw [hold b g1]; exact h.mono j k a b hjk h2 g2
      · subst g1; rw [nupd_at]; exact h.cap v a hv h1
    · rcases hmm k b hb with ⟨g1, g2⟩ | ⟨g1, g2⟩
      · have := (List.getElem?_eq_some_iff.1 g2).1
        omega
      · subst h1; subst g1; exact Nat.le_refl _
  · have := hiv a ha
    subst this
    rw [hold a hvm]
    rcases List.mem_append.1 hb with hb | hb
    · rw [hold b hb]; exact h.cap a b hv hb
    · simp at hb; subst hb; rw [nupd_at]; exact Nat.le_refl _
  · rcases hmm j a ha with ⟨h1, h2⟩ | ⟨h1, h2⟩
    · rw [hold a h1]
      have := h.done j a b hj h2 hR' hb
      by_cases e : b = u
      · subst e; rw [nupd_at]; omega
      · rw [nupd_ne e]; exact this
    · omega
  · rcases List.mem_append.1 ha with ha | ha
    · obtain ⟨w, h1, h2, h3⟩ := h.near a ha hne'
      exact ⟨w, by simp [h1], h2, by rw [hold a ha, hold w h1]; exact h3⟩
    · simp at ha
      subst ha
      exact ⟨v, by simp [hvm], hR, by rw [nupd_at, hold v hvm]⟩
  · by_cases e : w = u
    · subst e; rw [nupd_at]; omega
    · rw [nupd_ne e]; exact h.le w hw
theorem Bfs.next (h : Bfs R N s i far xs) (hv : xs[i]? = some v) (hd : ∀ u, u < N → R v u → far u ≤ far v + 1) : Bfs R N s (i + 1) far xs := by
  refine ⟨h.hd, h.lt, h.nodup, h.mem, h.idx, h.zero, h.mono, fun a b ha hb => ?_, fun j a b hj ha hR hb => ?_, h.near, h.le⟩
  · have h1 := h.cap v b hv hb
    have h2 := h.mono i (i + 1) v a (by omega) hv ha
    omega
  · by_cases e : j = i
    · subst e
      rw [hv] at ha
      injection ha with ha
      subst ha
      exact hd b hb hR
    · exact h.done j a b (by omega) ha hR hb
theorem Bfs.all (h : Bfs R N s i far xs) (hi : xs.length ≤ i) : IsDist R N s far := by
  refine ⟨h.le, h.zero, fun a b ha hb hR => ?_, fun a ha hlt hne => ?_⟩
  · by_cases e : far a = N
    · have := h.le b hb
      omega
    · obtain ⟨j, hj⟩ := List.getElem?_of_mem ((h.mem a ha).1 e)
      have := (List.getElem?_eq_some_iff.1 hj).1
      exact h.done j a b (by omega) hj hR hb
  · obtain ⟨w, h1, h2, h3⟩ := h.near a ((h.mem a ha).1 (by omega)) hne
    exact ⟨w, h.lt w h1, h2, h3⟩
end

/-- The grid of a residual network's rows. -/
def hdOf (H : List Int) (a : Nat) : Nat := ((H[a]?).getD 0).toNat
theorem hdOf_at {H : List Int} {a : Nat} {x : Int} (h : H[a]? = some x) (h0 : 0 ≤ x) : (hdOf H a : Int) = x := by
  unfold hdOf
  rw [h]
  simp
  omega
theorem hdOf_eq {H : List Int} {a x : Nat} (h : H[a]? = some (x : Int)) : hdOf H a = x := by
  unfold hdOf
  rw [h]
  simp

theorem CsrL.grid {N : Nat} {l : List ArcN} {F H R C Ai : List Int} {B : List Bool} (h : CsrL N l F H R C Ai B) (hE : EndsIn N l) :
    Grid N (firstOf l N) (firstOf l) (hdOf H) (hdOf R) ∧ H = tab (firstOf l N) (fun a => (hdOf H a : Int)) ∧ R = tab (firstOf l N) (fun a => (hdOf R a : Int)) := by
  have key : ∀ a, a < firstOf l N → ∃ (i : Nat) (v u : Int) (b : Bool) (c : Int), Inc l i v u b c ∧ posOf l i v = a ∧ (hdOf H a : Int) = u ∧ hdOf R a = posOf l i u ∧ hdOf R a < firstOf l N ∧ hdOf R (hdOf R a) = a ∧ (hdOf H (hdOf R a) : Int) = v := by
    intro a ha
    obtain ⟨i, q, v, u, b, c, hI, hp, hq, hql, e1, e2, _⟩ := h.at hE ha
    obtain ⟨c', hI'⟩ := hI.flip
    have hR : hdOf R a = q := hdOf_eq e2
    have f1 := h.ent.ent _ _ _ _ _ hI' (hI'.ends hE).1 (pos_lt hI' hE)
    have f2 := h.rev.ent _ _ _ _ _ hI' (hI'.ends hE).1 (pos_lt hI' hE)
    rw [hq] at f1 f2
    rw [hp] at f2
    refine ⟨i, v, u, b, c, hI, hp, hdOf_at e1 (hI.ends hE).2.2.1, by rw [hR, hq], by rw [hR]; exact hql, by rw [hR]; exact hdOf_eq f2, by rw [hR]; exact hdOf_at f1.1 (hI.ends hE).1⟩
  refine ⟨⟨rfl, rfl, fun v _ => firstOf_mono l (by omega), fun a ha => ?_, fun a ha => ?_, fun a ha => ?_, fun v a hv h1 h2 => ?_⟩, ?_, ?_⟩
  · obtain ⟨i, v, u, b, c, hI, _, e, _⟩ := key a ha
    have := hI.ends hE
    omega
  · obtain ⟨i, v, u, b, c, hI, _, _, _, e, _⟩ := key a ha
    exact e
  · obtain ⟨i, v, u, b, c, hI, _, _, _, _, e, _⟩ := key a ha
    exact e
  · have hm := firstOf_mono l (show v + 1 ≤ N by omega)
    obtain ⟨i, v', u, b, c, hI, hp, _, _, _, _, e⟩ := key a (by omega)
    have hr := pos_row hI (hI.ends hE).1
    rw [hp] at hr
    have h0 := (hI.ends hE).1
    have hv' : v = v'.toNat := by
      rcases Nat.lt_trichotomy v v'.toNat with hl | hl | hl
      · have := firstOf_mono l (show v + 1 ≤ v'.toNat by omega)
        omega
      · exact hl
      · have := firstOf_mono l (show v'.toNat + 1 ≤ v by omega)
        omega
    omega
  · refine tab_ext h.ent.lH fun a ha => ?_
    obtain ⟨i, q, v, u, b, c, hI, hp, hq, hql, e1, e2, _⟩ := h.at hE ha
    rw [e1, hdOf_at e1 (hI.ends hE).2.2.1]
  · refine tab_ext h.rev.len fun a ha => ?_
    obtain ⟨i, q, v, u, b, c, hI, hp, hq, hql, e1, e2, _⟩ := h.at hE ha
    rw [e2, hdOf_eq e2]

end Go.Proofs.Ytgjokddcaadjdaa
