/- Layer 7: slices.Clone of whatever row, Copy. -/
import Derived.Test.YtgjokddcaadjdaaRigo
import Derived.Test.YtgjokddcaadjdaaCsrm
namespace Go.Proofs.Ytgjokddcaadjdaa
open Go.RowKit
set_option maxRecDepth 100000

/-- The call returned these numbers in a row of its own. -/
def RetRow (ty : TypeId) (n : Nat) (L : List Int) (w : World) (e : Ending) (w' : World) : Prop :=
  ∃ (A : Option Addr) (c : Nat), e = .returned (.slice A n c) ∧ w'.ownsRow w.heap.size ty 1 (.slice A n c) n (L.map (Value.int .i64)) ∧ Below w.heap.size w w'
theorem flat_ints (L : List Int) : L.flatMap intCells = L.map (Value.int .i64) := by
  induction L with
  | nil => rfl
  | cons x r ih => rw [List.flatMap_cons, ih]; rfl

set_option maxHeartbeats 1000000 in
theorem cloneI_is (A : Option Addr) (n c : Nat) (L : List Int) (w : World) (hA : Ints w w.heap.size A n L) (hn : n ≤ 17592186044416) :
    Calls Try.prog 54 #[.slice A n c] w (RetRow 3 n L w) := by
  obtain ⟨i0, hi, hz0, hz1, hz2⟩ := info_parts int_info
  have HI := Lib.hid hi; have HZ0 := Lib.hid hz0; have HZ1 := Lib.hid hz1; have HZ2 := Lib.hid hz2
  clear hi hz0 hz1 hz2
  have q22 : ∀ (w : World) (a : Option Addr) (n c n' c' : Nat), (binOp .eql 27 (.slice a n c) (.slice none n' c')).run Try.prog w = .ok (.bool a.isNone) w := fun w a n c n' c' => Lib.run_eql_slice_nil w _ _ a n c n' c' Try.underlying27
  cases A with
  | none =>
    have h0 : n = 0 := by
      rcases Nat.eq_zero_or_pos n with h | h
      · exact h
      · obtain ⟨_, _, e, _⟩ := hA.2 h
        cases e
    have hL : L = [] := List.eq_nil_of_length_eq_zero (hA.1.trans h0)
    subst h0; subst hL
    go_enter Try.func54, Try.ntmps54
    go_wp2_with fail
    go_ret
    exact ⟨none, 0, rfl, World.ownsRow_nil _ _ _ _, Below.refl _ _⟩
  | some ad =>
  go_enter Try.func54, Try.ntmps54
  go_wp2_with (at_builtin; refine wpList_append_row _ rfl (.tmp 5) (.tmp 6) _ rfl w.heap.size 3 i0 _ 1 8 Try.underlying27 HI.out HZ0.out HZ1.out HZ2.out rfl (by omega) (some ⟨w.heap.size, 0, none⟩) 0 0 [] rfl (World.ownsRow_made w #[] 0 (Nat.le_refl _) (Nat.zero_le _) rfl) (some ad) n c (L.flatMap intCells) rfl ?_ ?_ int_one ?_ ?_ ?_ ?_)
  · rw [flat_len (int_len L), hA.len]
  · exact RdBy.src (int_len L) (hA.below (below_alloc _))
  · unfold maxLen; omega
  · omega
  · simp
  · intro A2 c2 w2 HO2 hg HX
    go_wp2
    go_ret
    refine ⟨A2, c2, by simp, by have := HO2.out; rw [flat_ints] at this; simpa using this, (below_alloc _).grown hg (by simp) (by intro k hk; simp [Value.ownBlock] at hk; omega)⟩

set_option maxHeartbeats 1000000 in
theorem cloneL_is (A : Option Addr) (n c : Nat) (L : List Int) (w : World) (hA : Ints w w.heap.size A n L) (hn : n ≤ 17592186044416) :
    Calls Try.prog 44 #[.slice A n c] w (RetRow 2 n L w) := by
  obtain ⟨i0, hi, hz0, hz1, hz2⟩ := info_parts long_info
  have HI := Lib.hid hi; have HZ0 := Lib.hid hz0; have HZ1 := Lib.hid hz1; have HZ2 := Lib.hid hz2
  clear hi hz0 hz1 hz2
  have q22 : ∀ (w : World) (a : Option Addr) (n c n' c' : Nat), (binOp .eql 26 (.slice a n c) (.slice none n' c')).run Try.prog w = .ok (.bool a.isNone) w := fun w a n c n' c' => Lib.run_eql_slice_nil w _ _ a n c n' c' Try.underlying26
  cases A with
  | none =>
    have h0 : n = 0 := by
      rcases Nat.eq_zero_or_pos n with h | h
      · exact h
      · obtain ⟨_, _, e, _⟩ := hA.2 h
        cases e
    have hL : L = [] := List.eq_nil_of_length_eq_zero (hA.1.trans h0)
    subst h0; subst hL
    go_enter Try.func44, Try.ntmps44
    go_wp2_with fail
    go_ret
    exact ⟨none, 0, rfl, World.ownsRow_nil _ _ _ _, Below.refl _ _⟩
  | some ad =>
  go_enter Try.func44, Try.ntmps44
  go_wp2_with (at_builtin; refine wpList_append_row _ rfl (.tmp 5) (.tmp 6) _ rfl w.heap.size 2 i0 _ 1 8 Try.underlying26 HI.out HZ0.out HZ1.out HZ2.out rfl (by omega) (some ⟨w.heap.size, 0, none⟩) 0 0 [] rfl (World.ownsRow_made w #[] 0 (Nat.le_refl _) (Nat.zero_le _) rfl) (some ad) n c (L.flatMap intCells) rfl ?_ ?_ int_one ?_ ?_ ?_ ?_)
  · rw [flat_len (int_len L), hA.len]
  · exact RdBy.src (int_len L) (hA.below (below_alloc _))
  · unfold maxLen; omega
  · omega
  · simp
  · intro A2 c2 w2 HO2 hg HX
    go_wp2
    go_ret
    refine ⟨A2, c2, by simp, by have := HO2.out; rw [flat_ints] at this; simpa using this, (below_alloc _).grown hg (by simp) (by intro k hk; simp [Value.ownBlock] at hk; omega)⟩

/-! A state whose rows are the call's own. -/
section
variable {w w' w0 : World} {base base' : Nat} {rs : List Rw}
theorem Hx.add {t : TypeId} {A : Option Addr} {n c : Nat} {xs : List Value} (h : Hx w0 w base rs) (hb : Below w.heap.size w w') (ho : w'.ownsRow w.heap.size t 1 (.slice A n c) n xs) : Hx w0 w' base (rs ++ [⟨t, A, n, c, xs⟩]) := by
  have h2 := h.on hb
  have hlt : ∀ (k : Nat) (r : Rw), rs[k]? = some r → ∀ g, r.v.ownBlock = some g → g < w.heap.size := fun k r hk g hg => ((h.held.own k r hk).lt g hg).2
  have hge : ∀ g, (Value.slice A n c).ownBlock = some g → w.heap.size ≤ g := fun g hg => (ho.lt g hg).1
  have key : ∀ (k : Nat) (r : Rw), (rs ++ [(⟨t, A, n, c, xs⟩ : Rw)])[k]? = some r → rs[k]? = some r ∨ (r = ⟨t, A, n, c, xs⟩ ∧ k = rs.length) := by
    intro k r hk
    by_cases hl : k < rs.length
    · rw [List.getElem?_append_left hl] at hk
      exact .inl hk
    · have h2 := (List.getElem?_eq_some_iff.1 hk).1
      simp at h2
      have e : k = rs.length := by omega
      subst e
      simp at hk
      exact .inr ⟨hk.symm, rfl⟩
  refine ⟨⟨fun k r hk => ?_, fun k l r s hkl hk hl g hg e => ?_⟩, h2.bas, h2.bel⟩
  · rcases key k r hk with hk | ⟨rfl, _⟩
    · exact h2.held.own k r hk
    · exact own_base ho h.bas
  · rcases key k r hk with hk | ⟨rfl, h1⟩
    · rcases key l s hl with hl | ⟨rfl, h3⟩
      · exact h.held.ne k l r s hkl hk hl g hg e
      · have := hlt k r hk g hg
        have := hge g e
        omega
    · rcases key l s hl with hl | ⟨rfl, h3⟩
      · have := hlt l s hl g e
        have := hge g hg
        omega
      · omega
/-- The same rows, told from further down. -/
theorem Hx.low (h : Hx w0 w base rs) (hb : base' ≤ base) {w1 : World} (hl : Below base' w1 w0) : Hx w1 w base' rs :=
  ⟨⟨fun i r hi => own_base (h.held.own i r hi) hb, h.held.ne⟩, Nat.le_trans hb h.bas, hl.trans (h.bel.mono hb)⟩
theorem grown_cell (W : World) (p : Addr) (u : Value) : W.grownBy (W.setCell p u) (some p.block) :=
  ⟨rfl, rfl, rfl, by simp, fun b _ hne => Below.heap_setCell W p u b fun e => hne (by rw [e])⟩
/-- A store below the rows. -/
theorem Held.under (h : Held w base rs) {p : Addr} (hp : p.block < base) (u : Value) : Held (w.setCell p u) base rs :=
  h.grown (row := some p.block) (grown_cell w p u) fun g e i r hi hg => by
    cases e
    have := ((h.own i r hi).lt _ hg).1
    omega
theorem Held.low (h : Held w base rs) (hb : base' ≤ base) : Held w base' rs := ⟨fun i r hi => own_base (h.own i r hi) hb, h.ne⟩
end
abbrev lvs (L : List Int) : List Value := L.map (Value.int .i64)
abbrev pstR (nX nE nH : Nat) (Q : PreS) (X E H : List Int) : List Rw := [⟨2, Q.AX, nX, Q.cX, lvs X⟩, ⟨2, Q.AE, nE, Q.cE, lvs E⟩, ⟨3, Q.AH, nH, Q.cH, lvs H⟩]
/-- The call returned this state, in rows of its own. -/
def RetPre (nX nE nH : Nat) (X E H : List Int) (w : World) (e : Ending) (w' : World) : Prop := ∃ Q, e = .returned (preW nX nE nH Q) ∧ Hx w w' w.heap.size (pstR nX nE nH Q X E H)
theorem Hx.st {w0 w : World} {base nX nE nH : Nat} {Q : PreS} {X E H : List Int} (h : Hx w0 w base (pstR nX nE nH Q X E H)) (hX : X.length = nX) (hE : E.length = nE) (hH : H.length = nH) : StIn w w.heap.size nX nE nH Q X E H :=
  ⟨h.held.ints (i := 0) rfl hX, h.held.ints (i := 1) rfl hE, h.held.ints (i := 2) rfl hH⟩

/-! Copy. -/
structure CopyS (w : World) (nX nE nH : Nat) (Q : PreS) (W : World) : Prop where
  bel : Below w.heap.size w W
  box : Blk W w.heap.size 29 #[.slice Q.AX nX Q.cX, .slice Q.AE nE Q.cE, .slice Q.AH nH Q.cH]
  res : ∃ x y z, Blk W (w.heap.size + 1) 29 #[x, y, z]
section
variable {w W W' : World} {nX nE nH : Nat} {Q : PreS}
theorem copyS_on (h : CopyS w nX nE nH Q W) (hb : Below W.heap.size W W') : CopyS w nX nE nH Q W' :=
  ⟨below_step h.bel hb, h.box.below hb h.box.lt, by obtain ⟨x, y, z, k⟩ := h.res; exact ⟨x, y, z, k.below hb k.lt⟩⟩
theorem copyS_put (h : CopyS w nX nE nH Q W) (x y z : Value) : CopyS w nX nE nH Q (((W.setCell ⟨w.heap.size + 1, 0, none⟩ x).setCell ⟨w.heap.size + 1, 1, none⟩ y).setCell ⟨w.heap.size + 1, 2, none⟩ z) :=
  ⟨((h.bel.setCell (by simp) _).setCell (by simp) _).setCell (by simp) _, ((h.box.far (by simp) _).far (by simp) _).far (by simp) _, by
    obtain ⟨a, b, c, k⟩ := h.res
    exact ⟨_, _, _, ((k.set 0 x).set 1 y).set 2 z⟩⟩
theorem CopyS.cells (h : CopyS w nX nE nH Q W) : W.cell? ⟨w.heap.size, 0, none⟩ = some (.slice Q.AX nX Q.cX) ∧ W.cell? ⟨w.heap.size, 1, none⟩ = some (.slice Q.AE nE Q.cE) ∧ W.cell? ⟨w.heap.size, 2, none⟩ = some (.slice Q.AH nH Q.cH) := by
  have p0 := h.box.cell 0; have p1 := h.box.cell 1; have p2 := h.box.cell 2
  simp only [List.getElem?_toArray, List.getElem?_cons_zero, List.getElem?_cons_succ] at p0 p1 p2
  exact ⟨p0, p1, p2⟩
end

set_option maxHeartbeats 4000000 in
theorem pcopy_is (nX nE nH : Nat) (Q : PreS) (X E H : List Int) (w : World) (hQ : StIn w w.heap.size nX nE nH Q X E H) (hX : nX ≤ 17592186044416) (hE : nE ≤ 17592186044416) (hH : nH ≤ 17592186044416) :
    Calls Try.prog 16 #[preW nX nE nH Q] w (RetPre nX nE nH X E H w) := by
  have hcx := fun W (hb : Below w.heap.size w W) => cloneL_is Q.AX nX Q.cX X W (hQ.on hb).iX hX
  have hce := fun W (hb : Below w.heap.size w W) => cloneL_is Q.AE nE Q.cE E W (hQ.on hb).iE hE
  have hch := fun W (hb : Below w.heap.size w W) => cloneI_is Q.AH nH Q.cH H W (hQ.on hb).iH hH
  have HCX := Lib.hid hcx; have HCE := Lib.hid hce; have HCH := Lib.hid hch
  clear hcx hce hch hQ
  obtain ⟨AX, cX, AE, cE, AHH, cHH⟩ := Q
  dsimp only [preW] at HCX HCE HCH ⊢
  go_enter Try.func16, Try.ntmps16
  go_wp2_with fail
  obtain ⟨w1, hw1⟩ : ∃ w1, ((w.alloc (.cells #[.slice AX nX cX, .slice AE nE cE, .slice AHH nH cHH] 29)).alloc (.cells #[.slice none 0 0, .slice none 0 0, .slice none 0 0] 29)) = w1 := ⟨_, rfl⟩
  have S1 : w1.heap.size = w.heap.size + 2 := by rw [← hw1]; simp
  have hS0' : CopyS w nX nE nH ⟨AX, cX, AE, cE, AHH, cHH⟩ w1 := by
    rw [← hw1]
    exact ⟨((Below.refl _ w).alloc (Nat.le_refl _) _).alloc (by simp) _, (Blk.new rfl).alloc _, _, _, _, Blk.new (by simp)⟩
  rw [hw1]
  clear hw1
  refine wp_region_held_drew (S := CopyS w nX nE nH ⟨AX, cX, AE, cE, AHH, cHH⟩) (by kernel_rfl) (copyS_on hS0' (Below.refl _ _).drew) (fun hS0 => ?_)
  refine tk (v := ?_) 0 3 rfl ?_ ?_
  rotate_left
  · (intro W hSw; obtain ⟨k0, k1, k2⟩ := hSw.cells; go_simp; try with_reducible rfl)
  simp only [Act.put, pa, pz, ps]
  refine tk (v := ?_) 1 4 rfl ?_ ?_
  rotate_left
  · (intro W hSw; obtain ⟨k0, k1, k2⟩ := hSw.cells; go_simp; try with_reducible rfl)
  simp only [Act.put, pa, pz, ps]
  refine tk (v := ?_) 3 6 rfl ?_ ?_
  rotate_left
  · (intro W hSw; obtain ⟨k0, k1, k2⟩ := hSw.cells; go_simp; try with_reducible rfl)
  simp only [Act.put, pa, pz, ps]
  refine tk (v := ?_) 4 7 rfl ?_ ?_
  rotate_left
  · (intro W hSw; obtain ⟨k0, k1, k2⟩ := hSw.cells; go_simp; try with_reducible rfl)
  simp only [Act.put, pa, pz, ps]
  refine tk (v := ?_) 6 9 rfl ?_ ?_
  rotate_left
  · (intro W hSw; obtain ⟨k0, k1, k2⟩ := hSw.cells; go_simp; try with_reducible rfl)
  simp only [Act.put, pa, pz, ps]
  refine tk (v := ?_) 7 10 rfl ?_ ?_
  rotate_left
  · (intro W hSw; obtain ⟨k0, k1, k2⟩ := hSw.cells; go_simp; try with_reducible rfl)
  simp only [Act.put, pa, pz, ps]
  refine wpAnyH_ready (rs := [2]) (by kernel_rfl) (by simp) ?_
  refine AllReadyH.cons rfl (fun K hK => ?_) AllReadyH.nil
  go_simp
  first
    | (go_at_call 44; ((with_reducible refine (HCX.out _ (by refine CopyS.bel (w := w) (nX := nX) (nE := nE) (nH := nH) (Q := ⟨AX, cX, AE, cE, AHH, cHH⟩) ?_; assumption)).mono ?_); rintro e W2 ⟨A2, c2, rfl, R2, B2⟩); refine hK.out _ _ (copyS_on (by assumption) B2) (fun hS3 => ?_))
    | (go_at_call 44; ((with_reducible refine (HCE.out _ (by refine CopyS.bel (w := w) (nX := nX) (nE := nE) (nH := nH) (Q := ⟨AX, cX, AE, cE, AHH, cHH⟩) ?_; assumption)).mono ?_); rintro e W2 ⟨A2, c2, rfl, R2, B2⟩); refine hK.out _ _ (copyS_on (by assumption) B2) (fun hS3 => ?_))
  clear hK K
  try simp only [Act.put, pa, pz, ps]
  refine wpAnyH_ready (rs := [5]) (by kernel_rfl) (by simp) ?_
  refine AllReadyH.cons rfl (fun K hK => ?_) AllReadyH.nil
  go_simp
  first
    | (go_at_call 44; ((with_reducible refine (HCX.out _ (by refine CopyS.bel (w := w) (nX := nX) (nE := nE) (nH := nH) (Q := ⟨AX, cX, AE, cE, AHH, cHH⟩) ?_; assumption)).mono ?_); rintro e W5 ⟨A5, c5, rfl, R5, B5⟩); refine hK.out _ _ (copyS_on (by assumption) B5) (fun hS6 => ?_))
    | (go_at_call 44; ((with_reducible refine (HCE.out _ (by refine CopyS.bel (w := w) (nX := nX) (nE := nE) (nH := nH) (Q := ⟨AX, cX, AE, cE, AHH, cHH⟩) ?_; assumption)).mono ?_); rintro e W5 ⟨A5, c5, rfl, R5, B5⟩); refine hK.out _ _ (copyS_on (by assumption) B5) (fun hS6 => ?_))
  clear hK K
  try simp only [Act.put, pa, pz, ps]
  refine wpAnyH_ready (rs := [8]) (by kernel_rfl) (by simp) ?_
  refine AllReadyH.cons rfl (fun K hK => ?_) AllReadyH.nil
  go_simp
  first
    | (go_at_call 54; ((with_reducible refine (HCH.out _ (by refine CopyS.bel (w := w) (nX := nX) (nE := nE) (nH := nH) (Q := ⟨AX, cX, AE, cE, AHH, cHH⟩) ?_; assumption)).mono ?_); rintro e W8 ⟨A8, c8, rfl, R8, B8⟩); refine hK.out _ _ (copyS_on (by assumption) B8) (fun hS9 => ?_))
  clear hK K
  try simp only [Act.put, pa, pz, ps]
  refine tk (v := ?_) 9 12 rfl ?_ ?_
  rotate_left
  · (intro W hSw; obtain ⟨k0, k1, k2⟩ := hSw.cells; go_simp; try with_reducible rfl)
  simp only [Act.put, pa, pz, ps]
  obtain ⟨x, y, z, hres⟩ := hS9.res
  have q0 := hres.cell 0; have q1 := hres.cell 1; have q2 := hres.cell 2
  simp only [List.getElem?_toArray, List.getElem?_cons_zero, List.getElem?_cons_succ] at q0 q1 q2
  have f0 := hres.frozen 0; have f1 := hres.frozen 1; have f2 := hres.frozen 2
  have hz1 := hres.lt
  refine wpAnyH_ready (rs := [10]) (by kernel_rfl) (by simp) ?_
  refine AllReadyH.cons rfl (fun K hK => ?_) AllReadyH.nil
  go_simp
  have K9 := ((hres.set 0 (.slice A2 nX c2)).set 1 (.slice A5 nE c5)).set 2 (.slice A8 nH c8)
  refine hK.out _ _ (copyS_put hS9 _ _ _) (fun hS11 => ?_)
  clear hK K
  try simp only [Act.put, pa, pz, ps]
  refine wpAnyH_done (by kernel_rfl) ?_ _
  have hz : w1.drew.heap.size = w.heap.size + 2 := S1
  have HX0 : Hx w1.drew w1.drew w1.drew.heap.size [] := Hx.start rfl
  have HX3 := ((HX0.add B2 R2).add B5 R5).add B8 R8
  have q0 := K9.cell 0; have q1 := K9.cell 1; have q2 := K9.cell 2
  simp only [List.setIfInBounds_toArray, List.set_cons_zero, List.set_cons_succ, List.getElem?_toArray, List.getElem?_cons_zero, List.getElem?_cons_succ] at q0 q1 q2
  have hz9 := K9.lt
  go_wp2_with fail
  refine bodyPost_ret (v := .agg #[.slice A2 nX c2, .slice A5 nE c5, .slice A8 nH c8]) (by simp [results, Try.results16, go_sem, q0, q1, q2]) rfl ⟨⟨A2, c2, A5, c5, A8, c8⟩, rfl, ?_⟩
  have HY := ((HX3.held.under (p := ⟨w.heap.size + 1, 0, none⟩) (by simp; omega) (.slice A2 nX c2)).under (p := ⟨w.heap.size + 1, 1, none⟩) (by simp; omega) (.slice A5 nE c5)).under (p := ⟨w.heap.size + 1, 2, none⟩) (by simp; omega) (.slice A8 nH c8)
  exact ⟨HY.low (by omega), hS11.bel.size, hS11.bel⟩

end Go.Proofs.Ytgjokddcaadjdaa
