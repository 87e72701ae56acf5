/- Layer 7: slices.Clone of whatever row, Copy. Layer 7: move. Layer 7: rows of a call's own: laid new, moved, returned. Layer 7: structs of three stored. -/
import Derived.Test.YtanifbofjecpmaaRigo
import Derived.Test.YtanifbofjecpmaaCsrm
/-! Copo -/
namespace Go.Proofs.Ytanifbofjecpmaa
open Go.RowKit
set_option maxRecDepth 100000

/-- The call returned these numbers in a row of its own. -/
def RetRow (ty : TypeId) (n : Nat) (L : List Int) (w : World) (e : Ending) (w' : World) : Prop :=
  ∃ (A : Option Addr) (c : Nat), e = .returned (.slice A n c) ∧ w'.ownsRow w.heap.size ty 1 (.slice A n c) n (L.map (Value.int .i64)) ∧ Below w.heap.size w w'
theorem flat_ints (L : List Int) : L.flatMap intCells = L.map (Value.int .i64) := by
  induction L with
  | nil => rfl
  | cons x r ih => rw [List.flatMap_cons, ih]; rfl

set_option maxHeartbeats 1000000 in
theorem cloneI_is (A : Option Addr) (n c : Nat) (L : List Int) (w : World) (hA : Ints w w.heap.size A n L) (hn : n ≤ 17592186044416) :
    Calls Try.prog 72 #[.slice A n c] w (RetRow 3 n L w) := by
  obtain ⟨i0, hi, hz0, hz1, hz2⟩ := info_parts int_info
  have HI := Lib.hid hi; have HZ0 := Lib.hid hz0; have HZ1 := Lib.hid hz1; have HZ2 := Lib.hid hz2
  clear hi hz0 hz1 hz2
  have q22 : ∀ (w : World) (a : Option Addr) (n c n' c' : Nat), (binOp .eql 27 (.slice a n c) (.slice none n' c')).run Try.prog w = .ok (.bool a.isNone) w := fun w a n c n' c' => Lib.run_eql_slice_nil w _ _ a n c n' c' Try.underlying27
  cases A with
  | none =>
    have h0 : n = 0 := by
      rcases Nat.eq_zero_or_pos n with h | h
      · exact h
      · obtain ⟨_, _, e, _⟩ := hA.2 h
        cases e
    have hL : L = [] := List.eq_nil_of_length_eq_zero (hA.1.trans h0)
    subst h0; subst hL
    go_enter Try.func72, Try.ntmps72
    go_wp2_with fail
    go_ret
    exact ⟨none, 0, rfl, World.ownsRow_nil _ _ _ _, Below.refl _ _⟩
  | some ad =>
  go_enter Try.func72, Try.ntmps72
  go_wp2_with (at_builtin; refine wpList_append_row _ rfl (.tmp 5) (.tmp 6) _ rfl w.heap.size 3 i0 _ 1 8 Try.underlying27 HI.out HZ0.out HZ1.out HZ2.out rfl (by omega) (some ⟨w.heap.size, 0, none⟩) 0 0 [] rfl (World.ownsRow_made w #[] 0 (Nat.le_refl _) (Nat.zero_le _) rfl) (some ad) n c (L.flatMap intCells) rfl ?_ ?_ int_one ?_ ?_ ?_ ?_)
  · rw [flat_len (int_len L), hA.len]
  · exact RdBy.src (int_len L) (hA.below (below_alloc _))
  · unfold maxLen; omega
  · omega
  · simp
  · intro A2 c2 w2 HO2 hg HX
    go_wp2
    go_ret
    refine ⟨A2, c2, by simp, by have := HO2.out; rw [flat_ints] at this; simpa using this, (below_alloc _).grown hg (by simp) (by intro k hk; simp [Value.ownBlock] at hk; omega)⟩

set_option maxHeartbeats 1000000 in
theorem cloneL_is (A : Option Addr) (n c : Nat) (L : List Int) (w : World) (hA : Ints w w.heap.size A n L) (hn : n ≤ 17592186044416) :
    Calls Try.prog 46 #[.slice A n c] w (RetRow 2 n L w) := by
  obtain ⟨i0, hi, hz0, hz1, hz2⟩ := info_parts long_info
  have HI := Lib.hid hi; have HZ0 := Lib.hid hz0; have HZ1 := Lib.hid hz1; have HZ2 := Lib.hid hz2
  clear hi hz0 hz1 hz2
  have q22 : ∀ (w : World) (a : Option Addr) (n c n' c' : Nat), (binOp .eql 26 (.slice a n c) (.slice none n' c')).run Try.prog w = .ok (.bool a.isNone) w := fun w a n c n' c' => Lib.run_eql_slice_nil w _ _ a n c n' c' Try.underlying26
  cases A with
  | none =>
    have h0 : n = 0 := by
      rcases Nat.eq_zero_or_pos n with h | h
      · exact h
      · obtain ⟨_, _, e, _⟩ := hA.2 h
        cases e
    have hL : L = [] := List.eq_nil_of_length_eq_zero (hA.1.trans h0)
    subst h0; subst hL
    go_enter Try.func46, Try.ntmps46
    go_wp2_with fail
    go_ret
    exact ⟨none, 0, rfl, World.ownsRow_nil _ _ _ _, Below.refl _ _⟩
  | some ad =>
  go_enter Try.func46, Try.ntmps46
  go_wp2_with (at_builtin; refine wpList_append_row _ rfl (.tmp 5) (.tmp 6) _ rfl w.heap.size 2 i0 _ 1 8 Try.underlying26 HI.out HZ0.out HZ1.out HZ2.out rfl (by omega) (some ⟨w.heap.size, 0, none⟩) 0 0 [] rfl (World.ownsRow_made w #[] 0 (Nat.le_refl _) (Nat.zero_le _) rfl) (some ad) n c (L.flatMap intCells) rfl ?_ ?_ int_one ?_ ?_ ?_ ?_)
  · rw [flat_len (int_len L), hA.len]
  · exact RdBy.src (int_len L) (hA.below (below_alloc _))
  · unfold maxLen; omega
  · omega
  · simp
  · intro A2 c2 w2 HO2 hg HX
    go_wp2
    go_ret
    refine ⟨A2, c2, by simp, by have := HO2.out; rw [flat_ints] at this; simpa using this, (below_alloc _).grown hg (by simp) (by intro k hk; simp [Value.ownBlock] at hk; omega)⟩

/-! A state whose rows are the call's own. -/
section
variable {w w' w0 : World} {base base' : Nat} {rs : List Rw}
theorem Hx.add {t : TypeId} {A : Option Addr} {n c : Nat} {xs : List Value} (h : Hx w0 w base rs) (hb : Below w.heap.size w w') (ho : w'.ownsRow w.heap.size t 1 (.slice A n c) n xs) : Hx w0 w' base (rs ++ [⟨t, A, n, c, xs⟩]) := by
  have h2 := h.on hb
  have hlt : ∀ (k : Nat) (r : Rw), rs[k]? = some r → ∀ g, r.v.ownBlock = some g → g < w.heap.size := fun k r hk g hg => ((h.held.own k r hk).lt g hg).2
  have hge : ∀ g, (Value.slice A n c).ownBlock = some g → w.heap.size ≤ g := fun g hg => (ho.lt g hg).1
  have key : ∀ (k : Nat) (r : Rw), (rs ++ [(⟨t, A, n, c, xs⟩ : Rw)])[k]? = some r → rs[k]? = some r ∨ (r = ⟨t, A, n, c, xs⟩ ∧ k = rs.length) := by
    intro k r hk
    by_cases hl : k < rs.length
    · rw [List.getElem?_append_left hl] at hk
      exact .inl hk
    · have h2 := (List.getElem?_eq_some_iff.1 hk).1
      simp at h2
      have e : k = rs.length := by omega
      subst e
      simp at hk
      exact .inr ⟨hk.symm, rfl⟩
  refine ⟨⟨fun k r hk => ?_, fun k l r s hkl hk hl g hg e => ?_⟩, h2.bas, h2.bel⟩
  · rcases key k r hk with hk | ⟨rfl, _⟩
    · exact h2.held.own k r hk
    · exact own_base ho h.bas
  · rcases key k r hk with hk | ⟨rfl, h1⟩
    · rcases key l s hl with hl | ⟨rfl, h3⟩
      · exact h.held.ne k l r s hkl hk hl g hg e
      · have := hlt k r hk g hg
        have := hge g e
        omega
    · rcases key l s hl with hl | ⟨rfl, h3⟩
      · have := hlt l s hl g e
        have := hge g hg
        omega
      · omega
/-- The same rows, told from further down. -/
theorem Hx.low (h : Hx w0 w base rs) (hb : base' ≤ base) {w1 : World} (hl : Below base' w1 w0) : Hx w1 w base' rs :=
  ⟨⟨fun i r hi => own_base (h.held.own i r hi) hb, h.held.ne⟩, Nat.le_trans hb h.bas, hl.trans (h.bel.mono hb)⟩
theorem grown_cell (W : World) (p : Addr) (u : Value) : W.grownBy (W.setCell p u) (some p.block) :=
  ⟨rfl, rfl, rfl, by simp, fun b _ hne => Below.heap_setCell W p u b fun e => hne (by rw [e])⟩
/-- A store below the rows. -/
theorem Held.under (h : Held w base rs) {p : Addr} (hp : p.block < base) (u : Value) : Held (w.setCell p u) base rs :=
  h.grown (row := some p.block) (grown_cell w p u) fun g e i r hi hg => by
    cases e
    have := ((h.own i r hi).lt _ hg).1
    omega
theorem Held.low (h : Held w base rs) (hb : base' ≤ base) : Held w base' rs := ⟨fun i r hi => own_base (h.own i r hi) hb, h.ne⟩
end
abbrev lvs (L : List Int) : List Value := L.map (Value.int .i64)
abbrev pstR (nX nE nH : Nat) (Q : PreS) (X E H : List Int) : List Rw := [⟨2, Q.AX, nX, Q.cX, lvs X⟩, ⟨2, Q.AE, nE, Q.cE, lvs E⟩, ⟨3, Q.AH, nH, Q.cH, lvs H⟩]
/-- The call returned this state, in rows of its own. -/
def RetPre (nX nE nH : Nat) (X E H : List Int) (w : World) (e : Ending) (w' : World) : Prop := ∃ Q, e = .returned (preW nX nE nH Q) ∧ Hx w w' w.heap.size (pstR nX nE nH Q X E H)
theorem Hx.st {w0 w : World} {base nX nE nH : Nat} {Q : PreS} {X E H : List Int} (h : Hx w0 w base (pstR nX nE nH Q X E H)) (hX : X.length = nX) (hE : E.length = nE) (hH : H.length = nH) : StIn w w.heap.size nX nE nH Q X E H :=
  ⟨h.held.ints (i := 0) rfl hX, h.held.ints (i := 1) rfl hE, h.held.ints (i := 2) rfl hH⟩

/-! Copy. -/
structure CopyS (w : World) (nX nE nH : Nat) (Q : PreS) (W : World) : Prop where
  bel : Below w.heap.size w W
  box : Blk W w.heap.size 29 #[.slice Q.AX nX Q.cX, .slice Q.AE nE Q.cE, .slice Q.AH nH Q.cH]
  res : ∃ x y z, Blk W (w.heap.size + 1) 29 #[x, y, z]
section
variable {w W W' : World} {nX nE nH : Nat} {Q : PreS}
theorem copyS_on (h : CopyS w nX nE nH Q W) (hb : Below W.heap.size W W') : CopyS w nX nE nH Q W' :=
  ⟨below_step h.bel hb, h.box.below hb h.box.lt, by obtain ⟨x, y, z, k⟩ := h.res; exact ⟨x, y, z, k.below hb k.lt⟩⟩
theorem copyS_put (h : CopyS w nX nE nH Q W) (x y z : Value) : CopyS w nX nE nH Q (((W.setCell ⟨w.heap.size + 1, 0, none⟩ x).setCell ⟨w.heap.size + 1, 1, none⟩ y).setCell ⟨w.heap.size + 1, 2, none⟩ z) :=
  ⟨((h.bel.setCell (by simp) _).setCell (by simp) _).setCell (by simp) _, ((h.box.far (by simp) _).far (by simp) _).far (by simp) _, by
    obtain ⟨a, b, c, k⟩ := h.res
    exact ⟨_, _, _, ((k.set 0 x).set 1 y).set 2 z⟩⟩
theorem CopyS.cells (h : CopyS w nX nE nH Q W) : W.cell? ⟨w.heap.size, 0, none⟩ = some (.slice Q.AX nX Q.cX) ∧ W.cell? ⟨w.heap.size, 1, none⟩ = some (.slice Q.AE nE Q.cE) ∧ W.cell? ⟨w.heap.size, 2, none⟩ = some (.slice Q.AH nH Q.cH) := by
  have p0 := h.box.cell 0; have p1 := h.box.cell 1; have p2 := h.box.cell 2
  simp only [List.getElem?_toArray, List.getElem?_cons_zero, List.getElem?_cons_succ] at p0 p1 p2
  exact ⟨p0, p1, p2⟩
end

set_option maxHeartbeats 4000000 in
theorem pcopy_is (nX nE nH : Nat) (Q : PreS) (X E H : List Int) (w : World) (hQ : StIn w w.heap.size nX nE nH Q X E H) (hX : nX ≤ 17592186044416) (hE : nE ≤ 17592186044416) (hH : nH ≤ 17592186044416) :
    Calls Try.prog 60 #[preW nX nE nH Q] w (RetPre nX nE nH X E H w) := by
  have hcx := fun W (hb : Below w.heap.size w W) => cloneL_is Q.AX nX Q.cX X W (hQ.on hb).iX hX
  have hce := fun W (hb : Below w.heap.size w W) => cloneL_is Q.AE nE Q.cE E W (hQ.on hb).iE hE
  have hch := fun W (hb : Below w.heap.size w W) => cloneI_is Q.AH nH Q.cH H W (hQ.on hb).iH hH
  have HCX := Lib.hid hcx; have HCE := Lib.hid hce; have HCH := Lib.hid hch
  clear hcx hce hch hQ
  obtain ⟨AX, cX, AE, cE, AHH, cHH⟩ := Q
  dsimp only [preW] at HCX HCE HCH ⊢
  go_enter Try.func60, Try.ntmps60
  go_wp2_with fail
  obtain ⟨w1, hw1⟩ : ∃ w1, ((w.alloc (.cells #[.slice AX nX cX, .slice AE nE cE, .slice AHH nH cHH] 29)).alloc (.cells #[.slice none 0 0, .slice none 0 0, .slice none 0 0] 29)) = w1 := ⟨_, rfl⟩
  have S1 : w1.heap.size = w.heap.size + 2 := by rw [← hw1]; simp
  have hS0' : CopyS w nX nE nH ⟨AX, cX, AE, cE, AHH, cHH⟩ w1 := by
    rw [← hw1]
    exact ⟨((Below.refl _ w).alloc (Nat.le_refl _) _).alloc (by simp) _, (Blk.new rfl).alloc _, _, _, _, Blk.new (by simp)⟩
  rw [hw1]
  clear hw1
  refine wp_region_held_drew (S := CopyS w nX nE nH ⟨AX, cX, AE, cE, AHH, cHH⟩) (by kernel_rfl) (copyS_on hS0' (Below.refl _ _).drew) (fun hS0 => ?_)
  refine tk (v := ?_) 0 3 rfl ?_ ?_
  rotate_left
  · (intro W hSw; obtain ⟨k0, k1, k2⟩ := hSw.cells; go_simp; try with_reducible rfl)
  simp only [Act.put, pa, pz, ps]
  refine tk (v := ?_) 1 4 rfl ?_ ?_
  rotate_left
  · (intro W hSw; obtain ⟨k0, k1, k2⟩ := hSw.cells; go_simp; try with_reducible rfl)
  simp only [Act.put, pa, pz, ps]
  refine tk (v := ?_) 3 6 rfl ?_ ?_
  rotate_left
  · (intro W hSw; obtain ⟨k0, k1, k2⟩ := hSw.cells; go_simp; try with_reducible rfl)
  simp only [Act.put, pa, pz, ps]
  refine tk (v := ?_) 4 7 rfl ?_ ?_
  rotate_left
  · (intro W hSw; obtain ⟨k0, k1, k2⟩ := hSw.cells; go_simp; try with_reducible rfl)
  simp only [Act.put, pa, pz, ps]
  refine tk (v := ?_) 6 9 rfl ?_ ?_
  rotate_left
  · (intro W hSw; obtain ⟨k0, k1, k2⟩ := hSw.cells; go_simp; try with_reducible rfl)
  simp only [Act.put, pa, pz, ps]
  refine tk (v := ?_) 7 10 rfl ?_ ?_
  rotate_left
  · (intro W hSw; obtain ⟨k0, k1, k2⟩ := hSw.cells; go_simp; try with_reducible rfl)
  simp only [Act.put, pa, pz, ps]
  refine wpAnyH_ready (rs := [2]) (by kernel_rfl) (by simp) ?_
  refine AllReadyH.cons rfl (fun K hK => ?_) AllReadyH.nil
  go_simp
  first
    | (go_at_call 46; ((with_reducible refine (HCX.out _ (by refine CopyS.bel (w := w) (nX := nX) (nE := nE) (nH := nH) (Q := ⟨AX, cX, AE, cE, AHH, cHH⟩) ?_; assumption)).mono ?_); rintro e W2 ⟨A2, c2, rfl, R2, B2⟩); refine hK.out _ _ (copyS_on (by assumption) B2) (fun hS3 => ?_))
    | (go_at_call 46; ((with_reducible refine (HCE.out _ (by refine CopyS.bel (w := w) (nX := nX) (nE := nE) (nH := nH) (Q := ⟨AX, cX, AE, cE, AHH, cHH⟩) ?_; assumption)).mono ?_); rintro e W2 ⟨A2, c2, rfl, R2, B2⟩); refine hK.out _ _ (copyS_on (by assumption) B2) (fun hS3 => ?_))
  clear hK K
  try simp only [Act.put, pa, pz, ps]
  refine wpAnyH_ready (rs := [5]) (by kernel_rfl) (by simp) ?_
  refine AllReadyH.cons rfl (fun K hK => ?_) AllReadyH.nil
  go_simp
  first
    | (go_at_call 46; ((with_reducible refine (HCX.out _ (by refine CopyS.bel (w := w) (nX := nX) (nE := nE) (nH := nH) (Q := ⟨AX, cX, AE, cE, AHH, cHH⟩) ?_; assumption)).mono ?_); rintro e W5 ⟨A5, c5, rfl, R5, B5⟩); refine hK.out _ _ (copyS_on (by assumption) B5) (fun hS6 => ?_))
    | (go_at_call 46; ((with_reducible refine (HCE.out _ (by refine CopyS.bel (w := w) (nX := nX) (nE := nE) (nH := nH) (Q := ⟨AX, cX, AE, cE, AHH, cHH⟩) ?_; assumption)).mono ?_); rintro e W5 ⟨A5, c5, rfl, R5, B5⟩); refine hK.out _ _ (copyS_on (by assumption) B5) (fun hS6 => ?_))
  clear hK K
  try simp only [Act.put, pa, pz, ps]
  refine wpAnyH_ready (rs := [8]) (by kernel_rfl) (by simp) ?_
  refine AllReadyH.cons rfl (fun K hK => ?_) AllReadyH.nil
  go_simp
  first
    | (go_at_call 72; ((with_reducible refine (HCH.out _ (by refine CopyS.bel (w := w) (nX := nX) (nE := nE) (nH := nH) (Q := ⟨AX, cX, AE, cE, AHH, cHH⟩) ?_; assumption)).mono ?_); rintro e W8 ⟨A8, c8, rfl, R8, B8⟩); refine hK.out _ _ (copyS_on (by assumption) B8) (fun hS9 => ?_))
  clear hK K
  try simp only [Act.put, pa, pz, ps]
  refine tk (v := ?_) 9 12 rfl ?_ ?_
  rotate_left
  · (intro W hSw; obtain ⟨k0, k1, k2⟩ := hSw.cells; go_simp; try with_reducible rfl)
  simp only [Act.put, pa, pz, ps]
  obtain ⟨x, y, z, hres⟩ := hS9.res
  have q0 := hres.cell 0; have q1 := hres.cell 1; have q2 := hres.cell 2
  simp only [List.getElem?_toArray, List.getElem?_cons_zero, List.getElem?_cons_succ] at q0 q1 q2
  have f0 := hres.frozen 0; have f1 := hres.frozen 1; have f2 := hres.frozen 2
  have hz1 := hres.lt
  refine wpAnyH_ready (rs := [10]) (by kernel_rfl) (by simp) ?_
  refine AllReadyH.cons rfl (fun K hK => ?_) AllReadyH.nil
  go_simp
  have K9 := ((hres.set 0 (.slice A2 nX c2)).set 1 (.slice A5 nE c5)).set 2 (.slice A8 nH c8)
  refine hK.out _ _ (copyS_put hS9 _ _ _) (fun hS11 => ?_)
  clear hK K
  try simp only [Act.put, pa, pz, ps]
  refine wpAnyH_done (by kernel_rfl) ?_ _
  have hz : w1.drew.heap.size = w.heap.size + 2 := S1
  have HX0 : Hx w1.drew w1.drew w1.drew.heap.size [] := Hx.start rfl
  have HX3 := ((HX0.add B2 R2).add B5 R5).add B8 R8
  have q0 := K9.cell 0; have q1 := K9.cell 1; have q2 := K9.cell 2
  simp only [List.setIfInBounds_toArray, List.set_cons_zero, List.set_cons_succ, List.getElem?_toArray, List.getElem?_cons_zero, List.getElem?_cons_succ] at q0 q1 q2
  have hz9 := K9.lt
  go_wp2_with fail
  refine bodyPost_ret (v := .agg #[.slice A2 nX c2, .slice A5 nE c5, .slice A8 nH c8]) (by simp [results, Try.results60, go_sem, q0, q1, q2]) rfl ⟨⟨A2, c2, A5, c5, A8, c8⟩, rfl, ?_⟩
  have HY := ((HX3.held.under (p := ⟨w.heap.size + 1, 0, none⟩) (by simp; omega) (.slice A2 nX c2)).under (p := ⟨w.heap.size + 1, 1, none⟩) (by simp; omega) (.slice A5 nE c5)).under (p := ⟨w.heap.size + 1, 2, none⟩) (by simp; omega) (.slice A8 nH c8)
  exact ⟨HY.low (by omega), hS11.bel.size, hS11.bel⟩

end Go.Proofs.Ytanifbofjecpmaa

/-! Movo -/
namespace Go.Proofs.Ytanifbofjecpmaa
open Go.RowKit Go.Shelf
set_option maxRecDepth 100000
attribute [local go_sem] Oper.semAt_some

theorem lvs_at {L : List Int} {i : Nat} (h : i < L.length) : (lvs L)[i]? = some (.int .i64 (hOf L i)) := by
  simp only [List.getElem?_map, hOf_get rfl h, Option.map_some]
theorem lvs_set (L : List Int) (i : Nat) (x : Int) : lvs (L.set i x) = (lvs L).set i (.int .i64 x) := by simp [List.map_set]
section
variable {w0 w : World} {base nX nE nH gX cX gE cE cH : Nat} {AH : Option Addr} {X E H : List Int}
theorem Hx.putX (h : Hx w0 w base (pstR nX nE nH ⟨some ⟨gX, 0, none⟩, cX, some ⟨gE, 0, none⟩, cE, AH, cH⟩ X E H)) (i : Nat) (x : Int) : Hx w0 (w.setCell ⟨gX, i, none⟩ (.int .i64 x)) base (pstR nX nE nH ⟨some ⟨gX, 0, none⟩, cX, some ⟨gE, 0, none⟩, cE, AH, cH⟩ (X.set i x) E H) := by
  have := h.put (i := 0) rfl i (.int .i64 x)
  unfold pstR
  rw [lvs_set]
  exact this
theorem Hx.putE (h : Hx w0 w base (pstR nX nE nH ⟨some ⟨gX, 0, none⟩, cX, some ⟨gE, 0, none⟩, cE, AH, cH⟩ X E H)) (i : Nat) (x : Int) : Hx w0 (w.setCell ⟨gE, i, none⟩ (.int .i64 x)) base (pstR nX nE nH ⟨some ⟨gX, 0, none⟩, cX, some ⟨gE, 0, none⟩, cE, AH, cH⟩ X (E.set i x) H) := by
  have := h.put (i := 1) rfl i (.int .i64 x)
  unfold pstR
  rw [lvs_set]
  exact this
end

set_option maxHeartbeats 8000000 in
theorem move_is (N M s t nH a gX cX gE cE cHH base : Nat) (AHH : Option Addr) (K : CsrS) (fst hd rv ai : Nat → Nat) (cp : Nat → Int) (bk : Nat → Bool) (X E H : List Int) (d : Int) (w0 w : World) (hG : PNet N M s t fst hd rv ai cp bk) (hI : PIn w base N M K fst hd rv ai cp bk)
    (hx : Hx w0 w base (pstR M N nH ⟨some ⟨gX, 0, none⟩, cX, some ⟨gE, 0, none⟩, cE, AHH, cHH⟩ X E H)) (hXl : X.length = M) (hEl : E.length = N) (ha : a < M)
    (h1 : InR (hOf X a - d)) (h2 : InR (hOf X (rv a) + d)) (h3 : InR (hOf E (hd (rv a)) - d)) (h4 : InR (hOf E (hd a) + d)) :
    Calls Try.prog 48 #[csrW N M s t K, preW M N nH ⟨some ⟨gX, 0, none⟩, cX, some ⟨gE, 0, none⟩, cE, AHH, cHH⟩, .int .i64 (a : Int), .int .i64 d] w fun e w' => (∃ v, e = .returned v) ∧
      Hx w0 w' base (pstR M N nH ⟨some ⟨gX, 0, none⟩, cX, some ⟨gE, 0, none⟩, cE, AHH, cHH⟩ (mvX rv X a d) (mvE hd rv E a d) H) ∧ KeepsOthers w w' ∧ Kps (fun k _ => k ≠ gX ∧ k ≠ gE) w w' := by
  have hM := hG.nM; have hN := hG.nN
  have hra := hG.g.rvl a ha
  have hne := hG.rne ha
  have hu := hG.mN ha
  have hv := hG.g.hdl a ha
  have huv := hG.nol a ha
  have hgg : gX ≠ gE := fun e => hx.held.ne 0 1 _ _ (by omega) rfl rfl gX rfl (by rw [e]; rfl)
  obtain ⟨hcx, hfx, hzx, hbx⟩ := hx.cell (i := 0) (j := a) rfl ha (lvs_at (by omega))
  obtain ⟨hcy, hfy, -, -⟩ := hx.cell (i := 0) (j := rv a) rfl hra (lvs_at (by omega))
  obtain ⟨hcu, hfu, hze, hbe⟩ := hx.cell (i := 1) (j := hd (rv a)) rfl hu (lvs_at (by omega))
  obtain ⟨hcv, hfv, -, -⟩ := hx.cell (i := 1) (j := hd a) rfl hv (lvs_at (by omega))
  have hbw := hx.bas
  have HXX := Lib.hid hx
  obtain ⟨bR, oR, hR⟩ := hI.gi.iR.adr (by omega)
  obtain ⟨bH, oH, hH⟩ := hI.gi.iH.adr (by omega)
  obtain ⟨hbR, cr⟩ := tab_cell (hR ▸ hI.gi.iR) ha
  obtain ⟨hbH, ch1⟩ := tab_cell (hH ▸ hI.gi.iH) hra
  obtain ⟨-, ch2⟩ := tab_cell (hH ▸ hI.gi.iH) ha
  obtain ⟨AF, cF, AH, cH, AR, cR, AC, cC, AA, cA, AB, cB⟩ := K
  dsimp only [csrW, preW] at hR hH ⊢
  subst hR; subst hH
  unfold mvX mvE
  unfold InR at h1 h2 h3 h4
  obtain ⟨q, hq⟩ : ∃ q, rv a = q := ⟨_, rfl⟩
  obtain ⟨u, hu'⟩ : ∃ u, hd (rv a) = u := ⟨_, rfl⟩
  obtain ⟨v, hv'⟩ : ∃ v, hd a = v := ⟨_, rfl⟩
  obtain ⟨x, hx'⟩ : ∃ x, hOf X a = x := ⟨_, rfl⟩
  obtain ⟨y, hy'⟩ : ∃ y, hOf X (rv a) = y := ⟨_, rfl⟩
  obtain ⟨eu, heu⟩ : ∃ y, hOf E (hd (rv a)) = y := ⟨_, rfl⟩
  obtain ⟨ev, hev⟩ : ∃ y, hOf E (hd a) = y := ⟨_, rfl⟩
  rw [hx'] at h1 hcx ⊢
  rw [hy'] at h2 hcy ⊢
  rw [heu] at h3 hcu ⊢
  rw [hev] at h4 hcv ⊢
  rw [hu'] at hcu hfu hu ch1 huv ⊢
  rw [hv'] at hcv hfv hv ch2 huv ⊢
  rw [hq] at hcy hfy hra cr ch1 hne ⊢
  have HEU := Lib.hid (show hOf E u = eu by rw [← hu']; exact heu); have HEV := Lib.hid (show hOf E v = ev by rw [← hv']; exact hev)
  clear hx' hy' heu hev hu' hv' hq hx hG hI
  have hw1 : IntKind.i64.wrap (x - d) = x - d := wrap_in h1.1 (by omega)
  have hw2 : IntKind.i64.wrap (y + d) = y + d := wrap_in h2.1 (by omega)
  have hw3 : IntKind.i64.wrap (eu - d) = eu - d := wrap_in h3.1 (by omega)
  have hw4 : IntKind.i64.wrap (ev + d) = ev + d := wrap_in h4.1 (by omega)
  clear h1 h2 h3 h4
  refine (callsIn_wide (n := 3)).1 ?_
  refine callsIn_of_wp Try.func48 rfl trivial ?_ rfl
  simp only [Try.ntmps48, List.size_toArray, List.length_cons, List.length_nil, Nat.reduceAdd, Nat.reduceSub, Array.replicate_succ, Array.replicate_zero, List.push_toArray, List.append_toArray, List.nil_append, List.cons_append]
  have n1 : gX ≠ w.heap.size := by omega
  have n2 : gX ≠ w.heap.size + 1 := by omega
  have n3 : gE ≠ w.heap.size := by omega
  have n4 : gE ≠ w.heap.size + 1 := by omega
  have n5 : gX ≠ bR := by omega
  have n6 : gX ≠ bH := by omega
  have n7 : gE ≠ bR := by omega
  have n8 : gE ≠ bH := by omega
  have zR : bR < w.heap.size := by omega
  have zH : bH < w.heap.size := by omega
  gi_wp2
  obtain ⟨w1, hw1'⟩ : ∃ w1, ((((w.setCell ⟨gX, a, none⟩ (.int .i64 (x - d))).setCell ⟨gX, q, none⟩ (.int .i64 (y + d))).alloc (.cells #[.int .i64 (N : Int), .int .i64 (s : Int), .int .i64 (t : Int), .slice AF (N + 1) cF, .slice (some ⟨bH, oH, none⟩) M cH, .slice (some ⟨bR, oR, none⟩) M cR, .slice AC M cC, .slice AA M cA, .slice AB M cB] 32)).alloc (.cells #[.slice (some ⟨gX, 0, none⟩) M cX, .slice (some ⟨gE, 0, none⟩) N cE, .slice AHH nH cHH] 29)) = w1 := ⟨_, rfl⟩
  have HX1 := (((HXX.out.putX a (x - d)).putX q (y + d)).alloc (.cells #[.int .i64 (N : Int), .int .i64 (s : Int), .int .i64 (t : Int), .slice AF (N + 1) cF, .slice (some ⟨bH, oH, none⟩) M cH, .slice (some ⟨bR, oR, none⟩) M cR, .slice AC M cC, .slice AA M cA, .slice AB M cB] 32)).alloc (.cells #[.slice (some ⟨gX, 0, none⟩) M cX, .slice (some ⟨gE, 0, none⟩) N cE, .slice AHH nH cHH] 29)
  have O1 : KeepsOthers w w1 := by rw [← hw1']; exact (((KeepsOthers.setCell _ _ _).trans (KeepsOthers.setCell _ _ _)).trans (KeepsOthers.alloc _ _)).trans (KeepsOthers.alloc _ _)
  have J1 : Kps (fun k _ => k ≠ gX ∧ k ≠ gE) w w1 := by rw [← hw1']; exact (((Kps.setCell fun _ _ h => h.1 rfl).trans (Kps.setCell fun _ _ h => h.1 rfl)).trans (Kps.all (below_alloc _))).trans (Kps.all (below_alloc _))
  have S1 : w1.heap.size = w.heap.size + 2 := by rw [← hw1']; simp
  have C1 : Blk w1 w.heap.size 32 #[.int .i64 (N : Int), .int .i64 (s : Int), .int .i64 (t : Int), .slice AF (N + 1) cF, .slice (some ⟨bH, oH, none⟩) M cH, .slice (some ⟨bR, oR, none⟩) M cR, .slice AC M cC, .slice AA M cA, .slice AB M cB] := by rw [← hw1']; exact (Blk.new (by simp)).alloc _
  have P1 : Blk w1 (w.heap.size + 1) 29 #[.slice (some ⟨gX, 0, none⟩) M cX, .slice (some ⟨gE, 0, none⟩) N cE, .slice AHH nH cHH] := by rw [← hw1']; exact Blk.new (by simp)
  rw [hw1'] at HX1 ⊢
  clear hw1'
  have ch1' := J1.cell (p := ⟨bH, oH + q, none⟩) (fun _ _ => ⟨fun e => n6 e.symm, fun e => n8 e.symm⟩) ch1
  have ch2' := J1.cell (p := ⟨bH, oH + a, none⟩) (fun _ _ => ⟨fun e => n6 e.symm, fun e => n8 e.symm⟩) ch2
  obtain ⟨hcu', hfu', hze', -⟩ := HX1.cell (i := 1) (j := u) rfl hu (lvs_at (by omega))
  obtain ⟨a0, a1, a2, a3, a4, a5, a6, a7, a8⟩ := C1.at9
  have p0 := P1.cell 0; have p1 := P1.cell 1; have p2 := P1.cell 2
  simp only [List.getElem?_toArray, List.getElem?_cons_zero, List.getElem?_cons_succ] at p0 p1 p2
  rw [HEU.out] at hcu'
  have hz1 := C1.lt; have hz2 := P1.lt
  clear hcx hcy hcu hcv hfx hfy hfu hfv ch1 ch2 cr
  have HX2 := Lib.hid HX1; have HC1 := Lib.hid C1; have HP1 := Lib.hid P1; have HO1 := Lib.hid O1; have HJ1 := Lib.hid J1
  clear HX1 C1 P1 O1 J1 HXX
  refine wpIn_region_split 12 rfl rfl (by kernel_rfl) (by kernel_rfl) (by kernel_rfl) ?_
  simp only [List.take_succ_cons, List.take_zero, List.drop_succ_cons, List.drop_zero]
  repeat (gi_big_quiet_step (fail))
  refine wpQuietIn_nil ?_
  rintro _ ⟨nq, rfl⟩
  gi_wp2
  obtain ⟨w2, hw2'⟩ : ∃ w2, (w1.drewN nq).setCell ⟨gE, u, none⟩ (.int .i64 (eu - d)) = w2 := ⟨_, rfl⟩
  have HX3 := (HX2.out.drew nq).putE u (eu - d)
  have C2 := (HC1.out.drewN nq).far (p := ⟨gE, u, none⟩) (by simpa using fun e => n3 e.symm) (.int .i64 (eu - d))
  have P2 := (HP1.out.drewN nq).far (p := ⟨gE, u, none⟩) (by simpa using fun e => n4 e.symm) (.int .i64 (eu - d))
  have O2 : KeepsOthers w1 w2 := by rw [← hw2']; exact (others_drew _ _).trans (KeepsOthers.setCell _ _ _)
  have J2 : Kps (fun k _ => k ≠ gX ∧ k ≠ gE) w1 w2 := by rw [← hw2']; exact (kps_drew _ _).trans (Kps.setCell fun _ _ h => h.2 rfl)
  rw [hw2'] at HX3 C2 P2 ⊢
  clear hw2'
  have ch2 := J2.cell (p := ⟨bH, oH + a, none⟩) (fun _ _ => ⟨fun e => n6 e.symm, fun e => n8 e.symm⟩) ch2'
  obtain ⟨hcv, hfv, hzv, -⟩ := HX3.cell (i := 1) (j := v) rfl hv (lvs_at (by simp; omega))
  rw [hOf_put (by omega), if_neg huv, HEV.out] at hcv
  clear a0 a1 a2 a3 a4 a5 a6 a7 a8 p0 p1 p2 hcu' hfu' ch1' ch2' hz1 hz2 hze'
  obtain ⟨a0, a1, a2, a3, a4, a5, a6, a7, a8⟩ := C2.at9
  have p0 := P2.cell 0; have p1 := P2.cell 1; have p2 := P2.cell 2
  simp only [List.getElem?_toArray, List.getElem?_cons_zero, List.getElem?_cons_succ] at p0 p1 p2
  have hz1 := C2.lt; have hz2 := P2.lt
  have HX4 := Lib.hid HX3; have HO2 := Lib.hid O2; have HJ2 := Lib.hid J2
  clear HX3 C2 P2 O2 J2 HX2 HC1 HP1
  refine wpIn_region_split 12 rfl rfl (by kernel_rfl) (by kernel_rfl) (by kernel_rfl) ?_
  simp only [List.take_succ_cons, List.take_zero, List.drop_succ_cons, List.drop_zero]
  repeat (gi_big_quiet_step (fail))
  refine wpQuietIn_nil ?_
  rintro _ ⟨n2, rfl⟩
  gi_wp2
  go_end0
  exact ⟨⟨_, rfl⟩, (HX4.out.drew n2).putE v (ev + d), (HO1.out.trans HO2.out).trans ((others_drew _ _).trans (KeepsOthers.setCell _ _ _)), (HJ1.out.trans HJ2.out).trans ((kps_drew _ _).trans (Kps.setCell fun _ _ h => h.2 rfl))⟩

end Go.Proofs.Ytanifbofjecpmaa

/-! Hxf -/
/-! Hxf -/
namespace Go.Proofs.Ytanifbofjecpmaa
open Go.RowKit Go.Shelf
set_option maxRecDepth 100000

section
variable {w w' w0 : World} {base : Nat} {rs : List Rw}
/-- A row laid new in the place of another one. -/
theorem Hx.fresh {t : TypeId} {A : Option Addr} {n c i : Nat} {xs : List Value} {r : Rw} (h : Hx w0 w base rs) (hr : rs[i]? = some r) (hb : Below w.heap.size w w') (ho : w'.ownsRow w.heap.size t 1 (.slice A n c) n xs) : Hx w0 w' base (rs.set i ⟨t, A, n, c, xs⟩) := by
  have h2 := h.on hb
  have hi := (List.getElem?_eq_some_iff.1 hr).1
  have hlt : ∀ (k : Nat) (r : Rw), rs[k]? = some r → ∀ g, r.v.ownBlock = some g → g < w.heap.size := fun k r hk g hg => ((h.held.own k r hk).lt g hg).2
  have hge : ∀ g, (Value.slice A n c).ownBlock = some g → w.heap.size ≤ g := fun g hg => (ho.lt g hg).1
  have key : ∀ (k : Nat) (r : Rw), (rs.set i (⟨t, A, n, c, xs⟩ : Rw))[k]? = some r → (k ≠ i ∧ rs[k]? = some r) ∨ (r = ⟨t, A, n, c, xs⟩ ∧ k = i) := by
    intro k r hk
    by_cases e : k = i
    · subst e
      rw [List.getElem?_set_self hi] at hk
      injection hk with hk
      exact .inr ⟨hk.symm, rfl⟩
    · rw [List.getElem?_set_ne (fun e' => e e'.symm)] at hk
      exact .inl ⟨e, hk⟩
  refine ⟨⟨fun k r hk => ?_, fun k l r s hkl hk hl g hg e => ?_⟩, h2.bas, h2.bel⟩
  · rcases key k r hk with ⟨_, hk⟩ | ⟨rfl, _⟩
    · exact h2.held.own k r hk
    · exact own_base ho h.bas
  · rcases key k r hk with ⟨_, hk⟩ | ⟨rfl, h1⟩
    · rcases key l s hl with ⟨_, hl⟩ | ⟨rfl, h3⟩
      · exact h.held.ne k l r s hkl hk hl g hg e
      · have := hlt k r hk g hg
        have := hge g e
        omega
    · rcases key l s hl with ⟨_, hl⟩ | ⟨rfl, h3⟩
      · have := hlt l s hl g e
        have := hge g hg
        omega
      · omega
theorem Hx.far (h : Hx w0 w base rs) {g : Nat} {t : TypeId} {cs : Array Value} (hk : Blk w g t cs) (ht : ∀ r ∈ rs, r.t ≠ t) (hb : base ≤ g) (i : Nat) (u : Value) : Hx w0 (w.setCell ⟨g, i, none⟩ u) base rs :=
  ⟨h.held.far hk ht i u, by simpa using h.bas, h.bel.setCell hb u⟩
theorem own_zeros (N : Nat) (t : TypeId) (W : World) (hN : N ≤ maxLen) : (W.alloc (.cells (ivs (List.replicate N 0)) t)).ownsRow W.heap.size t 1 (.slice (some ⟨W.heap.size, 0, none⟩) N N) N (lvs (List.replicate N 0)) := by
  exact own_of_block (World.alloc_heap_new W _) (Nat.le_refl _) hN (by simp)
end
/-- The first state's struct laid. -/
theorem beg_put {w0 w : World} {base gP AX cX AE cE AH cH : _} {M N : Nat} {X E H : List Int} {x y z : Value} (h : Hx w0 w base (pstR M N N ⟨AX, cX, AE, cE, AH, cH⟩ X E H)) (hb : base ≤ gP) (hp : Blk w gP 29 #[x, y, z]) :
    Hx w0 (((w.setCell ⟨gP, 0, none⟩ (.slice AX M cX)).setCell ⟨gP, 1, none⟩ (.slice AE N cE)).setCell ⟨gP, 2, none⟩ (.slice AH N cH)) base (pstR M N N ⟨AX, cX, AE, cE, AH, cH⟩ X E H) ∧
      Blk (((w.setCell ⟨gP, 0, none⟩ (.slice AX M cX)).setCell ⟨gP, 1, none⟩ (.slice AE N cE)).setCell ⟨gP, 2, none⟩ (.slice AH N cH)) gP 29 #[.slice AX M cX, .slice AE N cE, .slice AH N cH] := by
  have ht : ∀ r ∈ pstR M N N ⟨AX, cX, AE, cE, AH, cH⟩ X E H, r.t ≠ 29 := by
    intro r hr
    simp only [pstR, List.mem_cons, List.not_mem_nil, or_false] at hr
    rcases hr with rfl | rfl | rfl
    · exact (show (2 : TypeId) ≠ 29 by decide)
    · exact (show (2 : TypeId) ≠ 29 by decide)
    · exact (show (3 : TypeId) ≠ 29 by decide)
  exact ⟨((h.far hp ht hb 0 _).far (hp.set 0 _) ht hb 1 _).far ((hp.set 0 _).set 1 _) ht hb 2 _, ((hp.set 0 _).set 1 _).set 2 _⟩

/-- Rows below the loop's blocks. -/
def HxB (w0 : World) (base B : Nat) (rs : List Rw) (W : World) : Prop := Hx w0 W base rs ∧ (∀ r ∈ rs, ∀ g, r.v.ownBlock = some g → g < B) ∧ base ≤ B
theorem hxB_own {β : Type} {w0 : World} {base B : Nat} (f : β → List Rw) : OwnFrom B (fun s W => HxB w0 base B (f s) W) := fun s W W' row hs hg hr => by
  obtain ⟨h, hlt, hb⟩ := hs
  refine ⟨⟨h.held.grown hg fun g e i r hi e' => ?_, Nat.le_trans h.bas hg.size, h.bel.grown hg h.bas fun k e => ?_⟩, hlt, hb⟩
  · have := hlt r (List.mem_of_getElem? hi) g e'
    have := (hr g e).1
    omega
  · have := (hr k e).1
    omega
theorem hx_lt {w0 w : World} {base : Nat} {rs : List Rw} (h : Hx w0 w base rs) : ∀ r ∈ rs, ∀ g, r.v.ownBlock = some g → base ≤ g ∧ g < w.heap.size := fun r hr g hg => by
  obtain ⟨i, hi⟩ := List.getElem?_of_mem hr
  exact (h.held.own i r hi).lt g hg
theorem own_some {w : World} {base n c : Nat} {A : Option Addr} {t : TypeId} {xs : List Value} (h : w.ownsRow base t 1 (.slice A n c) n xs) (hn : 0 < n) : ∃ g, A = some ⟨g, 0, none⟩ := by
  rcases h.2 with ⟨h0, _⟩ | ⟨g', cap, cur, hv, _⟩
  · injection h0 with _ h1
    omega
  · injection hv with hA
    exact ⟨g', hA⟩

/-- What a move does stays within the numbers. -/
theorem move_fit {N M s t : Nat} {fst hd rv ai : Nat → Nat} {cp : Nat → Int} {bk : Nat → Bool} {X E : List Int} (hG : PNet N M s t fst hd rv ai cp bk) (hb : Bal M rv cp X) (hE : E.length = N) (hx : ∀ v, v < N → hOf E v = exT M hd rv cp X v)
    {a : Nat} (ha : a < M) {d : Int} (h0 : 0 ≤ d) (h1 : d ≤ hOf X a) : InR (hOf X a - d) ∧ InR (hOf X (rv a) + d) ∧ InR (hOf E (hd (rv a)) - d) ∧ InR (hOf E (hd a) + d) := by
  have hr := hG.g.rvl a ha
  have b1 := hb.le hG ha
  have hb' := bal_mv hb hG ha h0 h1
  have b2 := hb'.le hG hr
  have e2 := mvX_at hG hb.1 ha d (rv a)
  rw [if_neg (hG.rne ha), if_pos rfl] at e2
  rw [e2] at b2
  have hx' := exc_mv hb.1 hE hG hx ha d
  have b3 := hG.big _ hb' _ (hG.mN ha)
  have b4 := hG.big _ hb' _ (hG.g.hdl a ha)
  rw [← hx' _ (hG.mN ha), mvE_at hG hE ha, if_neg (hG.nol a ha), if_pos rfl] at b3
  rw [← hx' _ (hG.g.hdl a ha), mvE_at hG hE ha, if_pos rfl, if_neg (fun e => hG.nol a ha e.symm)] at b4
  unfold maxSum at *
  unfold InR
  omega
/-- A block of another type lies elsewhere. -/
theorem own_apart {w : World} {base n c g gP : Nat} {t tp : TypeId} {xs : List Value} {cs : Array Value} (h : w.ownsRow base t 1 (.slice (some ⟨g, 0, none⟩) n c) n xs) (hp : Blk w gP tp cs) (ht : t ≠ tp) : gP ≠ g := fun e => by
  obtain ⟨cur, hk⟩ := own_blk h
  subst e
  have h2 := hk.symm.trans hp
  injection h2 with h2
  injection h2 with _ h3
  exact ht h3
/-- The call returned this state, a number and an error. -/
def RetPush (d c : Int) (X E H : List Int) (w : World) (e : Ending) (w' : World) : Prop := ∃ Q, e = .returned (.tuple #[preW X.length E.length H.length Q, .int .i64 d, .int .i64 c]) ∧ Hx w w' w.heap.size (pstR X.length E.length H.length Q X E H)
/-- The call returned this state and an error. -/
def RetLift (c : Int) (X E H : List Int) (w : World) (e : Ending) (w' : World) : Prop := ∃ Q, e = .returned (.tuple #[preW X.length E.length H.length Q, .int .i64 c]) ∧ Hx w w' w.heap.size (pstR X.length E.length H.length Q X E H)
theorem nil_st {w w' : World} {base : Nat} (h : Below base w w') (hb : base ≤ w'.heap.size) : Hx w w' base (pstR 0 0 0 ⟨none, 0, none, 0, none, 0⟩ [] [] []) := by
  have h0 : Hx w w' base [] := ⟨⟨fun i r hi => by simp at hi, fun i j r s _ hi => by simp at hi⟩, hb, h⟩
  exact ((h0.nil 2).nil 2).nil 3

end Go.Proofs.Ytanifbofjecpmaa

/-! Hxg -/
namespace Go.Proofs.Ytanifbofjecpmaa
open Go.RowKit Go.Shelf
set_option maxRecDepth 100000

theorem Blk.full3 {w : World} {g : Nat} {t : TypeId} {x y z : Value} (h : Blk w g t #[x, y, z]) : (w.cell? ⟨g, 0, none⟩ = some x ∧ w.cell? ⟨g, 1, none⟩ = some y ∧ w.cell? ⟨g, 2, none⟩ = some z) ∧ (w.frozen? ⟨g, 0, none⟩ = false ∧ w.frozen? ⟨g, 1, none⟩ = false ∧ w.frozen? ⟨g, 2, none⟩ = false) ∧ g < w.heap.size := by
  have p0 := h.cell 0; have p1 := h.cell 1; have p2 := h.cell 2
  simp only [List.getElem?_toArray, List.getElem?_cons_zero, List.getElem?_cons_succ] at p0 p1 p2
  exact ⟨⟨p0, p1, p2⟩, ⟨h.frozen 0, h.frozen 1, h.frozen 2⟩, h.lt⟩
/-- A struct of three stored. -/
abbrev put3 (w : World) (g : Nat) (x y z : Value) : World := ((w.setCell ⟨g, 0, none⟩ x).setCell ⟨g, 1, none⟩ y).setCell ⟨g, 2, none⟩ z
theorem Blk.put3 {w : World} {g : Nat} {t : TypeId} {a b c x y z : Value} (h : Blk w g t #[a, b, c]) : Blk (put3 w g x y z) g t #[x, y, z] := ((h.set 0 x).set 1 y).set 2 z
theorem Blk.far3 {w : World} {g k : Nat} {t : TypeId} {cs : Array Value} {x y z : Value} (h : Blk w k t cs) (hk : k ≠ g) : Blk (Proofs.Ytanifbofjecpmaa.put3 w g x y z) k t cs := ((h.far (p := ⟨g, 0, none⟩) hk _).far (p := ⟨g, 1, none⟩) hk _).far (p := ⟨g, 2, none⟩) hk _
theorem below_put3 {w w' : World} {B g : Nat} {x y z : Value} (h : Below B w w') (hg : B ≤ g) : Below B w (Proofs.Ytanifbofjecpmaa.put3 w' g x y z) := ((h.setCell (p := ⟨g, 0, none⟩) hg _).setCell (p := ⟨g, 1, none⟩) hg _).setCell (p := ⟨g, 2, none⟩) hg _
theorem Hx.put3 {w0 w : World} {base g : Nat} {rs : List Rw} {t : TypeId} {cs : Array Value} {x y z : Value} (h : Hx w0 w base rs) (hk : Blk w g t cs) (ht : ∀ r ∈ rs, r.t ≠ t) (hb : base ≤ g) : Hx w0 (Proofs.Ytanifbofjecpmaa.put3 w g x y z) base rs :=
  ((h.far hk ht hb 0 _).far (hk.set 0 _) ht hb 1 _).far ((hk.set 0 _).set 1 _) ht hb 2 _
theorem pst_ne {nX nE nH : Nat} {Q : PreS} {X E H : List Int} : ∀ r ∈ pstR nX nE nH Q X E H, r.t ≠ 29 := by
  intro r hr
  simp only [pstR, List.mem_cons, List.not_mem_nil, or_false] at hr
  rcases hr with rfl | rfl | rfl
  · exact (show (2 : TypeId) ≠ 29 by decide)
  · exact (show (2 : TypeId) ≠ 29 by decide)
  · exact (show (3 : TypeId) ≠ 29 by decide)

end Go.Proofs.Ytanifbofjecpmaa
