/- Layer 7: May. -/
import Derived.Test.YtanifbofjecpmaaLifo
namespace Go.Proofs.Ytanifbofjecpmaa
open Go.RowKit Go.Shelf
set_option maxRecDepth 100000
attribute [local go_sem] Oper.semAt_some

/-- append of a row to a row; the source is one of the rows, or none. -/
theorem wp_appRowH {P : Program} {ops : Array Oper} {rest : List Oper} {o : Oper} {a : Act} {Q : Exit → Act → World → Prop} {w0 W : World} {base : Nat} {rs : List Rw}
    (C : Hx w0 W base rs) (hgd : o.guard = none) (s x : Operand) (t e : TypeId) (bytes : Nat)
    (ho : o.op = .call { callee := .builtin .append, args := #[s, x], argTypes := #[t, t] }) (E : OneWide P t e bytes)
    (k n c : Nat) (A : Option Addr) (xs : List Value) (hr : rs[k]? = some ⟨e, A, n, c, xs⟩) (hs : a.eval s = .slice A n c) (A2 : Option Addr) (m c2 : Nat) (ys : List Value) (hx : a.eval x = .slice A2 m c2)
    (hy : W.ownsRow base e 1 (.slice A2 m c2) m ys) (hyl : ys.length = m) (hy1 : ∀ u ∈ ys, u.oneCell' = true)
    (hn : n + m ≤ 1000000000) (h : ∀ A' c' w', Hid (Hx w0 w' base (rs.set k ⟨e, A', n + m, c', xs ++ ys⟩)) → Hid (∀ b t' cs, Blk W b t' cs → t' ≠ e → Blk w' b t' cs) → wpList P ops Q rest (a.put o.dst (.slice A' (n + m) c')) w') :
    wpList P ops Q (o :: rest) a W := by
  obtain ⟨i, z, hi, hz, h1, h2, h3⟩ := E.info
  have hown : W.ownsRow base e 1 (.slice A n c) n xs := C.held.own k _ hr
  refine wpList_append_row _ hgd s x t ho base e i z 1 bytes E.und hi hz h1 h2 h3 (by omega) A n c xs hs hown A2 m c2 ys hx (by rw [hyl]; omega) (fun hm => ?_) hy1 ?_ ?_ C.bas ?_
  · obtain ⟨g, rfl⟩ := own_some hy hm
    refine ⟨_, rfl, fun j u hu => ?_⟩
    rw [addr_add, Nat.zero_add]
    have hj := (List.getElem?_eq_some_iff.1 hu).1
    exact (hy.cellAt j (by omega)).trans hu
  · unfold maxLen; omega
  · have := E.small
    have h4 := Nat.mul_le_mul (show n + m ≤ 1000000000 by omega) this
    omega
  · intro A' c' w' ho' hg hxx
    refine h A' c' w' (Lib.hid ⟨Held.app (r := ⟨e, A, n, c, xs⟩) C.held hr ho'.out hg hxx.out, Nat.le_trans C.bas hg.size, below_grown C.bel hg hown (Nat.le_refl _) C.bas⟩) (Lib.hid fun b t' cs hb ht => hb.grownO hg hown (fun e => ht e.symm))

theorem Hx.last {w0 w : World} {base : Nat} {rs : List Rw} {r : Rw} (h : Hx w0 w base (rs ++ [r])) : Hx w0 w base rs :=
  ⟨⟨fun i s hs => h.held.own i s (by rw [List.getElem?_append_left (List.getElem?_eq_some_iff.1 hs).1]; exact hs), fun i j s s' hij hs hs' => h.held.ne i j s s' hij (by rw [List.getElem?_append_left (List.getElem?_eq_some_iff.1 hs).1]; exact hs) (by rw [List.getElem?_append_left (List.getElem?_eq_some_iff.1 hs').1]; exact hs')⟩, h.bas, h.bel⟩

/-! What may be done. -/
section
variable (fst hd rv : Nat → Nat) (X H : List Int)
def downs (u : Nat) : List Nat := rls fst u (admB hd rv X H) (fst (u + 1) - fst u)
def mayA (L : List Nat) : List Nat := L.flatMap (downs fst hd rv X H)
def mayV (L : List Nat) : List Nat := L.filter fun u => (downs fst hd rv X H u).isEmpty
end
section
variable {fst hd rv : Nat → Nat} {X H : List Int} {L : List Nat} {k u : Nat}
theorem mayA_snoc : mayA fst hd rv X H (L ++ [u]) = mayA fst hd rv X H L ++ downs fst hd rv X H u := by simp [mayA]
theorem mayV_yes (h : downs fst hd rv X H u = []) : mayV fst hd rv X H (L ++ [u]) = mayV fst hd rv X H L ++ [u] := by simp [mayV, List.filter_append, h]
theorem mayV_no (h : downs fst hd rv X H u ≠ []) : mayV fst hd rv X H (L ++ [u]) = mayV fst hd rv X H L := by
  have : (downs fst hd rv X H u).isEmpty = false := by
    cases hd' : downs fst hd rv X H u with
    | nil => exact absurd hd' h
    | cons a r => rfl
  simp [mayV, List.filter_append, this]
theorem mayV_len : (mayV fst hd rv X H L).length ≤ L.length := List.length_filter_le _ _
theorem mayA_sel {N M : Nat} (hG : Grid N M fst hd rv) {p : Nat → Bool} : ∀ v, v ≤ N → mayA fst hd rv X H (selTo p v) = selTo (fun a => p (hd (rv a)) && admB hd rv X H a) (fst v)
  | 0, _ => by rw [hG.f0]; rfl
  | v + 1, hv => by
    have hm := hG.mono v (by omega)
    have e := sel_rls (fst := fst) (v := v) (p := fun a => p (hd (rv a)) && admB hd rv X H a) (fst (v + 1) - fst v) (by omega)
    rw [show fst v + (fst (v + 1) - fst v) = fst (v + 1) by omega] at e
    rw [e, ← mayA_sel hG v (by omega)]
    have hc : ∀ q : Bool, p v = q → rls fst v (fun a => p (hd (rv a)) && admB hd rv X H a) (fst (v + 1) - fst v) = if q then downs fst hd rv X H v else [] := by
      intro q hq
      have e2 : ∀ a, fst v ≤ a → a < fst (v + 1) → (p (hd (rv a)) && admB hd rv X H a) = (q && admB hd rv X H a) := fun a h1 h2 => by rw [hG.tail v a (by omega) h1 h2, hq]
      unfold rls
      rw [rowIf_congr e2]
      cases q with
      | true => simp only [Bool.true_and, if_true]; rfl
      | false =>
        simp only [Bool.false_and, Bool.false_eq_true, if_false, List.map_eq_nil_iff]
        refine List.eq_nil_iff_forall_not_mem.2 fun a ha => ?_
        have := (rowIf_mem.1 ha).2
        cases this
    cases hp : p v with
    | true => rw [sel_yes hp, mayA_snoc, hc true hp]; rfl
    | false => rw [sel_no hp, hc false hp, if_neg (by simp), List.append_nil]
theorem mayA_take_len {N M : Nat} (hG : Grid N M fst hd rv) {p : Nat → Bool} (k : Nat) : (mayA fst hd rv X H ((selTo p N).take k)).length ≤ M := by
  have h1 : (mayA fst hd rv X H ((selTo p N).take k)).length ≤ (mayA fst hd rv X H (selTo p N)).length := by
    unfold mayA
    have e : (selTo p N).flatMap (downs fst hd rv X H) = ((selTo p N).take k).flatMap (downs fst hd rv X H) ++ ((selTo p N).drop k).flatMap (downs fst hd rv X H) := by
      rw [← List.flatMap_append, List.take_append_drop]
    rw [e, List.length_append]
    omega
  rw [mayA_sel hG N (Nat.le_refl _), hG.fN] at h1
  exact Nat.le_trans h1 (sel_len _ _)
end
abbrev mayR (A1 : Option Addr) (c1 : Nat) (A2 : Option Addr) (c2 : Nat) (a v : List Nat) : List Rw := [⟨3, A1, a.length, c1, nvs a⟩, ⟨3, A2, v.length, c2, nvs v⟩]
/-- The call returned these two lists, in rows of its own. -/
def RetMay (a v : List Nat) (w : World) (e : Ending) (w' : World) : Prop := ∃ A1 c1 A2 c2, e = .returned (.tuple #[.slice A1 a.length c1, .slice A2 v.length c2]) ∧ Hx w w' w.heap.size (mayR A1 c1 A2 c2 a v)

set_option maxHeartbeats 8000000 in
theorem may_is (N M s t : Nat) (K : CsrS) (Q : PreS) (fst hd rv ai : Nat → Nat) (cp : Nat → Int) (bk : Nat → Bool) (X E H : List Int) (w : World) (hG : PNet N M s t fst hd rv ai cp bk) (hI : PIn w w.heap.size N M K fst hd rv ai cp bk)
    (hQ : StIn w w.heap.size M N N Q X E H) (hS : StIs N M s t hd rv cp X E H) :
    Calls Try.prog 24 #[csrW N M s t K, preW M N N Q] w (RetMay (mayA fst hd rv X H (selTo (actB s t E) N)) (mayV fst hd rv X H (selTo (actB s t E) N)) w) := by
  have hM := hG.nM; have hN := hG.nN
  have hact := fun W (hb : Below w.heap.size w W) => active_is N M s t M N N K Q fst hd rv X E H W hG.g (hI.gi.on hb) (hQ.on hb) hG.hs hG.ht (by omega) hN
  have hadm := fun u (hu : u < N) W (hb : Below w.heap.size w W) => adm_is N M s t u N K Q fst hd rv X E H W hG.g (hI.gi.on hb) (hQ.on hb) hu (by omega) hN hS.bnd
  have hml := fun k => mayA_take_len (X := X) (H := H) hG.g (p := actB s t E) k
  have e0 : activeTo s t N M M N N E = selTo (actB s t E) N := if_pos ⟨rfl, rfl, rfl⟩
  simp only [e0] at hact
  clear e0
  have hlt : ∀ (k u : Nat), (selTo (actB s t E) N)[k]? = some u → u < N := fun k u h => (sel_mem.1 (List.mem_of_getElem? h)).1
  have hll := sel_len (actB s t E) N
  have hdl : ∀ u, u < N → (downs fst hd rv X H u).length ≤ M := fun u hu => Nat.le_trans (rls_len _) (by have := hG.g.fle (v := u + 1) (by omega); omega)
  obtain ⟨L, hL⟩ : ∃ L, selTo (actB s t E) N = L := ⟨_, rfl⟩
  rw [hL] at hact hml hlt hll ⊢
  have HA := Lib.hid hact; have HD := Lib.hid hadm; have HML := Lib.hid hml; have HLT := Lib.hid hlt; have HDL := Lib.hid hdl
  obtain ⟨R1, hR1⟩ : ∃ R, mayA fst hd rv X H L = R := ⟨_, rfl⟩
  obtain ⟨R2, hR2⟩ : ∃ R, mayV fst hd rv X H L = R := ⟨_, rfl⟩
  rw [hR1, hR2]
  have H1 := Lib.hid hR1; have H2 := Lib.hid hR2
  obtain ⟨AF, cF, AH, cH, AR, cR, AC, cC, AA, cA, AB, cB⟩ := K
  obtain ⟨AX, cX, AE, cE, AHH, cHH⟩ := Q
  dsimp only [csrW, preW] at HA HD ⊢
  clear hact hadm hI hQ hG hS hL hml hlt hdl hR1 hR2
  go_enter Try.func24, Try.ntmps24
  go_wp2_with fail
  obtain ⟨w1, hw1⟩ : ∃ w1, ((w.alloc (.cells #[.int .i64 (N : Int), .int .i64 (s : Int), .int .i64 (t : Int), .slice AF (N + 1) cF, .slice AH M cH, .slice AR M cR, .slice AC M cC, .slice AA M cA, .slice AB M cB] 32)).alloc (.cells #[.slice AX M cX, .slice AE N cE, .slice AHH N cHH] 29)) = w1 := ⟨_, rfl⟩
  have B1 : Below w.heap.size w w1 := by rw [← hw1]; exact ((Below.refl _ w).alloc (Nat.le_refl _) _).alloc (by simp) _
  have C1 : Blk w1 w.heap.size 32 #[.int .i64 (N : Int), .int .i64 (s : Int), .int .i64 (t : Int), .slice AF (N + 1) cF, .slice AH M cH, .slice AR M cR, .slice AC M cC, .slice AA M cA, .slice AB M cB] := by rw [← hw1]; exact (Blk.new rfl).alloc _
  have P1 : Blk w1 (w.heap.size + 1) 29 #[.slice AX M cX, .slice AE N cE, .slice AHH N cHH] := by rw [← hw1]; exact Blk.new (by simp)
  rw [hw1]
  clear hw1
  refine (HA.out _ B1).mono ?_
  rintro e w2 ⟨A0, c0, rfl, hrow, B2⟩
  have HC2 := Lib.hid (C1.below B2 C1.lt); have HP2 := Lib.hid (P1.below B2 P1.lt)
  have X2 : Hx w w2 w.heap.size ([] ++ [⟨3, none, 0, 0, []⟩] ++ [⟨3, none, 0, 0, []⟩] ++ [⟨3, A0, L.length, c0, nvs L⟩]) := ((⟨⟨fun i r hi => by simp at hi, fun i j r s _ hi => by simp at hi⟩, B1.size, B1⟩ : Hx w w1 w.heap.size []).nil 3 |>.nil 3).add B2 hrow
  have HX2 := Lib.hid X2
  clear C1 P1 B1 B2 hrow X2 HA
  go_wp2_with fail
  go_loopw [6, 7, 9, 10, 15] (fun q1 q2 _ _ i wr => ∃ (k : Nat) (A1 : Option Addr) (c1 : Nat) (A2 : Option Addr) (c2 : Nat), k ≤ L.length ∧ i = .int .i64 k ∧ q1 = .slice A1 (mayA fst hd rv X H (L.take k)).length c1 ∧ q2 = .slice A2 (mayV fst hd rv X H (L.take k)).length c2 ∧
    Hx w wr w.heap.size [⟨3, A1, (mayA fst hd rv X H (L.take k)).length, c1, nvs (mayA fst hd rv X H (L.take k))⟩, ⟨3, A2, (mayV fst hd rv X H (L.take k)).length, c2, nvs (mayV fst hd rv X H (L.take k))⟩, ⟨3, A0, L.length, c0, nvs L⟩] ∧
    Blk wr w.heap.size 32 #[.int .i64 (N : Int), .int .i64 (s : Int), .int .i64 (t : Int), .slice AF (N + 1) cF, .slice AH M cH, .slice AR M cR, .slice AC M cC, .slice AA M cA, .slice AB M cB] ∧ Blk wr (w.heap.size + 1) 29 #[.slice AX M cX, .slice AE N cE, .slice AHH N cHH])
    (fun _ _ _ _ i _ => L.length - (intOf i).toNat)
  case atStart => exact ⟨0, none, 0, none, 0, Nat.zero_le _, rfl, by simp [mayA], by simp [mayV], by simpa [mayA, mayV] using HX2.out, HC2.out, HP2.out⟩
  case round =>
    clear HX2 HC2 HP2
    obtain ⟨k, A1, c1, A2, c2, hk, rfl, rfl, rfl, X3, C3, P3⟩ := hrel
    by_cases hlt : k < L.length
    · obtain ⟨u, hu⟩ : ∃ u, L[k]? = some u := ⟨_, List.getElem?_eq_getElem hlt⟩
      have huN := HLT.out k u hu
      have hvu : (nvs L)[k]? = some (.int .i64 (u : Int)) := by simp only [nvs, List.getElem?_map, hu, Option.map_some]
      obtain ⟨g0, hg0⟩ := own_some (n := L.length) (A := A0) (X3.held.own 2 _ rfl) (by omega)
      subst hg0
      obtain ⟨hcu, -, hz0, -⟩ := X3.cell (i := 2) (j := k) rfl hlt hvu
      have htk : L.take (k + 1) = L.take k ++ [u] := by rw [List.take_add_one, hu]; rfl
      have hla := HML.out k
      have hlv : (mayV fst hd rv X H (L.take k)).length ≤ k := by
        have := mayV_len (fst := fst) (hd := hd) (rv := rv) (X := X) (H := H) (L := L.take k)
        simp only [List.length_take] at this
        omega
      have hdl := HDL.out u huN
      have hcall := HD.out u huN _ X3.bel
      have ha1 := mayA_snoc (fst := fst) (hd := hd) (rv := rv) (X := X) (H := H) (L := L.take k) (u := u)
      have hv1 := fun h => mayV_yes (fst := fst) (hd := hd) (rv := rv) (X := X) (H := H) (L := L.take k) (u := u) h
      have hv2 := fun h => mayV_no (fst := fst) (hd := hd) (rv := rv) (X := X) (H := H) (L := L.take k) (u := u) h
      rw [← htk] at ha1 hv1 hv2
      obtain ⟨D, hD⟩ : ∃ D, downs fst hd rv X H u = D := ⟨_, rfl⟩
      change Calls _ _ _ _ (RetSel (downs fst hd rv X H u) _) at hcall
      rw [hD] at hdl hcall ha1 hv1 hv2
      obtain ⟨a, ha⟩ : ∃ a, mayA fst hd rv X H (L.take k) = a := ⟨_, rfl⟩
      obtain ⟨v, hv⟩ : ∃ v, mayV fst hd rv X H (L.take k) = v := ⟨_, rfl⟩
      obtain ⟨a', ha'⟩ : ∃ a', mayA fst hd rv X H (L.take (k + 1)) = a' := ⟨_, rfl⟩
      obtain ⟨v', hv'⟩ : ∃ v', mayV fst hd rv X H (L.take (k + 1)) = v' := ⟨_, rfl⟩
      rw [ha, ha'] at ha1
      rw [hv, hv'] at hv1 hv2
      rw [ha] at hla X3 ⊢
      rw [hv] at hlv X3 ⊢
      have HCALL := Lib.hid hcall; have HA1 := Lib.hid ha1; have HV1 := Lib.hid hv1; have HV2 := Lib.hid hv2; have HAA := Lib.hid ha'; have HVV := Lib.hid hv'
      have HX3 := Lib.hid X3; have HC3 := Lib.hid C3; have HP3 := Lib.hid P3
      obtain ⟨b0, b1, b2, b3, b4, b5, b6, b7, b8⟩ := C3.at9
      obtain ⟨⟨p0, p1, p2⟩, -, hz2⟩ := P3.full3
      have hz1 := C3.lt
      clear hcall ha1 hv1 hv2 ha' hv' ha hv hD hvu htk hu X3 C3 P3
      go_wp2_with fail
      refine HCALL.out.mono ?_
      rintro e w4 ⟨AD, cD, rfl, hrow, B4⟩
      have X4 := Lib.hid (HX3.out.add B4 hrow)
      have HC4 := Lib.hid (HC3.out.below B4 HC3.out.lt); have HP4 := Lib.hid (HP3.out.below B4 HP3.out.lt)
      clear hrow B4 b0 b1 b2 b3 b4 b5 b6 b7 b8 p0 p1 p2 hz1 hz2 hcu HX3 HC3 HP3 HCALL
      go_wp2_with (at_builtin; refine wp_appRowH X4.out rfl _ _ _ _ _ rfl one_int.wide 0 a.length c1 A1 _ rfl rfl AD D.length cD (nvs D) rfl (X4.out.held.own 3 _ rfl) (by simp) (fun u hu => by obtain ⟨x, _, rfl⟩ := List.mem_map.1 hu; rfl) (by omega) ?_)
      intro A5 c5 w5 HX5 HB5
      have hx6 : Hx w w5 w.heap.size [⟨3, A5, a'.length, c5, nvs a'⟩, ⟨3, A2, v.length, c2, nvs v⟩, ⟨3, some ⟨g0, 0, none⟩, L.length, c0, nvs L⟩] := by
        have h := Hx.last (rs := [⟨3, A5, a.length + D.length, c5, nvs a ++ nvs D⟩, ⟨3, A2, v.length, c2, nvs v⟩, ⟨3, some ⟨g0, 0, none⟩, L.length, c0, nvs L⟩]) HX5.out
        rw [HA1.out, List.length_append]
        unfold nvs at h ⊢
        rw [List.map_append]
        exact h
      have hal : a.length + D.length = a'.length := by rw [HA1.out, List.length_append]
      have HX6 := Lib.hid hx6
      have HC5 := Lib.hid (HB5.out _ _ _ HC4.out (show (32 : TypeId) ≠ 3 by decide)); have HP5 := Lib.hid (HB5.out _ _ _ HP4.out (show (29 : TypeId) ≠ 3 by decide))
      have HAL := Lib.hid hal
      rw [hal]
      clear HX5 HB5 HC4 HP4 X4 hx6 hal
      cases D with
      | nil =>
        have hv' := HV1.out rfl
        have HV := Lib.hid hv'
        simp only [List.length_nil]
        clear hv' HV1 HV2 HA1 HAL
        go_wp2_with (at_builtin; refine wp_appH HX6.out rfl _ _ _ _ _ rfl one_int.wide 1 v.length c2 A2 _ (.int .i64 (u : Int)) rfl rfl rfl rfl (by omega) (by simp) ?_)
        intro A7 c7 w7 HX7 HB7
        have hx8 : Hx w w7 w.heap.size [⟨3, A5, a'.length, c5, nvs a'⟩, ⟨3, A7, v'.length, c7, nvs v'⟩, ⟨3, some ⟨g0, 0, none⟩, L.length, c0, nvs L⟩] := by
          have h := HX7.out
          rw [HV.out, List.length_append]
          unfold nvs at h ⊢
          rw [List.map_append]
          exact h
        have hvl : v.length + 1 = v'.length := by rw [HV.out, List.length_append]; rfl
        have HX8 := Lib.hid hx8
        have HC7 := Lib.hid (HB7.out _ _ _ HC5.out (show (32 : TypeId) ≠ 3 by decide)); have HP7 := Lib.hid (HB7.out _ _ _ HP5.out (show (29 : TypeId) ≠ 3 by decide))
        rw [hvl]
        clear HX7 HB7 HX6 HC5 HP5 hx8 hvl HV
        go_wp2_with fail
        go_roundw
        case rel => exact ⟨k + 1, A5, c5, A7, c7, by omega, by go_num, by rw [HAA.out], by rw [HVV.out], by rw [HAA.out, HVV.out]; exact HX8.out, HC7.out, HP7.out⟩
        case measure => simp [intOf]; omega
      | cons b D =>
        have hv' := HV2.out (by simp)
        have HV := Lib.hid hv'
        have hlen : ((b :: D).length : Int) ≠ 0 := by simp only [List.length_cons]; omega
        obtain ⟨n, hn⟩ : ∃ n, (b :: D).length = n := ⟨_, rfl⟩
        rw [hn] at hlen ⊢
        have hlen2 : ((n : Int) == 0) = false := by simpa using hlen
        have hlen3 : ¬ n = 0 := by omega
        clear hv' HV1 HV2 HA1 HAL hn
        go_wp2_with fail
        go_roundw
        case rel => exact ⟨k + 1, A5, c5, A2, c2, by omega, by go_num, by rw [HAA.out], by rw [HVV.out, HV.out], by rw [HAA.out, HVV.out, HV.out]; exact HX6.out, HC5.out, HP5.out⟩
        case measure => simp [intOf]; omega
    · have hkl : k = L.length := by omega
      have htk : L.take k = L := by rw [hkl]; exact List.take_length
      rw [htk, H1.out, H2.out] at X3
      rw [htk, H1.out, H2.out]
      have HX3 := Lib.hid X3
      clear X3 htk hkl C3 P3
      go_wp2_with fail
      go_ret2
      refine ⟨A1, c1, A2, c2, rfl, ?_⟩
      exact Hx.last (rs := mayR A1 c1 A2 c2 R1 R2) HX3.out

end Go.Proofs.Ytanifbofjecpmaa
