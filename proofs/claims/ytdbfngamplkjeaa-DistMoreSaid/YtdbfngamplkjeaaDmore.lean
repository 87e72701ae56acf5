/- DistMore: the walk. -/
import Derived.Test.YtdbfngamplkjeaaDsteps
namespace Go.Proofs.Ytdbfngamplkjeaa
open Go.RowKit
set_option maxRecDepth 100000

/-- What is left, more of it where the list says so; and more of it where there is some. -/
def moreL (X : List Int) (KO : List Bool) (M k : Nat) : List Int := tab M fun i => (X[i]?).getD 0 + (if i < k ∧ KO[i]? = some true then 1 else 0)
def twiceL (X : List Int) (M k : Nat) : List Int := tab M fun i => (X[i]?).getD 0 + (if i < k ∧ 0 < (X[i]?).getD 0 then ((i % 7 : Nat) : Int) else 0)
section
variable {X : List Int} {KO : List Bool} {M k : Nat} {x : Int}
theorem more_zero (h : X.length = M) : moreL X KO M 0 = X := by
  refine (tab_ext h fun i hi => ?_).symm
  obtain ⟨x, hx⟩ : ∃ x, X[i]? = some x := ⟨_, List.getElem?_eq_getElem (by omega)⟩
  simp [hx]
theorem twice_zero (h : X.length = M) : twiceL X M 0 = X := by
  refine (tab_ext h fun i hi => ?_).symm
  obtain ⟨x, hx⟩ : ∃ x, X[i]? = some x := ⟨_, List.getElem?_eq_getElem (by omega)⟩
  simp [hx]
theorem more_at (hk : k < M) (hx : X[k]? = some x) : (moreL X KO M k)[k]? = some x := by
  unfold moreL
  rw [tab_at hk, hx, if_neg (by omega)]
  simp
theorem twice_at (hk : k < M) (hx : X[k]? = some x) : (twiceL X M k)[k]? = some x := by
  unfold twiceL
  rw [tab_at hk, hx, if_neg (by omega)]
  simp
theorem more_put (hx : X[k]? = some x) (hK : KO[k]? = some true) : (moreL X KO M k).set k (x + 1) = moreL X KO M (k + 1) := by
  unfold moreL
  rw [tab_set]
  refine tab_congr fun i hi => ?_
  by_cases e : i = k
  · subst e
    rw [if_pos rfl, hx, if_pos ⟨by omega, hK⟩]; rfl
  · rw [if_neg e]
    by_cases h : i < k ∧ KO[i]? = some true
    · rw [if_pos h, if_pos ⟨by omega, h.2⟩]
    · rw [if_neg h, if_neg (fun h' => h ⟨by omega, h'.2⟩)]
theorem more_skip (hK : ¬ KO[k]? = some true) : moreL X KO M k = moreL X KO M (k + 1) := by
  unfold moreL
  refine tab_congr fun i hi => ?_
  by_cases h : i < k ∧ KO[i]? = some true
  · rw [if_pos h, if_pos ⟨by omega, h.2⟩]
  · rw [if_neg h, if_neg (fun h' => by
      by_cases e : i = k
      · subst e; exact hK h'.2
      · exact h ⟨by omega, h'.2⟩)]
theorem twice_put (hx : X[k]? = some x) (hK : 0 < x) : (twiceL X M k).set k (x + ((k % 7 : Nat) : Int)) = twiceL X M (k + 1) := by
  unfold twiceL
  rw [tab_set]
  refine tab_congr fun i hi => ?_
  by_cases e : i = k
  · subst e
    rw [if_pos rfl, hx, if_pos ⟨by omega, hK⟩]; rfl
  · rw [if_neg e]
    by_cases h : i < k ∧ 0 < (X[i]?).getD 0
    · rw [if_pos h, if_pos ⟨by omega, h.2⟩]
    · rw [if_neg h, if_neg (fun h' => h ⟨by omega, h'.2⟩)]
theorem twice_skip (hx : X[k]? = some x) (hK : ¬ 0 < x) : twiceL X M k = twiceL X M (k + 1) := by
  unfold twiceL
  refine tab_congr fun i hi => ?_
  by_cases h : i < k ∧ 0 < (X[i]?).getD 0
  · rw [if_pos h, if_pos ⟨by omega, h.2⟩]
  · rw [if_neg h, if_neg (fun h' => by
      by_cases e : i = k
      · subst e; rw [hx] at h'; exact hK h'.2
      · exact h ⟨by omega, h'.2⟩)]
theorem more_opn {a : Nat} (ha : a < M) (h : opn X a = true) : opn (moreL X KO M M) a = true := by
  unfold opn moreL at *
  rw [tab_at ha]
  simp only [Option.getD_some]
  simp only [decide_eq_true_eq] at h ⊢
  split <;> omega
theorem twice_opn {a : Nat} (ha : a < M) : opn X a = opn (twiceL X M M) a := by
  unfold opn twiceL
  rw [tab_at ha]
  simp only [Option.getD_some]
  rw [decide_eq_decide]
  generalize (X[a]?).getD 0 = x
  constructor
  · intro h; rw [if_pos ⟨ha, h⟩]; omega
  · intro h
    by_cases h' : a < M ∧ 0 < x
    · exact h'.2
    · rw [if_neg h'] at h; omega
end

section
variable {w w' : World} {base g i n c : Nat} {t : TypeId} {rs : List Rw} {xs : List Value} {e : TypeId} {A : Option Addr}
theorem Held.rcell {j : Nat} {u : Value} (h : Held w base rs) (hr : rs[i]? = some ⟨t, some ⟨g, 0, none⟩, n, c, xs⟩) (hj : j < n) (hu : xs[j]? = some u) : w.cell? ⟨g, j, none⟩ = some u ∧ w.frozen? ⟨g, j, none⟩ = false ∧ g < w.heap.size ∧ base ≤ g := by
  have hown : w.ownsRow base t 1 (.slice (some ⟨g, 0, none⟩) n c) n xs := h.own i _ hr
  exact ⟨(hown.cellAt j (by omega)).trans hu, hown.frozenAt j, (hown.lt g rfl).2, (hown.lt g rfl).1⟩
theorem Held.radr (h : Held w base rs) (hr : rs[i]? = some ⟨t, A, n, c, xs⟩) (hn : 0 < n) : ∃ g, A = some ⟨g, 0, none⟩ := by
  have hown : w.ownsRow base t 1 (.slice A n c) n xs := h.own i _ hr
  rcases hown.2 with ⟨h0, _⟩ | ⟨g, cap, cur, hv, _⟩
  · injection h0 with _ h0
    omega
  · injection hv with hA
    exact ⟨g, hA⟩
theorem Held.on (h : Held w base rs) (hb : Below w.heap.size w w') : Held w' base rs :=
  h.grown (row := none) ⟨hb.os, hb.tape, hb.output, hb.size, fun k hk _ => hb.block k hk⟩ (fun g e => by cases e)
theorem own_none8 (W : World) : (W.alloc (.cells #[] 2)).ownsRow W.heap.size 2 1 (.slice (some ⟨W.heap.size, 0, none⟩) 0 0) 0 [] := World.ownsRow_made W #[] 0 (Nat.le_refl _) (Nat.zero_le _) rfl
theorem own_none8_at {W : World} {g : Nat} (h : W.heap.size = g) : (W.alloc (.cells #[] 2)).ownsRow g 2 1 (.slice (some ⟨g, 0, none⟩) 0 0) 0 [] := by
  subst h
  exact own_none8 W
section
variable {w : World} {base g n c k : Nat} {t : TypeId} {L : List Int} {r : Rw}
theorem Held.putA (h : Held w base [⟨t, some ⟨g, 0, none⟩, n, c, L.map (Value.int .i64)⟩, r]) (k : Nat) (x : Int) : Held (w.setCell ⟨g, k, none⟩ (.int .i64 x)) base [⟨t, some ⟨g, 0, none⟩, n, c, (L.set k x).map (Value.int .i64)⟩, r] := by
  have := h.put (i := 0) rfl k (.int .i64 x)
  rw [List.map_set]
  exact this
theorem Held.putB (h : Held w base [r, ⟨t, some ⟨g, 0, none⟩, n, c, L.map (Value.int .i64)⟩]) (k : Nat) (x : Int) : Held (w.setCell ⟨g, k, none⟩ (.int .i64 x)) base [r, ⟨t, some ⟨g, 0, none⟩, n, c, (L.set k x).map (Value.int .i64)⟩] := by
  have := h.put (i := 1) rfl k (.int .i64 x)
  rw [List.map_set]
  exact this
end
/-- Two copies, each in a block of its own. -/
theorem copies_held {w5 w6 : World} {base M c5 c6 : Nat} {A5 A6 : Option Addr} {xs : List Value} (h5 : w5.ownsRow base 2 1 (.slice A5 M c5) M xs) (h6 : w6.ownsRow w5.heap.size 2 1 (.slice A6 M c6) M xs)
    (hg : (w5.alloc (.cells #[] 2)).grownBy w6 (some w5.heap.size)) (hb : base ≤ w5.heap.size) : Held w6 base [⟨2, A5, M, c5, xs⟩, ⟨2, A6, M, c6, xs⟩] := by
  have hlt : ∀ g, A5 = some ⟨g, 0, none⟩ → g < w5.heap.size := fun g e => by
    subst e
    exact (h5.lt g rfl).2
  refine Held.two (own_keptNe (h5.alloc _) hg fun g e => ?_) (own_less h6 hb) fun g h1 h2 => ?_
  · have := hlt g e
    omega
  · have h3 := (h5.lt g h1).2
    have h4 := (h6.lt g h2).1
    omega
end

set_option maxHeartbeats 16000000 in
theorem dmore_walk (N S T : Int) (A : Option Addr) (n c : Nat) (l : List ArcN) (AL : Option Addr) (nl cl : Nat) (L : List Int) (a : Nat) (AO : Option Addr) (no co : Nat) (KO : List Bool) (w : World) (hA : Arcs w w.heap.size A n l) (hf : FitsAll l) (hnc : n ≤ c) (hL : Ints w w.heap.size AL nl L) (hLR : ∀ x ∈ L, InR x) (ha : a ≤ 255) (hO : Bools w w.heap.size AO no KO) :
    Calls Try.prog 6 #[.agg #[.int .i64 N, .int .i64 S, .int .i64 T, .slice A n c], .slice AL nl cl, .int .u8 (a : Int), .slice AO no co] w fun e w' => e = .returned (.bool true) ∧ Below w.heap.size w w' := by
  have hso := fun W hW => some_any N S T A n c 16 40 l W hW hf hnc (by omega) (by omega) (by omega)
  obtain ⟨N1, hN1, hN2, hN3, hck, hln, hmem⟩ := some_net N S T 16 40 l (by omega) (by omega) (by omega)
  rw [hN1] at hso hck hln hmem
  generalize S % (N1 : Int) = S1 at *
  generalize someT (N1 : Int) S T = T1 at *
  generalize someL (N1 : Int) 40 l = l1 at *
  have HSO := Lib.hid hso; have HCK := Lib.hid hck; have HLR := Lib.hid hLR
  have HCAP := Lib.hid fun (x : ArcN) (hx : x ∈ l1) => (show 0 ≤ x.cap ∧ x.cap < 1125899906842624 by have := hmem x hx; omega)
  obtain ⟨t, ht⟩ : ∃ t, a % N1 = t := ⟨_, rfl⟩
  have htN : t < N1 := by rw [← ht]; exact Nat.mod_lt _ (by omega)
  have HT := Lib.hid ht; have HO := Lib.hid hO
  clear hso hck hN1 hmem hLR ht hO
  go_enter Try.func6, Try.ntmps6
  go_wp2_with fail
  refine (HSO.out _ (hA.onAlloc _)).mono ?_
  rintro e w1 ⟨A1, n1, c1, rfl, o1, hl1, B1⟩
  have a1 := arcs_own o1 hl1
  have Bw1 := below_step (below_alloc _) B1
  have L1 := (hL.below Bw1).more Bw1.size
  clear B1 o1 hA hL HSO
  go_wp2_with fail
  refine (left_grid N1 S1 T1 A1 n1 c1 l1 AL nl cl L _ a1 HCK.out L1 HLR.out HCAP.out (by omega) (by omega)).mono ?_
  rintro e w2 ⟨M, K, fst, hd, rv, AX, cX, X, rfl, hG, G2, X2, ⟨hM, hXb⟩, B2⟩
  have Bw2 := below_step Bw1 B2
  have HG := Lib.hid hG; have HXB := Lib.hid hXb
  have hXl : X.length = M := X2.len
  clear B2 Bw1 a1 L1 hG hXb HCK HLR HCAP hl1 hln
  dsimp only [csrW]
  have hwa : IntKind.i64.wrap (a : Int) = (a : Int) := by rw [IntKind.wrap_i64]; omega
  have hn0 : ¬ N1 = 0 := by omega
  have hn0' : ¬ (N1 : Int) = 0 := by omega
  have ht : (a : Int) % (N1 : Int) = (t : Int) := by rw [← HT.out, Int.natCast_emod]
  obtain ⟨i0, hi, hz0, hz1, hz2⟩ := info_parts long_info
  have HI := Lib.hid hi; have HZ0 := Lib.hid hz0; have HZ1 := Lib.hid hz1; have HZ2 := Lib.hid hz2
  clear hi hz0 hz1 hz2
  go_wp2_with (at_builtin; refine wpList_append_row _ rfl (.tmp 33) (.tmp 34) _ rfl (w2.heap.size + 1) 2 i0 _ 1 8 Try.underlying25 HI.out HZ0.out HZ1.out HZ2.out rfl (by omega) (some ⟨w2.heap.size + 1, 0, none⟩) 0 0 [] rfl (own_none8_at (W := w2.alloc (.cells #[.int .i64 (N1 : Int), .int .i64 S1, .int .i64 T1, .slice K.AF (N1 + 1) K.cF, .slice K.AH M K.cH, .slice K.AR M K.cR, .slice K.AC M K.cC, .slice K.AA M K.cA, .slice K.AB M K.cB] 29)) (by simp)) AX M cX (X.flatMap intCells) rfl ?_ ?_ int_one ?_ ?_ ?_ ?_)
  · rw [flat_len (int_len X), hXl]
  · exact RdBy.src (int_len X) ((X2.onAlloc _).onAlloc _)
  · unfold maxLen; omega
  · omega
  · simp
  intro A5 c5 w5 HO5 hg5 HX5
  try simp only [ht]
  clear ht hwa
  have C5 : Blk w5 w2.heap.size 29 #[.int .i64 (N1 : Int), .int .i64 S1, .int .i64 T1, .slice K.AF (N1 + 1) K.cF, .slice K.AH M K.cH, .slice K.AR M K.cR, .slice K.AC M K.cC, .slice K.AA M K.cA, .slice K.AB M K.cB] := Blk.grownO (w := (w2.alloc (.cells #[.int .i64 (N1 : Int), .int .i64 S1, .int .i64 T1, .slice K.AF (N1 + 1) K.cF, .slice K.AH M K.cH, .slice K.AR M K.cR, .slice K.AC M K.cC, .slice K.AA M K.cA, .slice K.AB M K.cB] 29)).alloc (.cells #[] 2)) ((Blk.new rfl).alloc _) hg5 (own_none8_at (W := w2.alloc (.cells #[.int .i64 (N1 : Int), .int .i64 S1, .int .i64 T1, .slice K.AF (N1 + 1) K.cF, .slice K.AH M K.cH, .slice K.AR M K.cR, .slice K.AC M K.cC, .slice K.AA M K.cA, .slice K.AB M K.cB] 29)) (by simp)) (by decide)
  have B5 : Below w2.heap.size w2 w5 := below_grown ((below_alloc (w := w2) (.cells #[.int .i64 (N1 : Int), .int .i64 S1, .int .i64 T1, .slice K.AF (N1 + 1) K.cF, .slice K.AH M K.cH, .slice K.AR M K.cR, .slice K.AC M K.cC, .slice K.AA M K.cA, .slice K.AB M K.cB] 29)).alloc (by simp) (.cells #[] 2)) hg5 (own_none8_at (W := w2.alloc (.cells #[.int .i64 (N1 : Int), .int .i64 S1, .int .i64 T1, .slice K.AF (N1 + 1) K.cF, .slice K.AH M K.cH, .slice K.AR M K.cR, .slice K.AC M K.cC, .slice K.AA M K.cA, .slice K.AB M K.cB] 29)) (by simp)) (Nat.le_succ _) (by simp; omega)
  have G5 := G2.below B5
  have X5 := X2.on B5
  have Xb5 := X2.below B5
  have Bw5 := below_step Bw2 B5
  have hz5 := B5.size
  have hz5' : w2.heap.size + 1 ≤ w5.heap.size := C5.lt
  have HZW := Lib.hid Bw2.size
  clear G2 X2 Bw2 hg5 HX5
  try rw [List.nil_append, Nat.zero_add] at HO5
  go_wp2_with (at_builtin; refine wpList_append_row _ rfl (.tmp 36) (.tmp 37) _ rfl w5.heap.size 2 i0 _ 1 8 Try.underlying25 HI.out HZ0.out HZ1.out HZ2.out rfl (by omega) (some ⟨w5.heap.size, 0, none⟩) 0 0 [] rfl (own_none8 w5) AX M cX (X.flatMap intCells) rfl ?_ ?_ int_one ?_ ?_ ?_ ?_)
  · rw [flat_len (int_len X), hXl]
  · exact RdBy.src (int_len X) (X5.onAlloc _)
  · unfold maxLen; omega
  · omega
  · simp
  intro A6 c6 w6 HO6 hg6 HX6
  try rw [List.nil_append, Nat.zero_add] at HO6
  have H6 := copies_held HO5.out HO6.out hg6 hz5'
  rw [← ivs_flat] at H6
  have B6 : Below w2.heap.size w5 w6 := below_grown ((below_alloc (w := w5) (.cells #[] 2)).mono (by omega)) hg6 (own_none8 w5) (by omega) (by simp; omega)
  have B6' : Below w5.heap.size w5 w6 := below_grown (below_alloc (w := w5) (.cells #[] 2)) hg6 (own_none8 w5) (Nat.le_refl _) (by simp)
  have HC6 := Lib.hid (C5.below B6' C5.lt); have HG6 := Lib.hid (G5.below (B6'.mono (show w2.heap.size ≤ w5.heap.size by omega))); have HX6 := Lib.hid (Xb5.below (B6'.mono (show w2.heap.size ≤ w5.heap.size by omega))); have HB6 := Lib.hid (below_step Bw5 B6'); have HH6 := Lib.hid H6
  have hz6 := HC6.out.lt
  have hzw : w.heap.size ≤ w2.heap.size := HZW.out
  have hz6' : w2.heap.size ≤ w6.heap.size := by omega
  clear C5 G5 X5 Xb5 Bw5 hz5 hz5' HO5 HO6 hg6 B5 B6 B6' H6
  go_wp2_with fail
  go_loopw [41] (fun i wr => ∃ k : Nat, k ≤ M ∧ i = .int .i64 k ∧ Below (w2.heap.size + 1) w6 wr ∧ Held wr (w2.heap.size + 1) [⟨2, A5, M, c5, (moreL X KO M k).map (Value.int .i64)⟩, ⟨2, A6, M, c6, (twiceL X M k).map (Value.int .i64)⟩]) (fun i _ => M - (intOf i).toNat)
  case atStart => exact ⟨0, Nat.zero_le _, rfl, Below.refl _ _, by rw [more_zero hXl, twice_zero hXl]; exact HH6.out⟩
  case round =>
    obtain ⟨k, hk, rfl, hBr, Hr⟩ := hrel
    obtain ⟨w7, hw7⟩ := world_name hBr
    subst hw7
    by_cases hlt : k < M
    · obtain ⟨x, hx⟩ : ∃ x, X[k]? = some x := ⟨_, List.getElem?_eq_getElem (by rw [hXl]; exact hlt)⟩
      have hxb := HXB.out x (List.mem_of_getElem? hx)
      have hO7 := (HO.out.below (HB6.out.trans (hBr.mono (by omega))) : Bools w7 w.heap.size AO no KO)
      have hw7 : w.heap.size ≤ w7.heap.size := (HB6.out.trans (hBr.mono (show w.heap.size ≤ w2.heap.size + 1 by omega))).size
      have HBr := Lib.hid hBr; have HHr := Lib.hid Hr; have HX1 := Lib.hid hx
      clear hBr Hr hx HH6
      obtain ⟨bb, hbb⟩ : ∃ bb : Bool, bb = true ↔ KO[k]? = some true := ⟨decide (KO[k]? = some true), by simp⟩
      have HBB := Lib.hid hbb
      clear hbb
      go_upto_region 7 with fail
      go_cut [53] (fun s wx => s = .bool bb ∧ Below w7.heap.size w7 wx)
      case first =>
        by_cases hkn : k < no
        · obtain ⟨bO, oO, b, hAO, hbO, hKb, cb⟩ := bool_at hO7 hkn
          subst hAO
          have hb : b = bb := by
            have := HBB.out
            rw [hKb] at this
            exact Bool.eq_iff_iff.2 (by rw [this]; simp)
          subst hb
          clear hKb hO7 HBB
          have hlo : oO + no ≤ oO + no := Nat.le_refl _
          go_wp2_with fail
          go_meet
          exact ⟨rfl, Below.refl _ _⟩
        · have hK : KO[k]? = none := List.getElem?_eq_none (by have := hO7.len; omega)
          have hb : bb = false := by
            have := HBB.out
            rw [hK] at this
            cases bb
            · rfl
            · exact absurd (this.1 rfl) (by simp)
          subst hb
          clear hO7 HBB hK
          go_wp2_with fail
          go_meet
          exact ⟨rfl, Below.refl _ _⟩
      case rest =>
        obtain ⟨rfl, B8⟩ := hcut
        obtain ⟨w8, hw8⟩ := world_name B8
        subst hw8
        have H8 := HHr.out.on B8
        have B8' := HBr.out.trans (B8.mono (show w2.heap.size + 1 ≤ w7.heap.size by have := HBr.out.size; omega))
        obtain ⟨gP, rfl⟩ := H8.radr (i := 0) rfl (by omega)
        obtain ⟨gQ, rfl⟩ := H8.radr (i := 1) rfl (by omega)
        obtain ⟨p1, p2, p3, p4⟩ := H8.rcell (i := 0) rfl hlt (u := .int .i64 x) (by rw [List.getElem?_map, more_at hlt HX1.out]; rfl)
        obtain ⟨q1, q2, q3, q4⟩ := H8.rcell (i := 1) rfl hlt (u := .int .i64 x) (by rw [List.getElem?_map, twice_at hlt HX1.out]; rfl)
        have hPQ : gP ≠ gQ := fun e => H8.ne 0 1 _ _ (by omega) rfl rfl gP rfl (by rw [e]; rfl)
        have hQP : gQ ≠ gP := fun e => hPQ e.symm
        have HH8 := Lib.hid H8; have HB8 := Lib.hid B8'
        clear B8 B8' H8 hO7 HBr HHr
        have e1 : IntKind.i64.wrap (x + 1) = x + 1 := by rw [IntKind.wrap_i64]; omega
        have e2 : IntKind.i64.wrap (x + ((k % 7 : Nat) : Int)) = x + ((k % 7 : Nat) : Int) := by rw [IntKind.wrap_i64]; omega
        have H1 := Lib.hid fun (h : bb = true) => more_put (M := M) HX1.out (HBB.out.1 h)
        have H2 := Lib.hid fun (h : bb = false) => more_skip (X := X) (M := M) (KO := KO) (k := k) (fun e => by have := HBB.out.2 e; rw [h] at this; cases this)
        by_cases hpos : 0 < x
        · have e0 : decide (x ≤ 0) = false := decide_eq_false (by omega)
          have e0' : ¬ x ≤ 0 := by omega
          have H3 := Lib.hid (twice_put (M := M) HX1.out hpos)
          cases bb
          · have H4 := H2.out rfl
            have HH := HH8.out.putB k (x + ((k % 7 : Nat) : Int))
            rw [H3.out, H4] at HH
            have HHH := Lib.hid HH
            have HBz := Lib.hid (HB8.out.setCell (p := ⟨gQ, k, none⟩) q4 (.int .i64 (x + ((k % 7 : Nat) : Int))))
            clear HH H4 H1 H2 H3 HH8 HB8
            go_wp2_with fail
            go_roundw
            case rel => exact ⟨k + 1, by omega, by go_num, HBz.out, HHH.out⟩
            case measure => simp [intOf]; omega
          · have H4 := H1.out rfl
            have HH := (HH8.out.putA k (x + 1)).putB k (x + ((k % 7 : Nat) : Int))
            rw [H3.out, H4] at HH
            have HHH := Lib.hid HH
            have HBz := Lib.hid ((HB8.out.setCell (p := ⟨gP, k, none⟩) p4 (.int .i64 (x + 1))).setCell (p := ⟨gQ, k, none⟩) q4 (.int .i64 (x + ((k % 7 : Nat) : Int))))
            clear HH H4 H1 H2 H3 HH8 HB8
            go_wp2_with fail
            go_roundw
            case rel => exact ⟨k + 1, by omega, by go_num, HBz.out, HHH.out⟩
            case measure => simp [intOf]; omega
        · have e0 : decide (x ≤ 0) = true := decide_eq_true (by omega)
          have e0' : x ≤ 0 := by omega
          have H3 := Lib.hid (twice_skip (M := M) HX1.out hpos)
          cases bb
          · have H4 := H2.out rfl
            have HH := HH8.out
            rw [H3.out, H4] at HH
            have HHH := Lib.hid HH
            clear HH H4 H1 H2 H3 HH8
            go_wp2_with fail
            go_roundw
            case rel => exact ⟨k + 1, by omega, by go_num, HB8.out, HHH.out⟩
            case measure => simp [intOf]; omega
          · have H4 := H1.out rfl
            have HH := HH8.out.putA k (x + 1)
            rw [H3.out, H4] at HH
            have HHH := Lib.hid HH
            have HBz := Lib.hid (HB8.out.setCell (p := ⟨gP, k, none⟩) p4 (.int .i64 (x + 1)))
            clear HH H4 H1 H2 H3 HH8 HB8
            go_wp2_with fail
            go_roundw
            case rel => exact ⟨k + 1, by omega, by go_num, HBz.out, HHH.out⟩
            case measure => simp [intOf]; omega
    · obtain rfl : k = M := by omega
      have B7w := hBr.mono (show w2.heap.size ≤ w2.heap.size + 1 by omega)
      have C7 := HC6.out.below hBr (by omega)
      have B7w' : w2.heap.size ≤ w7.heap.size := Nat.le_trans hz6' B7w.size
      have G7 := (HG6.out.below B7w).more B7w'
      have X7 := (HX6.out.below B7w).more B7w'
      have P7 := Hr.ints (i := 0) rfl (show (moreL X KO k k).length = k from tab_len _ _)
      have Q7 := Hr.ints (i := 1) rfl (show (twiceL X k k).length = k from tab_len _ _)
      have Bw7 := HB6.out.trans (hBr.mono (show w.heap.size ≤ w2.heap.size + 1 by omega))
      have HC7 := Lib.hid C7; have HG7 := Lib.hid G7; have HX7 := Lib.hid X7; have HP7 := Lib.hid P7; have HQ7 := Lib.hid Q7; have HB7 := Lib.hid Bw7
      clear C7 G7 X7 P7 Q7 Bw7 HC6 HG6 HX6 HB6 HH6 hBr Hr B7w B7w'
      go_upto_region 12 with fail
      go_cut [15, 16, 17] (fun s15 s16 s17 wx => ∃ (g1 g2 g3 : Nat) (d1 d2 d3 : Nat → Nat), s15 = .slice (some ⟨g1, 0, none⟩) N1 N1 ∧ s16 = .slice (some ⟨g2, 0, none⟩) N1 N1 ∧ s17 = .slice (some ⟨g3, 0, none⟩) N1 N1 ∧ Ints wx wx.heap.size (some ⟨g1, 0, none⟩) N1 (tab N1 fun v => (d1 v : Int)) ∧ Ints wx wx.heap.size (some ⟨g2, 0, none⟩) N1 (tab N1 fun v => (d2 v : Int)) ∧ Ints wx wx.heap.size (some ⟨g3, 0, none⟩) N1 (tab N1 fun v => (d3 v : Int)) ∧ IsDist (Lk k hd rv (fun a => opn X (rv a))) N1 t d1 ∧ IsDist (Lk k hd rv fun a => opn (moreL X KO k k) (rv a)) N1 t d2 ∧ IsDist (Lk k hd rv fun a => opn (twiceL X k k) (rv a)) N1 t d3 ∧ Below w7.heap.size w7 wx)
      case first =>
        as_aux_lemma =>
          go_region_held3 (fun W => Below w7.heap.size w7 W ∧ W.cell? ⟨w2.heap.size, 0, none⟩ = some (.int .i64 (N1 : Int)) ∧ W.cell? ⟨w2.heap.size, 1, none⟩ = some (.int .i64 S1) ∧ W.cell? ⟨w2.heap.size, 2, none⟩ = some (.int .i64 T1) ∧ W.cell? ⟨w2.heap.size, 3, none⟩ = some (.slice K.AF (N1 + 1) K.cF) ∧ W.cell? ⟨w2.heap.size, 4, none⟩ = some (.slice K.AH k K.cH) ∧ W.cell? ⟨w2.heap.size, 5, none⟩ = some (.slice K.AR k K.cR) ∧ W.cell? ⟨w2.heap.size, 6, none⟩ = some (.slice K.AC k K.cC) ∧ W.cell? ⟨w2.heap.size, 7, none⟩ = some (.slice K.AA k K.cA) ∧ W.cell? ⟨w2.heap.size, 8, none⟩ = some (.slice K.AB k K.cB))
            (first
              | exact csr_keep HC7.out (Below.refl _ _).drew
              | (go_split_ands
                 exact csr_keep HC7.out (by refine below_step ?_ (by assumption); assumption)))
            (first
              | (go_at_call 14; go_split_ands; ((with_reducible refine (to_dist N1 k S1 T1 K fst hd rv AX cX X t _ HG.out (HG7.out.on (by assumption)) (HX7.out.on (by assumption)) (by omega) (by omega) htN).mono ?_); rintro e W1 ⟨g1, d1, rfl, I1, hD1, -, B1⟩))
              | (go_at_call 14; go_split_ands; ((with_reducible refine (to_dist N1 k S1 T1 K fst hd rv A5 c5 (moreL X KO k k) t _ HG.out (HG7.out.on (by assumption)) (HP7.out.on (by assumption)) (by omega) (by omega) htN).mono ?_); rintro e W2 ⟨g2, d2, rfl, I2, hD2, -, B2⟩))
              | (go_at_call 14; go_split_ands; ((with_reducible refine (to_dist N1 k S1 T1 K fst hd rv A6 c6 (twiceL X k k) t _ HG.out (HG7.out.on (by assumption)) (HQ7.out.on (by assumption)) (by omega) (by omega) htN).mono ?_); rintro e W3 ⟨g3, d3, rfl, I3, hD3, -, B3⟩)))
          go_split_ands
          go_wp2_with fail
          go_meet
          first
            | exact ⟨g1, g2, g3, d1, d2, d3, rfl, rfl, rfl, (I1.on B2).on B3, I2.on B3, I3, hD1, hD2, hD3, by assumption⟩
            | exact ⟨g1, g2, g3, d1, d2, d3, rfl, rfl, rfl, (I1.on B3).on B2, I2, I3.on B2, hD1, hD2, hD3, by assumption⟩
            | exact ⟨g1, g2, g3, d1, d2, d3, rfl, rfl, rfl, I1.on B3, (I2.on B1).on B3, I3, hD1, hD2, hD3, by assumption⟩
            | exact ⟨g1, g2, g3, d1, d2, d3, rfl, rfl, rfl, I1, (I2.on B3).on B1, I3.on B1, hD1, hD2, hD3, by assumption⟩
            | exact ⟨g1, g2, g3, d1, d2, d3, rfl, rfl, rfl, I1.on B2, I2, (I3.on B1).on B2, hD1, hD2, hD3, by assumption⟩
            | exact ⟨g1, g2, g3, d1, d2, d3, rfl, rfl, rfl, I1, I2.on B1, (I3.on B2).on B1, hD1, hD2, hD3, by assumption⟩
      case rest =>
        obtain ⟨g1, g2, g3, d1, d2, d3, rfl, rfl, rfl, I1, I2, I3, hD1, hD2, hD3, B8⟩ := hcut
        obtain ⟨w8, hw8⟩ := world_name B8
        subst hw8
        have HC8 := Lib.hid (HC7.out.below B8 HC7.out.lt); have HG8 := Lib.hid (HG7.out.on B8); have HX8 := Lib.hid (HX7.out.on B8); have HP8 := Lib.hid (HP7.out.on B8); have HB8 := Lib.hid (below_step HB7.out B8)
        have HI1 := Lib.hid I1; have HI2 := Lib.hid I2; have HI3 := Lib.hid I3; have HD1 := Lib.hid hD1; have HD2 := Lib.hid hD2; have HD3 := Lib.hid hD3
        clear HC7 HG7 HX7 HP7 HQ7 HB7 B8 I1 I2 I3 hD1 hD2 hD3
        go_upto_region 13 with fail
        go_cut [18, 19] (fun s18 s19 wx => ∃ (g4 g5 : Nat) (d4 d5 : Nat → Nat), s18 = .slice (some ⟨g4, 0, none⟩) N1 N1 ∧ s19 = .slice (some ⟨g5, 0, none⟩) N1 N1 ∧ Ints wx wx.heap.size (some ⟨g4, 0, none⟩) N1 (tab N1 fun v => (d4 v : Int)) ∧ Ints wx wx.heap.size (some ⟨g5, 0, none⟩) N1 (tab N1 fun v => (d5 v : Int)) ∧ IsDist (Lk k hd rv (opn X)) N1 t d4 ∧ IsDist (Lk k hd rv (opn (moreL X KO k k))) N1 t d5 ∧ Below w8.heap.size w8 wx)
        case first =>
          as_aux_lemma =>
            go_region_held3 (fun W => Below w8.heap.size w8 W ∧ W.cell? ⟨w2.heap.size, 0, none⟩ = some (.int .i64 (N1 : Int)) ∧ W.cell? ⟨w2.heap.size, 1, none⟩ = some (.int .i64 S1) ∧ W.cell? ⟨w2.heap.size, 2, none⟩ = some (.int .i64 T1) ∧ W.cell? ⟨w2.heap.size, 3, none⟩ = some (.slice K.AF (N1 + 1) K.cF) ∧ W.cell? ⟨w2.heap.size, 4, none⟩ = some (.slice K.AH k K.cH) ∧ W.cell? ⟨w2.heap.size, 5, none⟩ = some (.slice K.AR k K.cR) ∧ W.cell? ⟨w2.heap.size, 6, none⟩ = some (.slice K.AC k K.cC) ∧ W.cell? ⟨w2.heap.size, 7, none⟩ = some (.slice K.AA k K.cA) ∧ W.cell? ⟨w2.heap.size, 8, none⟩ = some (.slice K.AB k K.cB))
              (first
                | exact csr_keep HC8.out (Below.refl _ _).drew
                | (go_split_ands
                   exact csr_keep HC8.out (by refine below_step ?_ (by assumption); assumption)))
              (first
                | (go_at_call 16; go_split_ands; ((with_reducible refine (from_dist N1 k S1 T1 K fst hd rv AX cX X t _ HG.out (HG8.out.on (by assumption)) (HX8.out.on (by assumption)) (by omega) (by omega) htN).mono ?_); rintro e W4 ⟨g4, d4, rfl, I4, hD4, -, B4⟩))
                | (go_at_call 16; go_split_ands; ((with_reducible refine (from_dist N1 k S1 T1 K fst hd rv A5 c5 (moreL X KO k k) t _ HG.out (HG8.out.on (by assumption)) (HP8.out.on (by assumption)) (by omega) (by omega) htN).mono ?_); rintro e W5 ⟨g5, d5, rfl, I5, hD5, -, B5⟩)))
            go_split_ands
            go_wp2_with fail
            go_meet
            first
              | exact ⟨g4, g5, d4, d5, rfl, rfl, I4.on B5, I5, hD4, hD5, by assumption⟩
              | exact ⟨g4, g5, d4, d5, rfl, rfl, I4, I5.on B4, hD4, hD5, by assumption⟩
        case rest =>
          obtain ⟨g4, g5, d4, d5, rfl, rfl, I4, I5, hD4, hD5, B9⟩ := hcut
          obtain ⟨w9, hw9⟩ := world_name B9
          subst hw9
          have C9 := HC8.out.below B9 HC8.out.lt
          have J1 := HI1.out.on B9
          have J2 := HI2.out.on B9
          have J3 := HI3.out.on B9
          have HB9 := Lib.hid (below_step HB8.out B9)
          have HD4 := Lib.hid hD4; have HD5 := Lib.hid hD5
          clear HC8 HG8 HX8 HP8 HB8 HI1 HI2 HI3 B9 hD4 hD5
          have a0 := C9.cell 0
          simp only [List.getElem?_toArray, List.getElem?_cons_zero] at a0
          have hz9 := C9.lt
          go_wp2_with fail
          refine (ints_is (n := N1) (m := N1) _ _ J1 J3 (by omega) (by omega) (v := true) (decide_eq_true (tab_same fun v hv => HD1.out.same HD3.out (fun u v _ _ => lk_same fun a ha => twice_opn (HG.out.rvl a ha)) v hv))).mono ?_
          rintro e w10 ⟨rfl, B10⟩
          have HJ1 := Lib.hid (J1.on B10); have HJ2 := Lib.hid (J2.on B10); have HJ4 := Lib.hid (I4.on B10); have HJ5 := Lib.hid (I5.on B10); have HB10 := Lib.hid (below_step HB9.out B10)
          clear J1 J2 J3 I4 I5 B10 C9 a0 hz9
          go_wp2_with fail
          go_loopw [128] (fun i wr => ∃ v : Nat, v ≤ N1 ∧ i = .int .i64 v ∧ Below w10.heap.size w10 wr) (fun i _ => N1 - (intOf i).toNat)
          case atStart => exact ⟨0, Nat.zero_le _, rfl, Below.refl _ _⟩
          case round =>
            obtain ⟨v, hv, rfl, hBv⟩ := hrel
            by_cases hvl : v < N1
            · obtain ⟨b1, c1'⟩ := tab_cell (HJ1.out.on hBv) hvl
              obtain ⟨b2, c2⟩ := tab_cell (HJ2.out.on hBv) hvl
              obtain ⟨b4, c4⟩ := tab_cell (HJ4.out.on hBv) hvl
              obtain ⟨b5, c5'⟩ := tab_cell (HJ5.out.on hBv) hvl
              rw [Nat.zero_add] at c1' c2 c4 c5'
              have h1 := HD1.out.sub HD2.out (fun u v _ _ => lk_mono fun a ha h => more_opn (HG.out.rvl a ha) h) v hvl
              have h2 := HD4.out.sub HD5.out (fun u v _ _ => lk_mono fun a ha h => more_opn ha h) v hvl
              generalize d1 v = x1 at *
              generalize d2 v = x2 at *
              generalize d4 v = x4 at *
              generalize d5 v = x5 at *
              have e1 : decide ((x1 : Int) < (x2 : Int)) = false := decide_eq_false (by omega)
              have e2 : decide ((x4 : Int) < (x5 : Int)) = false := decide_eq_false (by omega)
              have HBv := Lib.hid hBv
              clear hBv
              go_wp2_with fail
              go_quiet (fail)
              go_wp2_with fail
              go_roundw
              case rel => exact ⟨v + 1, by omega, by go_num, below_drewN' HBv.out _⟩
              case measure => simp [intOf]; omega
            · have HBt := Lib.hid (below_step HB10.out hBv)
              clear hBv
              go_wp2_with fail
              refine (awake5_any _).mono ?_
              rintro e w14 ⟨rfl, B14⟩
              go_wp2_with fail
              go_ret
              exact ⟨rfl, below_step HBt.out B14⟩

end Go.Proofs.Ytdbfngamplkjeaa
