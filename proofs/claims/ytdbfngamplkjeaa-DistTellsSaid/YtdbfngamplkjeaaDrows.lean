/- Layer 5: Rows. -/
import Derived.Test.YtdbfngamplkjeaaTofrom
import Derived.Test.YtdbfngamplkjeaaHx
namespace Go.Proofs.Ytdbfngamplkjeaa
open Go.RowKit
set_option maxRecDepth 100000

/-- The vertices below n at distance k. -/
def rowK (d : Nat → Nat) (n k : Nat) : List Nat := (List.range n).filter fun v => d v == k
/-- The rows of the first v vertices. -/
structure RowsTo (N : Nat) (d : Nat → Nat) (v : Nat) (L : List (List Nat)) : Prop where
  ent : ∀ (k : Nat) (r : List Nat), L[k]? = some r → r = rowK d v k
  top : ∀ u, u < v → d u < N → d u < L.length
  low : ∀ k, k < L.length → ∃ u, u < v ∧ d u < N ∧ k ≤ d u
/-- The same, with empty rows behind, up to that of v. -/
structure RowsMid (N : Nat) (d : Nat → Nat) (v : Nat) (L : List (List Nat)) : Prop where
  ent : ∀ (k : Nat) (r : List Nat), L[k]? = some r → r = rowK d v k
  top : ∀ u, u < v → d u < N → d u < L.length
  low : ∀ k, k < L.length → (∃ u, u < v ∧ d u < N ∧ k ≤ d u) ∨ k ≤ d v
section
variable {N v k : Nat} {d : Nat → Nat} {L : List (List Nat)}
theorem rowK_succ (d : Nat → Nat) (v k : Nat) : rowK d (v + 1) k = rowK d v k ++ (if d v = k then [v] else []) := by
  unfold rowK
  rw [List.range_succ, List.filter_append]
  by_cases h : d v = k <;> simp [h]
theorem rowK_mem {u : Nat} : u ∈ rowK d v k ↔ u < v ∧ d u = k := by simp [rowK]
theorem RowsTo.zero (N : Nat) (d : Nat → Nat) : RowsTo N d 0 [] := ⟨fun k r h => by simp at h, fun u h => absurd h (by omega), fun k h => by simp at h⟩
theorem RowsTo.skip (h : RowsTo N d v L) (hv : d v = N) : RowsTo N d (v + 1) L := by
  refine ⟨fun k r hr => ?_, fun u hu hd => ?_, fun k hk => ?_⟩
  · have hk := (List.getElem?_eq_some_iff.1 hr).1
    obtain ⟨u, h1, h2, h3⟩ := h.low k hk
    rw [rowK_succ, if_neg (by omega), List.append_nil]
    exact h.ent k r hr
  · have e : u ≠ v := fun e => by subst e; omega
    exact h.top u (by omega) hd
  · obtain ⟨u, h1, h2⟩ := h.low k hk
    exact ⟨u, by omega, h2⟩
theorem RowsTo.mid (h : RowsTo N d v L) : RowsMid N d v L := ⟨h.ent, h.top, fun k hk => .inl (h.low k hk)⟩
theorem RowsMid.grow (h : RowsMid N d v L) (hl : L.length ≤ d v) (hv : d v < N) : RowsMid N d v (L ++ [[]]) := by
  refine ⟨fun k r hr => ?_, fun u hu hd => ?_, fun k hk => ?_⟩
  · by_cases hk : k < L.length
    · rw [List.getElem?_append_left hk] at hr
      exact h.ent k r hr
    · have h2 := (List.getElem?_eq_some_iff.1 hr).1
      simp at h2
      have e : k = L.length := by omega
      subst e
      simp at hr
      subst hr
      symm
      rw [List.eq_nil_iff_forall_not_mem]
      intro u hu
      obtain ⟨h3, h4⟩ := rowK_mem.1 hu
      have := h.top u h3 (by omega)
      omega
  · have := h.top u hu hd
    simp; omega
  · simp at hk
    by_cases hk2 : k < L.length
    · exact h.low k hk2
    · exact .inr (by omega)
theorem RowsMid.add (h : RowsMid N d v L) (hl : d v < L.length) (hv : d v < N) : RowsTo N d (v + 1) (L.set (d v) (rowK d v (d v) ++ [v])) := by
  refine ⟨fun k r hr => ?_, fun u hu hd => ?_, fun k hk => ?_⟩
  · rw [rowK_succ]
    by_cases e : d v = k
    · subst e
      rw [List.getElem?_set_self hl] at hr
      injection hr with hr
      rw [if_pos rfl, ← hr]
    · rw [List.getElem?_set_ne e] at hr
      rw [if_neg e, List.append_nil]
      exact h.ent k r hr
  · rw [List.length_set]
    by_cases e : u = v
    · subst e; exact hl
    · exact h.top u (by omega) hd
  · rw [List.length_set] at hk
    rcases h.low k hk with ⟨u, h1, h2⟩ | h1
    · exact ⟨u, by omega, h2⟩
    · exact ⟨v, by omega, hv, h1⟩
end

/-- The rows that the numbers lie in. -/
def InnerOf (L : List (List Nat)) (inner : List Rw) : Prop := inner.length = L.length ∧ ∀ (k : Nat) (r : Rw) (l : List Nat), inner[k]? = some r → L[k]? = some l → r.t = 3 ∧ r.n = l.length ∧ r.xs = nvs l
theorem InnerOf.grow {L : List (List Nat)} {inner : List Rw} (h : InnerOf L inner) : InnerOf (L ++ [[]]) (inner ++ [⟨3, none, 0, 0, []⟩]) := by
  refine ⟨by simp [h.1], fun k r l hr hl => ?_⟩
  by_cases hk : k < inner.length
  · rw [List.getElem?_append_left hk] at hr
    rw [List.getElem?_append_left (by rw [← h.1]; exact hk)] at hl
    exact h.2 k r l hr hl
  · have h2 := (List.getElem?_eq_some_iff.1 hr).1
    simp at h2
    have e : k = inner.length := by omega
    subst e
    simp at hr
    subst hr
    rw [h.1] at hl
    simp at hl
    subst hl
    exact ⟨rfl, rfl, rfl⟩
theorem InnerOf.put {L : List (List Nat)} {inner : List Rw} {k : Nat} {l : List Nat} {r : Rw} (h : InnerOf L inner) (ht : r.t = 3) (hn : r.n = l.length) (hx : r.xs = nvs l) : InnerOf (L.set k l) (inner.set k r) := by
  refine ⟨by simp [h.1], fun j r' l' hr hl => ?_⟩
  by_cases e : k = j
  · subst e
    have h1 := (List.getElem?_eq_some_iff.1 hr).1
    have h2 := (List.getElem?_eq_some_iff.1 hl).1
    rw [List.length_set] at h1 h2
    rw [List.getElem?_set_self h1] at hr
    rw [List.getElem?_set_self h2] at hl
    injection hr with hr
    injection hl with hl
    subst hr; subst hl
    exact ⟨ht, hn, hx⟩
  · rw [List.getElem?_set_ne e] at hr hl
    exact h.2 j r' l' hr hl

/-- A slice that reads as rows of numbers. -/
def RowsAt (w : World) (x : Nat) (A : Option Addr) (n : Nat) (L : List (List Nat)) : Prop :=
  L.length = n ∧ (0 < n → ∃ b off, A = some ⟨b, off, none⟩ ∧ b < x ∧ ∀ (k : Nat) (l : List Nat), L[k]? = some l → ∃ Ak ck, w.cell? ⟨b, off + k, none⟩ = some (.slice Ak l.length ck) ∧ Ints w x Ak l.length (l.map fun v : Nat => (v : Int)))
theorem RowsAt.below {w w' : World} {x n : Nat} {A : Option Addr} {L : List (List Nat)} (h : RowsAt w x A n L) (hb : Below x w w') : RowsAt w' x A n L :=
  ⟨h.1, fun hn => by
    obtain ⟨b, off, e, h1, h2⟩ := h.2 hn
    refine ⟨b, off, e, h1, fun k l hl => ?_⟩
    obtain ⟨Ak, ck, h3, h4⟩ := h2 k l hl
    exact ⟨Ak, ck, (hb.cell (p := ⟨b, off + k, none⟩) h1).trans h3, h4.below hb⟩⟩
theorem RowsAt.more {w : World} {x y n : Nat} {A : Option Addr} {L : List (List Nat)} (h : RowsAt w x A n L) (hb : x ≤ y) : RowsAt w y A n L :=
  ⟨h.1, fun hn => by
    obtain ⟨b, off, e, h1, h2⟩ := h.2 hn
    refine ⟨b, off, e, by omega, fun k l hl => ?_⟩
    obtain ⟨Ak, ck, h3, h4⟩ := h2 k l hl
    exact ⟨Ak, ck, h3, h4.more hb⟩⟩
theorem RowsAt.on {w w' : World} {n : Nat} {A : Option Addr} {L : List (List Nat)} (h : RowsAt w w.heap.size A n L) (hb : Below w.heap.size w w') : RowsAt w' w'.heap.size A n L := (h.below hb).more hb.size
theorem Hx.rows {w0 w : World} {base c : Nat} {A : Option Addr} {L : List (List Nat)} {inner : List Rw} (h : Hx w0 w base (⟨26, A, L.length, c, inner.map Rw.v⟩ :: inner)) (hi : InnerOf L inner) : RowsAt w w.heap.size A L.length L := by
  refine ⟨rfl, fun hn => ?_⟩
  obtain ⟨g, hg, _, hgl⟩ := own_form (h.held.own 0 _ rfl) hn
  simp only at hg
  subst hg
  refine ⟨g, 0, rfl, hgl, fun k l hl => ?_⟩
  have hk := (List.getElem?_eq_some_iff.1 hl).1
  obtain ⟨r, hr⟩ : ∃ r, inner[k]? = some r := ⟨_, List.getElem?_eq_getElem (by rw [hi.1]; exact hk)⟩
  obtain ⟨h1, h2, h3⟩ := hi.2 k r l hr hl
  obtain ⟨t, A, n, c', xs⟩ := r
  simp only at h1 h2 h3
  subst h1; subst h2; subst h3
  refine ⟨A, c', ?_, ?_⟩
  · rw [Nat.zero_add]
    exact (h.cell (i := 0) rfl hk (u := .slice A l.length c') (by simp [hr])).1
  · have e : nvs l = (l.map fun v : Nat => (v : Int)).map (Value.int .i64) := by unfold nvs; rw [List.map_map]; rfl
    exact h.held.ints (i := k + 1) (by rw [← e]; simpa using hr) (by simp)

def lenR : Value → Nat
  | .slice _ n _ => n
  | _ => 0

/-- Rows are answered. -/
def RetRows (R : Nat → Nat → Prop) (N t : Nat) (w : World) (e : Ending) (w' : World) : Prop :=
  ∃ (A : Option Addr) (n c : Nat) (L : List (List Nat)) (d : Nat → Nat), e = .returned (.slice A n c) ∧ IsDist R N t d ∧ RowsTo N d N L ∧ RowsAt w' w'.heap.size A n L ∧ Below w.heap.size w w'

set_option maxHeartbeats 8000000 in
theorem rows_good (N M : Nat) (S T : Int) (K : CsrS) (fst hd rv : Nat → Nat) (AX : Option Addr) (cX : Nat) (X : List Int) (t : Nat) (w : World) (hG : Grid N M fst hd rv) (hI : GridIn w w.heap.size N M K fst hd rv) (hX : Ints w w.heap.size AX M X) (hM : M ≤ 100000000) (hN : N ≤ 4096) (ht : t < N) :
    Calls Try.prog 19 #[csrW N M S T K, .slice AX M cX, .int .i64 (t : Int)] w (RetRows (Lk M hd rv fun a => opn X (rv a)) N t w) := by
  obtain ⟨AF, cF, AH, cH, AR, cR, AC, cC, AA, cA, AB, cB⟩ := K
  dsimp only [csrW]
  go_enter Try.func19, Try.ntmps19
  go_wp2_with fail
  refine (to_dist N M S T ⟨AF, cF, AH, cH, AR, cR, AC, cC, AA, cA, AB, cB⟩ fst hd rv AX cX X t _ hG (hI.onAlloc _) (hX.onAlloc _) hM hN ht).mono ?_
  rintro e w1 ⟨gD, d, rfl, D1, hD, hgD, B1⟩
  have K1 : Blk w1 w.heap.size 29 #[.int .i64 N, .int .i64 S, .int .i64 T, .slice AF (N + 1) cF, .slice AH M cH, .slice AR M cR, .slice AC M cC, .slice AA M cA, .slice AB M cB] := (Blk.new rfl).below B1 (by simp)
  have Bw1 := below_step (below_alloc _) B1
  have HD := Lib.hid hD; have HD1 := Lib.hid D1; have HK1 := Lib.hid K1; have HB1 := Lib.hid Bw1
  clear hD D1 K1 Bw1 B1 hG hI hX
  go_wp2_with fail
  have X0 : Hx w1 w1 w1.heap.size [⟨26, none, 0, 0, []⟩] := (Hx.start rfl).nil 26
  have hX0 := Lib.hid X0
  clear X0
  go_loopw [7, 15] (fun q i wr => ∃ (v : Nat) (L : List (List Nat)) (inner : List Rw) (AO : Option Addr) (cO : Nat), v ≤ N ∧ i = .int .i64 v ∧ q = .slice AO L.length cO ∧ RowsTo N d v L ∧ InnerOf L inner ∧ L.length ≤ N ∧
    Hx w1 wr w1.heap.size (⟨26, AO, L.length, cO, inner.map Rw.v⟩ :: inner)) (fun _ i _ => N - (intOf i).toNat)
  case atStart => exact ⟨0, [], [], none, 0, Nat.zero_le _, rfl, rfl, RowsTo.zero N d, ⟨rfl, fun k r l h => by simp at h⟩, Nat.zero_le _, hX0.out⟩
  case round =>
    clear hX0
    obtain ⟨v, L, inner, AO, cO, hv, rfl, rfl, hR, hIn, hLN, X⟩ := hrel
    by_cases hlt : v < N
    · have K2 := HK1.out.below X.bel HK1.out.lt
      have k0 := K2.cell 0
      simp only [List.getElem?_toArray, List.getElem?_cons_zero] at k0
      have hzk := K2.lt
      obtain ⟨hbD, cd⟩ := tab_cell (HD1.out.below X.bel) hlt
      rw [Nat.zero_add] at cd
      have hdN := HD.out.le v hlt
      have hzw := X.bel.size
      obtain ⟨f, hf⟩ : ∃ f, d v = f := ⟨_, rfl⟩
      rw [hf] at cd hdN
      have HF := Lib.hid hf; have HR := Lib.hid hR; have HIN := Lib.hid hIn; have HX := Lib.hid X
      clear hf hR hIn X K2
      by_cases hfN : f = N
      · subst hfN
        go_wp2_with fail
        go_roundw
        case rel => exact ⟨v + 1, L, inner, AO, cO, by omega, by go_num, rfl, HR.out.skip HF.out, HIN.out, hLN, HX.out⟩
        case measure => simp [intOf]; omega
      · have hn1 : ((f : Int) == (N : Int)) = false := beq_false_of_ne (by omega)
        have hn2 : ¬ (f : Int) = (N : Int) := by omega
        go_wp2_with fail
        clear k0 cd hzk
        go_loopw [7] (fun q wr => ∃ (L : List (List Nat)) (inner : List Rw) (AO : Option Addr) (cO : Nat), q = .slice AO L.length cO ∧ RowsMid N d v L ∧ InnerOf L inner ∧ L.length ≤ N ∧
          Hx w1 wr w1.heap.size (⟨26, AO, L.length, cO, inner.map Rw.v⟩ :: inner)) (fun q _ => f + 1 - lenR q)
        case atStart => exact ⟨L, inner, AO, cO, rfl, HR.out.mid, HIN.out, hLN, HX.out⟩
        case round =>
          clear HR HIN HX hLN hzw
          obtain ⟨L, inner, AO, cO, rfl, hR, hIn, hLN, X⟩ := hrel
          have HR := Lib.hid hR; have HIN := Lib.hid hIn
          clear hR hIn
          by_cases hle : L.length ≤ f
          · have HX := Lib.hid X
            have hle' : (L.length : Int) ≤ (f : Int) := by omega
            clear X
            go_wp2_with (at_builtin; refine wp_appH HX.out rfl (.tmp 28) (.tmp 29) _ _ _ rfl one_slice 0 L.length cO AO _ (.slice none 0 0) rfl rfl rfl rfl (by omega) (by simp) ?_)
            intro A4 c4 w4 HX4 HB4
            have X4 : Hx w1 w4 w1.heap.size (⟨26, A4, (L ++ [[]]).length, c4, (inner ++ [(⟨3, none, 0, 0, []⟩ : Rw)]).map Rw.v⟩ :: (inner ++ [(⟨3, none, 0, 0, []⟩ : Rw)])) := by
              have h := HX4.out.nil 3
              rw [List.length_append, List.map_append]
              exact h
            have hX4 := Lib.hid X4
            clear X4 HX4 HX HB4
            go_wp2_with fail
            go_roundw
            case rel => exact ⟨L ++ [[]], inner ++ [⟨3, none, 0, 0, []⟩], A4, c4, by rw [List.length_append]; rfl, HR.out.grow (by rw [HF.out]; exact hle) (by rw [HF.out]; omega), HIN.out.grow, by simp; omega, hX4.out⟩
            case measure => simp [lenR]; omega
          · obtain ⟨gO, hgO, -, hgl⟩ := own_form (X.held.own 0 _ rfl) (by simp only; omega)
            simp only at hgO
            subst hgO
            have hfl : f < L.length := by omega
            have hfi : f < inner.length := by rw [HIN.out.1]; exact hfl
            obtain ⟨r, hr⟩ : ∃ r, inner[f]? = some r := ⟨_, List.getElem?_eq_getElem hfi⟩
            obtain ⟨l, hl⟩ : ∃ l, L[f]? = some l := ⟨_, List.getElem?_eq_getElem hfl⟩
            obtain ⟨h1, h2, h3⟩ := HIN.out.2 f r l hr hl
            obtain ⟨rt, A, n, c, xs⟩ := r
            simp only at h1 h2 h3
            subst h1; subst h2; subst h3
            have hlr := HR.out.ent f l hl
            have hln : l.length ≤ 4096 := by
              rw [hlr]
              unfold rowK
              have := List.length_filter_le (fun u => d u == f) (List.range v)
              simp at this
              omega
            obtain ⟨co, fo, -, -⟩ := X.cell (i := 0) rfl hfl (u := .slice A l.length c) (by simp [hr])
            have hr' : (⟨26, some ⟨gO, 0, none⟩, L.length, cO, inner.map Rw.v⟩ :: inner)[f + 1]? = some (⟨3, A, l.length, c, nvs l⟩ : Rw) := by simpa using hr
            have HX := Lib.hid X; have HLR := Lib.hid hlr; have HRR := Lib.hid hr'
            have hle' : ¬ (L.length : Int) ≤ (f : Int) := by omega
            have hfl' : (f : Int) < (L.length : Int) := by omega
            clear X hlr hr hr' hl
            go_wp2_with (at_builtin; refine wp_appH HX.out rfl (.tmp 36) (.tmp 38) _ _ _ rfl one_int.wide (f + 1) l.length c A _ (.int .i64 (v : Int)) HRR.out rfl rfl rfl (by omega) (by simp) ?_)
            intro A4 c4 w4 HX4 HB4
            have X4 : Hx w1 w4 w1.heap.size (⟨26, some ⟨gO, 0, none⟩, L.length, cO, inner.map Rw.v⟩ :: inner.set f ⟨3, A4, l.length + 1, c4, nvs (l ++ [v])⟩) := by
              have h := HX4.out
              unfold nvs at h ⊢
              rw [List.map_append]
              exact h
            obtain ⟨co, fo, hgl4, -⟩ := X4.cell (i := 0) rfl hfl (u := .slice A l.length c) (by
              have := HRR.out
              simp only [List.getElem?_cons_succ] at this
              simp [this])
            have X5 : Hid (Hx w1 (w4.setCell ⟨gO, f, none⟩ (.slice A4 (l.length + 1) c4)) w1.heap.size (⟨26, some ⟨gO, 0, none⟩, (L.set f (l ++ [v])).length, cO, (inner.set f (⟨3, A4, l.length + 1, c4, nvs (l ++ [v])⟩ : Rw)).map Rw.v⟩ :: inner.set f ⟨3, A4, l.length + 1, c4, nvs (l ++ [v])⟩)) := by
              have h := X4.put (i := 0) rfl f (.slice A4 (l.length + 1) c4)
              rw [List.set_cons_zero] at h
              rw [List.length_set, List.map_set]
              exact Lib.hid h
            clear X4 HX4 HX HB4 hgl
            go_wp2_with fail
            go_roundw
            case rel =>
              refine ⟨v + 1, L.set f (l ++ [v]), inner.set f ⟨3, A4, l.length + 1, c4, nvs (l ++ [v])⟩, some ⟨gO, 0, none⟩, cO, by omega, by go_num, by rw [List.length_set], ?_, HIN.out.put rfl (by simp) rfl, by rw [List.length_set]; exact hLN, X5.out⟩
              have h := HR.out.add (by rw [HF.out]; exact hfl) (by rw [HF.out]; omega)
              rw [HF.out, ← HLR.out] at h
              exact h
            case measure => simp [intOf]; omega
    · obtain rfl : v = N := by omega
      have HX := Lib.hid X
      clear X
      go_wp2_with fail
      go_ret
      exact ⟨AO, L.length, cO, L, d, rfl, HD.out, hR, HX.out.rows hIn, below_step HB1.out HX.out.bel⟩

end Go.Proofs.Ytdbfngamplkjeaa
