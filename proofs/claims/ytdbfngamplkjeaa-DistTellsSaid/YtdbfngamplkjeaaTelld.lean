/- What Rows tells, whatever is asked: dist's, and the document's answer. -/
import Derived.Test.YtdbfngamplkjeaaTella
import Derived.Test.YtdbfngamplkjeaaDrowsl
namespace Go.Proofs.Ytdbfngamplkjeaa
open Go.RowKit
set_option maxRecDepth 100000

/-- Rows up to distance k. -/
structure RowsUp (N : Nat) (d : Nat → Nat) (k : Nat) (L : List (List Nat)) : Prop where
  ent : ∀ (j : Nat) (r : List Nat), L[j]? = some r → r = rowK d N j
  top : ∀ u, u < N → d u < k → d u < L.length
  low : ∀ j, j < L.length → ∃ u, u < N ∧ d u = j
  len : L.length ≤ k
section
variable {N M k t : Nat} {d d' : Nat → Nat} {R R' : Nat → Nat → Prop} {L L' : List (List Nat)}
theorem RowsUp.zero : RowsUp N d 0 [] := ⟨fun j r h => by simp at h, fun u _ h => by omega, fun j h => by simp at h, Nat.le_refl _⟩
theorem RowsUp.skip (h : RowsUp N d k L) (hr : rowK d N k = []) : RowsUp N d (k + 1) L := by
  refine ⟨h.ent, fun u hu hd => ?_, h.low, by have := h.len; omega⟩
  by_cases e : d u = k
  · have : u ∈ rowK d N k := rowK_mem.2 ⟨hu, e⟩
    rw [hr] at this
    simp at this
  · exact h.top u hu (by omega)
theorem RowsUp.add (h : RowsUp N d k L) (hD : IsDist R N t d) (ht : t < N) (hk : k < N) (hr : rowK d N k ≠ []) : RowsUp N d (k + 1) (L ++ [rowK d N k]) := by
  obtain ⟨u0, hu0⟩ : ∃ u, u ∈ rowK d N k := List.exists_mem_of_ne_nil _ hr
  obtain ⟨h1, h2⟩ := rowK_mem.1 hu0
  have hlen : L.length = k := by
    have := h.len
    rcases Nat.lt_or_ge L.length k with hc | hc
    · exfalso
      obtain ⟨x, h3, h4⟩ := hD.level (k := L.length) ht h1 (by omega) (by omega) (j := k - L.length) (by omega)
      have := h.top x h3 (by omega)
      omega
    · omega
  refine ⟨fun j r hj => ?_, fun u hu hd => ?_, fun j hj => ?_, by simp; omega⟩
  · by_cases e : j < L.length
    · rw [List.getElem?_append_left e] at hj
      exact h.ent j r hj
    · have h3 := (List.getElem?_eq_some_iff.1 hj).1
      simp at h3
      obtain rfl : j = L.length := by omega
      simp at hj
      rw [← hj, hlen]
  · rw [List.length_append]
    simp
    by_cases e : d u = k
    · omega
    · have := h.top u hu (by omega)
      omega
  · rw [List.length_append] at hj
    simp at hj
    by_cases e : j < L.length
    · exact h.low j e
    · exact ⟨u0, h1, by omega⟩
theorem RowsUp.done (h : RowsUp N d N L) : RowsTo N d N L := by
  refine ⟨h.ent, h.top, fun j hj => ?_⟩
  obtain ⟨u, h1, h2⟩ := h.low j hj
  have := h.len
  exact ⟨u, h1, by omega, by omega⟩
theorem rows_le (h : RowsTo N d N L) (h' : RowsTo N d' N L') (hs : ∀ v, v < N → d v = d' v) : L.length ≤ L'.length := by
  rcases Nat.eq_zero_or_pos L.length with e | e
  · omega
  · obtain ⟨u, h1, h2, h3⟩ := h.low (L.length - 1) (by omega)
    have := h'.top u h1 (by rw [← hs u h1]; exact h2)
    rw [← hs u h1] at this
    omega
theorem RowsTo.same (h : RowsTo N d N L) (h' : RowsTo N d' N L') (hs : ∀ v, v < N → d v = d' v) : L = L' := by
  have e1 := rows_le h h' hs
  have e2 := rows_le h' h fun v hv => (hs v hv).symm
  apply List.ext_getElem?
  intro j
  by_cases hj : j < L.length
  · obtain ⟨r, hr⟩ : ∃ r, L[j]? = some r := ⟨_, List.getElem?_eq_getElem hj⟩
    obtain ⟨r', hr'⟩ : ∃ r, L'[j]? = some r := ⟨_, List.getElem?_eq_getElem (by omega)⟩
    rw [hr, hr', h.ent j r hr, h'.ent j r' hr', rowK_same hs]
  · rw [List.getElem?_eq_none (by omega), List.getElem?_eq_none (by omega)]
end
/-- What Rows tells. -/
def RowsAns (N M n : Nat) (hd rv : Nat → Nat) (X : List Int) (t : Int) (L : List (List Nat)) : Prop :=
  (n = M ∧ ∃ tn : Nat, t = (tn : Int) ∧ tn < N ∧ ∃ d, IsDist (linkOf true M hd rv X) N tn d ∧ RowsTo N d N L) ∨ ((n ≠ M ∨ ¬ (0 ≤ t ∧ t < (N : Int))) ∧ L = [])
theorem RowsAns.same {N M n : Nat} {hd rv : Nat → Nat} {X : List Int} {t : Int} {L L' : List (List Nat)} (h : RowsAns N M n hd rv X t L) (h' : RowsAns N M n hd rv X t L') : L = L' := by
  rcases h with ⟨hn, tn, ht, htN, d, hD, hR⟩ | ⟨hn, rfl⟩
  · rcases h' with ⟨hn', tn', ht', htN', d', hD', hR'⟩ | ⟨hn', rfl⟩
    · obtain rfl : tn = tn' := by omega
      exact hR.same hR' (hD.same hD' fun _ _ _ _ => Iff.rfl)
    · exfalso; omega
  · rcases h' with ⟨hn', tn', ht', htN', d', hD', hR'⟩ | ⟨hn', rfl⟩
    · exfalso; omega
    · rfl
theorem RowsAns.small {N M n : Nat} {hd rv : Nat → Nat} {X : List Int} {t : Int} {L : List (List Nat)} (h : RowsAns N M n hd rv X t L) : L.length ≤ N ∧ ∀ l ∈ L, l.length ≤ N := by
  rcases h with ⟨hn, tn, ht, htN, d, hD, hR⟩ | ⟨hn, rfl⟩
  · refine ⟨rows_len hR, fun l hl => ?_⟩
    obtain ⟨k, hk⟩ := List.getElem?_of_mem hl
    rw [hR.ent k l hk]
    exact rowK_len d N k
  · exact ⟨Nat.zero_le _, fun l hl => by simp at hl⟩
/-- Rows are answered, of which P holds. -/
def RetRowsP (P : List (List Nat) → Prop) (w : World) (e : Ending) (w' : World) : Prop :=
  ∃ (A : Option Addr) (n c : Nat) (L : List (List Nat)), e = .returned (.slice A n c) ∧ RowsAt w' w'.heap.size A n L ∧ P L ∧ Below w.heap.size w w'
theorem ret_norows {P : List (List Nat) → Prop} {w w' : World} (hP : P []) (hB : Below w.heap.size w w') : RetRowsP P w (.returned (.slice none 0 0)) w' := ⟨none, 0, 0, [], rfl, ⟨rfl, fun h => by omega⟩, hP, hB⟩
theorem Hx.less {w0 w : World} {base : Nat} {rs : List Rw} {r : Rw} (h : Hx w0 w base (rs ++ [r])) : Hx w0 w base rs :=
  ⟨⟨fun i s hs => h.held.own i s (by rw [List.getElem?_append_left (List.getElem?_eq_some_iff.1 hs).1]; exact hs), fun i j s s' hij hs hs' => h.held.ne i j s s' hij (by rw [List.getElem?_append_left (List.getElem?_eq_some_iff.1 hs).1]; exact hs) (by rw [List.getElem?_append_left (List.getElem?_eq_some_iff.1 hs').1]; exact hs')⟩, h.bas, h.bel⟩

theorem InnerOf.snoc {L : List (List Nat)} {inner : List Rw} {l : List Nat} {row : Rw} (h : InnerOf L inner) (ht : row.t = 3) (hn : row.n = l.length) (hx : row.xs = nvs l) : InnerOf (L ++ [l]) (inner ++ [row]) := by
  have h2 := h.grow.put (k := L.length) (l := l) (r := row) ht hn hx
  have e1 : (L ++ [[]]).set L.length l = L ++ [l] := by simp
  have e2 : (inner ++ [(⟨3, none, 0, 0, []⟩ : Rw)]).set L.length row = inner ++ [row] := by rw [← h.1]; simp
  rw [e1, e2] at h2
  exact h2

set_option maxHeartbeats 4000000 in
theorem drows_any (N M : Nat) (S T : Int) (K : CsrS) (fst hd rv : Nat → Nat) (AX : Option Addr) (n cX : Nat) (X : List Int) (t : Int) (w : World) (hG : Grid N M fst hd rv) (hI : GridIn w w.heap.size N M K fst hd rv) (hX : Ints w w.heap.size AX n X) (hM : M ≤ 100000000) (hN : N ≤ 4096) :
    Calls Try.prog 19 #[csrW N M S T K, .slice AX n cX, .int .i64 t] w (RetRowsP (RowsAns N M n hd rv X t) w) := by
  by_cases hv : n = M ∧ (0 ≤ t ∧ t < (N : Int))
  · obtain ⟨hn, ht⟩ := hv
    subst hn
    obtain ⟨tn, rfl⟩ := Int.eq_ofNat_of_zero_le ht.1
    refine (rows_good N n S T K fst hd rv AX cX X tn w hG hI hX hM hN (by omega)).mono ?_
    rintro e w' ⟨A, m, c, L, d, rfl, hD, hR, hA, B⟩
    exact ⟨A, m, c, L, rfl, hA, .inl ⟨rfl, tn, rfl, by omega, d, hD, hR⟩, B⟩
  · have hP : RowsAns N M n hd rv X t [] := .inr ⟨by omega, rfl⟩
    have HP := Lib.hid hP; have HG := Lib.hid hG; have HI := Lib.hid hI; have HX := Lib.hid hX; have HV := Lib.hid hv
    clear hP hG hI hX hv
    obtain ⟨AF, cF, AH, cH, AR, cR, AC, cC, AA, cA, AB, cB⟩ := K
    dsimp only [csrW]
    go_enter Try.func19, Try.ntmps19
    go_wp2_with fail
    refine (dto_any N M S T ⟨AF, cF, AH, cH, AR, cR, AC, cC, AA, cA, AB, cB⟩ fst hd rv AX n cX X t _ HG.out (HI.out.onAlloc _) (HX.out.onAlloc _) hM hN).mono ?_
    rintro e w1 ⟨A, m, c, l, rfl, I, hm, hA, B1⟩
    have hm0 : m = 0 := by
      have hl := I.len
      have := HV.out
      rcases hA with ⟨h1, tn, h2, h3, d, _, rfl⟩ | ⟨_, rfl⟩
      · omega
      · simpa using hl.symm
    subst hm0
    have HB := Lib.hid (below_step (below_alloc (w := w) _) B1)
    clear I hA B1
    go_wp2_with fail
    go_loopw [7, 15] (fun s7 s15 wr => s7 = .slice none 0 0 ∧ s15 = .int .i64 0 ∧ Below w.heap.size w wr) (fun _ _ _ => 0)
    case atStart => exact ⟨rfl, rfl, HB.out⟩
    case round =>
      obtain ⟨rfl, rfl, hBr⟩ := hrel
      have HBr := Lib.hid hBr
      clear hBr
      go_wp2_with fail
      go_ret
      exact ret_norows HP.out HBr.out

set_option maxHeartbeats 8000000 in
theorem rrows_any (N M : Nat) (S T : Int) (K : CsrS) (fst hd rv : Nat → Nat) (AX : Option Addr) (n cX : Nat) (X : List Int) (t : Int) (w : World) (hG : Grid N M fst hd rv) (hI : GridIn w w.heap.size N M K fst hd rv) (hX : Ints w w.heap.size AX n X) (hM : M ≤ 100000000) (hN : N ≤ 4096) :
    Calls Try.prog 20 #[csrW N M S T K, .slice AX n cX, .int .i64 t] w (RetRowsP (RowsAns N M n hd rv X t) w) := by
  have HG := Lib.hid hG; have HI := Lib.hid hI; have HX := Lib.hid hX
  clear hG hI hX
  obtain ⟨AF, cF, AH, cH, AR, cR, AC, cC, AA, cA, AB, cB⟩ := K
  dsimp only [csrW]
  go_enter Try.func20, Try.ntmps20
  go_wp2_with fail
  refine (rto_any N M S T ⟨AF, cF, AH, cH, AR, cR, AC, cC, AA, cA, AB, cB⟩ fst hd rv AX n cX X t _ HG.out (HI.out.onAlloc _) (HX.out.onAlloc _) hM hN).mono ?_
  rintro e w1 ⟨AD, m, cD, l, rfl, I1, hm, hA, B1⟩
  have K1 : Blk w1 w.heap.size 29 #[.int .i64 (N : Int), .int .i64 S, .int .i64 T, .slice AF (N + 1) cF, .slice AH M cH, .slice AR M cR, .slice AC M cC, .slice AA M cA, .slice AB M cB] := (Blk.new rfl).below B1 (by simp)
  have Bw1 := below_step (below_alloc _) B1
  have HK1 := Lib.hid K1; have HB1 := Lib.hid Bw1
  clear K1 Bw1 B1
  go_wp2_with fail
  rcases hA with ⟨hn, tn, ht, htN, d, hD, rfl⟩ | ⟨hn, rfl⟩
  case inr =>
    obtain rfl : m = 0 := by have := I1.len; simpa using this.symm
    have HP := Lib.hid (show RowsAns N M n hd rv X t [] from .inr ⟨hn, rfl⟩)
    clear hn I1
    go_loopw [8, 9] (fun s8 s9 wr => s8 = .slice none 0 0 ∧ s9 = .int .i64 0 ∧ Below w1.heap.size w1 wr) (fun _ _ _ => 0)
    case atStart => exact ⟨rfl, rfl, Below.refl _ _⟩
    case round =>
      obtain ⟨rfl, rfl, hBr⟩ := hrel
      have K2 := HK1.out.below hBr HK1.out.lt
      have k0 := K2.cell 0
      simp only [List.getElem?_toArray, List.getElem?_cons_zero] at k0
      have hzk := K2.lt
      have HBr := Lib.hid (below_step HB1.out hBr)
      clear hBr K2
      by_cases hN0 : N = 0
      · subst hN0
        go_wp2_with fail
        go_ret
        exact ret_norows HP.out HBr.out
      · have g1 : decide (0 < N) = true := decide_eq_true (by omega)
        have g2 : decide (0 < (N : Int)) = true := decide_eq_true (by omega)
        go_wp2_with fail
        go_ret
        exact ret_norows HP.out HBr.out
  case inl =>
    subst hn; subst ht
    obtain rfl : m = N := by have := I1.len; rw [tab_len] at this; exact this.symm
    have HD := Lib.hid hD; have HD1 := Lib.hid I1
    have X0 : Hx w1 w1 w1.heap.size [⟨26, none, 0, 0, []⟩] := (Hx.start rfl).nil 26
    have hX0 := Lib.hid X0
    clear X0 hD I1
    go_loopw [8, 9] (fun q i wr => ∃ (k : Nat) (L : List (List Nat)) (inner : List Rw) (AO : Option Addr) (cO : Nat), k ≤ m ∧ i = .int .i64 k ∧ q = .slice AO L.length cO ∧ RowsUp m d k L ∧ InnerOf L inner ∧
      Hx w1 wr w1.heap.size (⟨26, AO, L.length, cO, inner.map Rw.v⟩ :: inner)) (fun _ i _ => m - (intOf i).toNat)
    case atStart => exact ⟨0, [], [], none, 0, Nat.zero_le _, rfl, rfl, RowsUp.zero, ⟨rfl, fun k r l h => by simp at h⟩, hX0.out⟩
    case round =>
      clear hX0
      obtain ⟨k, L, inner, AO, cO, hk, rfl, rfl, hR, hIn, H⟩ := hrel
      have K2 := HK1.out.below H.bel HK1.out.lt
      have k0 := K2.cell 0
      simp only [List.getElem?_toArray, List.getElem?_cons_zero] at k0
      have hzk := K2.lt
      have hm0 : 0 < m := by omega
      have g1 : decide (0 < m) = true := decide_eq_true hm0
      have hLl := hR.len
      have HR := Lib.hid hR; have HIN := Lib.hid hIn; have HH := Lib.hid H
      clear hR hIn H K2
      by_cases hlt : k < m
      · go_wp2_with fail
        clear k0 hzk
        have H1 : Hid (Hx w1 wr w1.heap.size ((⟨26, AO, L.length, cO, inner.map Rw.v⟩ :: inner) ++ [⟨3, none, 0, 0, nvs (rowK d 0 k)⟩])) := Lib.hid (HH.out.nil 3)
        clear HH
        go_loopw [10, 11] (fun q i wr => ∃ (v : Nat) (AR : Option Addr) (cR : Nat), v ≤ m ∧ i = .int .i64 v ∧ q = .slice AR (rowK d v k).length cR ∧ Hx w1 wr w1.heap.size ((⟨26, AO, L.length, cO, inner.map Rw.v⟩ :: inner) ++ [⟨3, AR, (rowK d v k).length, cR, nvs (rowK d v k)⟩])) (fun _ i _ => m - (intOf i).toNat)
        case atStart => exact ⟨0, none, 0, Nat.zero_le _, rfl, rfl, H1.out⟩
        case round =>
          clear H1
          obtain ⟨v, AR, cR, hv, rfl, rfl, H⟩ := hrel
          have K2 := HK1.out.below H.bel HK1.out.lt
          have k0 := K2.cell 0
          simp only [List.getElem?_toArray, List.getElem?_cons_zero] at k0
          have hzk := K2.lt
          have hrl : (rowK d v k).length ≤ m := Nat.le_trans (rowK_len d v k) hv
          have HH := Lib.hid H
          by_cases hvl : v < m
          · obtain ⟨bD, oD, hAD⟩ := HD1.out.adr (by omega)
            subst hAD
            obtain ⟨hbD, cd⟩ := tab_cell (HD1.out.below H.bel) hvl
            have hzw := H.bel.size
            have hsucc := rowK_succ d v k
            clear H K2
            obtain ⟨x, hx⟩ : ∃ x, d v = x := ⟨_, rfl⟩
            rw [hx] at cd hsucc
            clear hx
            by_cases hxk : x = k
            · rw [if_pos hxk] at hsucc
              have HS := Lib.hid hsucc
              subst hxk
              clear hsucc
              have hbD' : bD < wr.heap.size := by omega
              have hIx : Hid (((⟨26, AO, L.length, cO, inner.map Rw.v⟩ : Rw) :: inner ++ [⟨3, AR, (rowK d v x).length, cR, nvs (rowK d v x)⟩])[inner.length + 1]? = some ⟨3, AR, (rowK d v x).length, cR, nvs (rowK d v x)⟩) := Lib.hid (by simp)
              go_wp2_with (at_builtin; refine wp_appH HH.out rfl (.tmp 39) (.tmp 41) _ _ _ rfl one_int.wide (inner.length + 1) (rowK d v x).length cR AR _ (.int .i64 (v : Int)) hIx.out rfl rfl rfl (by omega) (by simp) ?_)
              intro A4 c4 w4 HX4 HB4
              have X4 : Hid (Hx w1 w4 w1.heap.size ((⟨26, AO, L.length, cO, inner.map Rw.v⟩ :: inner) ++ [⟨3, A4, (rowK d (v + 1) x).length, c4, nvs (rowK d (v + 1) x)⟩])) := by
                have h := HX4.out
                rw [HS.out]
                unfold nvs at h ⊢
                rw [List.map_append, List.length_append]
                exact Lib.hid (by simpa using h)
              have hlen2 : Hid ((rowK d (v + 1) x).length = (rowK d v x).length + 1) := Lib.hid (by rw [HS.out]; simp)
              clear HX4 HB4 HH k0 hzk cd
              go_wp2_with fail
              go_roundw
              case rel => exact ⟨v + 1, A4, c4, by omega, by go_num, by rw [hlen2.out], X4.out⟩
              case measure => simp [intOf]; omega
            · rw [if_neg hxk, List.append_nil] at hsucc
              have HS := Lib.hid hsucc
              have e1 : ((x : Int) == (k : Int)) = false := beq_eq_false_iff_ne.2 (by omega)
              have e2 : ¬ (x : Int) = (k : Int) := by omega
              have e3 : decide (x = k) = false := decide_eq_false hxk
              have hbD' : bD < wr.heap.size := by omega
              clear hsucc
              go_wp2_with fail
              go_roundw
              case rel => exact ⟨v + 1, AR, cR, by omega, by go_num, by rw [HS.out], by rw [HS.out]; exact HH.out⟩
              case measure => simp [intOf]; omega
          · obtain rfl : v = m := by omega
            clear H K2
            by_cases hrn : (rowK d v k).length = 0
            · have hnil : rowK d v k = [] := List.eq_nil_of_length_eq_zero hrn
              have HR2 := Lib.hid (HR.out.skip hnil)
              have HH2 := Lib.hid HH.out.less
              have e1 : decide (0 < (rowK d v k).length) = false := decide_eq_false (by omega)
              have e2 : decide (0 < ((rowK d v k).length : Int)) = false := decide_eq_false (by omega)
              clear HH hnil
              generalize (rowK d v k).length = rl at *
              go_wp2_with fail
              go_roundw
              case rel => exact ⟨k + 1, L, inner, AO, cO, by omega, by go_num, rfl, HR2.out, HIN.out, HH2.out⟩
              case measure => simp [intOf]; omega
            · have HR2 := Lib.hid (HR.out.add HD.out htN hlt (fun e => hrn (by rw [e]; rfl)))
              have e1 : decide (0 < (rowK d v k).length) = true := decide_eq_true (by omega)
              have e2 : decide (0 < ((rowK d v k).length : Int)) = true := decide_eq_true (by omega)
              obtain ⟨r, hr⟩ : ∃ r, rowK d v k = r := ⟨_, rfl⟩
              rw [hr] at HH HR2 e1 e2 hrn hrl
              have hLm : L.length ≤ 1000000 := by omega
              go_wp2_with (at_builtin; refine wp_appH HH.out rfl (.tmp 46) (.tmp 48) _ _ _ rfl one_slice 0 L.length cO AO _ (.slice AR r.length cR) rfl rfl rfl rfl (by omega) (by simp) ?_)
              intro A4 c4 w4 HX4 HB4
              have X4 : Hid (Hx w1 w4 w1.heap.size (⟨26, A4, (L ++ [r]).length, c4, (inner ++ [(⟨3, AR, r.length, cR, nvs r⟩ : Rw)]).map Rw.v⟩ :: (inner ++ [(⟨3, AR, r.length, cR, nvs r⟩ : Rw)]))) := by
                have h := HX4.out
                rw [List.map_append, List.length_append]
                exact Lib.hid (by simpa using h)
              have HIN2 := Lib.hid (HIN.out.snoc (l := r) (row := ⟨3, AR, r.length, cR, nvs r⟩) rfl rfl rfl)
              clear HX4 HB4 HH k0 hzk
              go_wp2_with fail
              go_roundw
              case rel => exact ⟨k + 1, L ++ [r], inner ++ [⟨3, AR, r.length, cR, nvs r⟩], A4, c4, by omega, by go_num, by rw [List.length_append]; rfl, HR2.out, HIN2.out, X4.out⟩
              case measure => simp [intOf]; omega
      · obtain rfl : k = m := by omega
        have HP := Lib.hid (show RowsAns k n n hd rv X (tn : Int) L from .inl ⟨rfl, tn, rfl, htN, d, HD.out, HR.out.done⟩)
        go_wp2_with fail
        go_ret
        exact ⟨AO, L.length, cO, L, rfl, HH.out.rows HIN.out, HP.out, below_step HB1.out HH.out.bel⟩

end Go.Proofs.Ytdbfngamplkjeaa
