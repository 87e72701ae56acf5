/- Layer 8: a net whose arcs are told in another order, joined, or turned: the same value. -/
import Derived.Test.YtfcjmhihheeifaaFcmp
namespace Go.Proofs.Ytfcjmhihheeifaa
open Go.RowKit
set_option maxRecDepth 100000

/-! In another order. -/
def rotL (l : List ArcN) (i : Nat) : List ArcN := l.drop i ++ l.take i
theorem rot_len (l : List ArcN) (i : Nat) : (rotL l i).length = l.length := by simp [rotL]; omega
theorem capX_rot (K : List Bool) (l : List ArcN) (i : Nat) : capX K (rotL l i) = capX K l := by
  have := congrArg (capX K) (List.take_append_drop i l)
  rw [capX_append] at this
  unfold rotL
  rw [capX_append]
  omega
theorem total_rot (l : List ArcN) (i : Nat) : total (rotL l i) = total l := by
  have := congrArg total (List.take_append_drop i l)
  rw [total_append] at this
  unfold rotL
  rw [total_append]
  omega
theorem mem_rot {l : List ArcN} {i : Nat} {a : ArcN} (h : a ∈ rotL l i) : a ∈ l := by
  rcases List.mem_append.1 h with h | h
  · exact List.mem_of_mem_drop h
  · exact List.mem_of_mem_take h
theorem rot_check {N : Nat} {S T : Int} {l : List ArcN} (i : Nat) (hck : checkF N S T l = 0) : checkF N S T (rotL l i) = 0 := by
  obtain ⟨h1, h2, h3, h4, h5, h6, h7, h8, h9, h10, h11⟩ := ends_in hck
  exact check_of h1 h2 (by rw [rot_len]; omega) (fun a ha => h4 a (mem_rot ha)) h5 h6 h7 h8 h9 (fun a ha => h10 a (mem_rot ha)) (by rw [total_rot]; exact h11)

/-! Joined. -/
theorem addAt_all (K : List Bool) (c : Int) : ∀ (J : List ArcN) (i : Nat) (b : ArcN), J[i]? = some b →
    capX K (addAt J i c) = capX K J + (if outB K b then c else 0) ∧ total (addAt J i c) = total J + c ∧ (addAt J i c).length = J.length ∧ ∀ x ∈ addAt J i c, ∃ y ∈ J, x.frm = y.frm ∧ x.to = y.to ∧ (x.cap = y.cap ∨ x.cap = y.cap + c)
  | [], i, b, h => by simp at h
  | x :: r, 0, b, h => by
    simp at h; subst h
    have e : addAt (x :: r) 0 c = ⟨x.frm, x.to, x.cap + c⟩ :: r := by simp [addAt]
    rw [e]
    have : outB K ⟨x.frm, x.to, x.cap + c⟩ = outB K x := rfl
    refine ⟨?_, by simp only [total]; omega, rfl, fun y hy => ?_⟩
    · simp only [capX, this]
      split <;> omega
    · rcases List.mem_cons.1 hy with rfl | hy
      · exact ⟨x, by simp, rfl, rfl, .inr rfl⟩
      · exact ⟨y, by simp [hy], rfl, rfl, .inl rfl⟩
  | x :: r, i + 1, b, h => by
    obtain ⟨h1, h2, h3, h4⟩ := addAt_all K c r i b (by simpa using h)
    have e : addAt (x :: r) (i + 1) c = x :: addAt r i c := by simp [addAt]
    rw [e]
    refine ⟨by simp only [capX, h1]; omega, by simp only [total, h2]; omega, by simp [h3], fun y hy => ?_⟩
    rcases List.mem_cons.1 hy with rfl | hy
    · exact ⟨y, by simp, rfl, rfl, .inl rfl⟩
    · obtain ⟨z, hz, g⟩ := h4 y hy
      exact ⟨z, by simp [hz], g⟩
theorem step_all (K : List Bool) {N : Nat} (st : List ArcN × List Int) (a : ArcN) (hN : NonNeg st.1) (hE : EndsIn N st.1) (ha : 0 ≤ a.cap) (hA : 0 ≤ a.frm ∧ a.frm < N ∧ 0 ≤ a.to ∧ a.to < N) :
    capX K (joinStep st a).1 = capX K st.1 + (if outB K a then a.cap else 0) ∧ total (joinStep st a).1 ≤ total st.1 + a.cap ∧ (joinStep st a).1.length ≤ st.1.length + 1 ∧ NonNeg (joinStep st a).1 ∧ EndsIn N (joinStep st a).1 := by
  obtain ⟨J, o⟩ := st
  by_cases e : a.frm = a.to
  · rw [joinStep_loop e]
    have : outB K a = false := by simp [outB, e]
    rw [this]
    exact ⟨by simp, by show total J ≤ total J + a.cap; omega, by show J.length ≤ J.length + 1; omega, hN, hE⟩
  · cases hi : idxOf J (a.frm, a.to) with
    | none =>
      rw [joinStep_new e hi]
      refine ⟨?_, ?_, by simp, fun x hx => ?_, fun x hx => ?_⟩
      · show capX K (J ++ [a]) = _
        rw [capX_append]; simp [capX]
      · show total (J ++ [a]) ≤ _
        rw [total_append]; simp [total]
      · rcases List.mem_append.1 hx with hx | hx
        · exact hN x hx
        · simp at hx; subst hx; exact ha
      · rcases List.mem_append.1 hx with hx | hx
        · exact hE x hx
        · simp at hx; subst hx; exact hA
    | some i =>
      obtain ⟨b, hb, e1, e2⟩ := idxOf_at hi
      obtain ⟨h1, h2, h3, h4⟩ := addAt_all K a.cap J i b hb
      have hob : outB K b = outB K a := by unfold outB; rw [e1, e2]
      rw [joinStep_known e hi]
      refine ⟨by rw [← hob]; exact h1, by show total (addAt J i a.cap) ≤ total J + a.cap; omega, by show (addAt J i a.cap).length ≤ J.length + 1; omega, fun x hx => ?_, fun x hx => ?_⟩
      · obtain ⟨y, hy, -, -, g⟩ := h4 x hx
        have := hN y hy
        omega
      · obtain ⟨y, hy, g1, g2, -⟩ := h4 x hx
        rw [g1, g2]
        exact hE y hy
theorem fold_all (K : List Bool) {N : Nat} : ∀ (l : List ArcN) (st : List ArcN × List Int), NonNeg st.1 → EndsIn N st.1 → NonNeg l → EndsIn N l →
    capX K (l.foldl joinStep st).1 = capX K st.1 + capX K l ∧ total (l.foldl joinStep st).1 ≤ total st.1 + total l ∧ (l.foldl joinStep st).1.length ≤ st.1.length + l.length ∧ NonNeg (l.foldl joinStep st).1 ∧ EndsIn N (l.foldl joinStep st).1
  | [], st, h1, h2, _, _ => by simp [capX, total, h1, h2]
  | a :: r, st, h1, h2, h3, h4 => by
    obtain ⟨g1, g2, g3, g4, g5⟩ := step_all K st a h1 h2 (h3 a (by simp)) (h4 a (by simp))
    obtain ⟨k1, k2, k3, k4, k5⟩ := fold_all K r (joinStep st a) g4 g5 (fun b hb => h3 b (by simp [hb])) (fun b hb => h4 b (by simp [hb]))
    simp only [List.foldl_cons, capX, total, List.length_cons]
    exact ⟨by omega, by omega, by omega, k4, k5⟩
theorem capX_join (K : List Bool) {N : Nat} {l : List ArcN} (h1 : NonNeg l) (h2 : EndsIn N l) : capX K (joinOf l).1 = capX K l := by
  have := (fold_all K l ([], []) (fun a ha => by simp at ha) (fun a ha => by simp at ha) h1 h2).1
  simpa [capX, joinOf] using this
theorem join_check {N : Nat} {S T : Int} {l : List ArcN} (hck : checkF N S T l = 0) : checkF N S T (joinOf l).1 = 0 := by
  obtain ⟨h1, h2, h3, h4, h5, h6, h7, h8, h9, h10, h11⟩ := ends_in hck
  obtain ⟨-, g2, g3, g4, g5⟩ := fold_all [] l ([], []) (fun a ha => by simp at ha) (fun a ha => by simp at ha) h10 h4
  simp only [total, List.length_nil] at g2 g3
  exact check_of h1 h2 (by unfold joinOf; omega) g5 h5 h6 h7 h8 h9 g4 (by unfold joinOf; omega)
theorem join_len (l : List ArcN) {N : Nat} {S T : Int} (hck : checkF N S T l = 0) : (joinOf l).1.length ≤ l.length := by
  obtain ⟨h1, h2, h3, h4, h5, h6, h7, h8, h9, h10, h11⟩ := ends_in hck
  obtain ⟨-, g2, g3, g4, g5⟩ := fold_all [] l ([], []) (fun a ha => by simp at ha) (fun a ha => by simp at ha) h10 h4
  simp only [List.length_nil] at g3
  unfold joinOf; omega

/-! Turned. -/
def notL (K : List Bool) : List Bool := K.map not
theorem not_in {K : List Bool} {v : Int} (h0 : 0 ≤ v) (h1 : v < K.length) : inS (notL K) v = !inS K v := by
  obtain ⟨u, rfl⟩ := Int.eq_ofNat_of_zero_le h0
  have hu : u < K.length := by omega
  simp [inS, notL, hu]
theorem capX_turn {K : List Bool} {N : Nat} (hK : K.length = N) : ∀ {l : List ArcN}, EndsIn N l → capX K (l.map turnArc) = capX (notL K) l
  | [], _ => rfl
  | a :: r, h => by
    have ih := capX_turn hK (l := r) fun b hb => h b (by simp [hb])
    obtain ⟨h1, h2, h3, h4⟩ := h a (by simp)
    have e : outB K (turnArc a) = outB (notL K) a := by
      unfold outB turnArc
      rw [not_in h1 (by omega), not_in h3 (by omega)]
      simp [Bool.and_comm]
    simp only [List.map_cons, capX, ih, e]
    rfl
theorem cut_turn {N : Nat} {S T : Int} {K : List Bool} (h : IsCut N S T K) (h1 : 0 ≤ S) (h2 : S < N) (h3 : 0 ≤ T) (h4 : T < N) : IsCut N T S (notL K) := by
  have hl := h.len
  refine ⟨by simp [notL, hl], ?_, ?_⟩
  · rw [not_in h3 (by omega), h.snk]; rfl
  · rw [not_in h1 (by omega), h.src]; rfl
theorem not_not_L (K : List Bool) : notL (notL K) = K := by
  induction K with
  | nil => rfl
  | cons a r ih => simp [notL] at ih ⊢; exact ih
theorem total_turn : ∀ l : List ArcN, total (l.map turnArc) = total l
  | [] => rfl
  | a :: r => by simp only [List.map_cons, total, total_turn r]; rfl
theorem turn_check {N : Nat} {S T : Int} {l : List ArcN} (hck : checkF N S T l = 0) : checkF N T S (l.map turnArc) = 0 := by
  obtain ⟨h1, h2, h3, h4, h5, h6, h7, h8, h9, h10, h11⟩ := ends_in hck
  refine check_of h1 h2 (by simp; omega) (fun a ha => ?_) h7 h8 h5 h6 (Ne.symm h9) (fun a ha => ?_) (by rw [total_turn]; exact h11)
  · obtain ⟨b, hb, rfl⟩ := List.mem_map.1 ha
    obtain ⟨g1, g2, g3, g4⟩ := h4 b hb
    exact ⟨g3, g4, g1, g2⟩
  · obtain ⟨b, hb, rfl⟩ := List.mem_map.1 ha
    exact h10 b hb
theorem LeastCut.turn {N s t : Nat} {l : List ArcN} {v v' : Int} (hE : EndsIn N l) (hs : s < N) (ht : t < N) (h : LeastCut N s t l v) (h' : LeastCut N t s (l.map turnArc) v') : v' = v := by
  obtain ⟨K, hK, e1⟩ := h.ex
  obtain ⟨K', hK', e2⟩ := h'.ex
  have a := h.low _ (cut_turn hK' (by omega) (by omega) (by omega) (by omega))
  have b := h'.low _ (cut_turn hK (by omega) (by omega) (by omega) (by omega))
  have c1 := capX_turn (K := K') hK'.len hE
  have c2 := capX_turn (K := notL K) (N := N) (by simp [notL, hK.len]) hE
  rw [not_not_L] at c2
  omega

end Go.Proofs.Ytfcjmhihheeifaa
