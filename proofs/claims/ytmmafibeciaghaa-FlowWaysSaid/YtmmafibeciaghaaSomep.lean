/- Plain facts: a net that Some makes is right. -/
import Derived.Test.YtmmafibeciaghaaSome
import Derived.Test.YtmmafibeciaghaaJoinp
namespace Go.Proofs.Ytmmafibeciaghaa
open Go.RowKit

theorem sum_small : ∀ (l : List ArcN) (s : Int), 0 ≤ s → (∀ a ∈ l, 0 ≤ a.cap ∧ a.cap < 1125899906842624) → s + l.length * 1125899906842624 ≤ 4611686018427387904 → ∃ r, sumFrom s l = some r
  | [], s, _, _, _ => ⟨s, rfl⟩
  | a :: r, s, h0, h1, h2 => by
    have ha := h1 a (by simp)
    simp only [List.length_cons, Int.natCast_add, Int.natCast_one] at h2
    obtain ⟨x, hx⟩ := sum_small r (s + a.cap) (by omega) (fun b hb => h1 b (by simp [hb])) (by omega)
    exact ⟨x, by rw [sumFrom, if_neg (by unfold maxSum; omega)]; exact hx⟩

theorem someCap_in (c : Int) : 0 ≤ someCap c ∧ someCap c < 1125899906842624 := ⟨Int.emod_nonneg _ (by omega), Int.emod_lt_of_pos _ (by omega)⟩
theorem someL_mem {M : Int} {q : Nat} {l : List ArcN} (hM : 0 < M) {a : ArcN} (ha : a ∈ someL M q l) : 0 ≤ a.frm ∧ a.frm < M ∧ 0 ≤ a.to ∧ a.to < M ∧ 0 ≤ a.cap ∧ a.cap < 1125899906842624 := by
  obtain ⟨b, _, rfl⟩ := List.mem_map.1 ha
  exact ⟨Int.emod_nonneg _ (by omega), Int.emod_lt_of_pos _ hM, Int.emod_nonneg _ (by omega), Int.emod_lt_of_pos _ hM, (someCap_in _).1, (someCap_in _).2⟩
theorem someL_len (M : Int) (q : Nat) (l : List ArcN) : (someL M q l).length ≤ q := by simp [someL]; omega

theorem some_check (N S T : Int) (v q : Nat) (l : List ArcN) (hv : 2 ≤ v) (hv' : v ≤ 1000) (hq : q ≤ 1000) :
    checkF (someN N v) (S % someN N v) (someT (someN N v) S T) (someL (someN N v) q l) = 0 := by
  have hm1 := Int.emod_nonneg N (show (v : Int) - 1 ≠ 0 by omega)
  have hm2 := Int.emod_lt_of_pos N (show (0 : Int) < (v : Int) - 1 by omega)
  have hM1 : 2 ≤ someN N v := by unfold someN; omega
  have hM2 : someN N v ≤ 1001 := by unfold someN; omega
  generalize someN N v = M at *
  have hs1 := Int.emod_nonneg S (show M ≠ 0 by omega)
  have hs2 := Int.emod_lt_of_pos S (show 0 < M by omega)
  have ht1 := Int.emod_nonneg T (show M ≠ 0 by omega)
  have ht2 := Int.emod_lt_of_pos T (show 0 < M by omega)
  have hlen := someL_len M q l
  have h1 : vertsB M = true := by simp [vertsB]; omega
  have h3 : endsB M (S % M) (someT M S T) = true := by
    unfold someT
    split
    · rename_i h
      have e1 := Int.emod_nonneg (S % M + 1) (show M ≠ 0 by omega)
      have e2 := Int.emod_lt_of_pos (S % M + 1) (show 0 < M by omega)
      have e3 : (S % M + 1) % M ≠ S % M := by
        by_cases h : S % M + 1 < M
        · rw [Int.emod_eq_of_lt (by omega) h]; omega
        · rw [show S % M + 1 = M by omega, Int.emod_self]; omega
      simp only [endsB, isVertB, Bool.and_eq_true, decide_eq_true_eq]
      exact ⟨⟨hs1, hs2⟩, ⟨e1, e2⟩, fun e => e3 e.symm⟩
    · rename_i h
      simp only [endsB, isVertB, Bool.and_eq_true, decide_eq_true_eq]
      exact ⟨⟨hs1, hs2⟩, ⟨ht1, ht2⟩, h⟩
  have h4 : betweenB M (someL M q l) = true := by
    refine List.all_eq_true.2 fun a ha => ?_
    have := someL_mem (by omega) ha
    simp [isVertB]; omega
  have h5 : capsB (someL M q l) = true := by
    refine List.all_eq_true.2 fun a ha => ?_
    have := someL_mem (by omega) ha
    simp; omega
  have h6 : sumB (someL M q l) = true := by
    obtain ⟨r, hr⟩ := sum_small (someL M q l) 0 (by omega) (fun a ha => by have := someL_mem (by omega) ha; omega) (by omega)
    unfold sumB sumOf
    rw [hr]; rfl
  simp [checkF, h1, h3, h4, h5, h6]
  omega
/-- What a net that Some made is like, its number of vertices a natural number. -/
theorem some_net (N S T : Int) (v q : Nat) (l : List ArcN) (hv : 2 ≤ v) (hv' : v ≤ 1000) (hq : q ≤ 1000) :
    ∃ N1 : Nat, someN N v = (N1 : Int) ∧ 2 ≤ N1 ∧ N1 ≤ 1001 ∧ checkF (N1 : Int) (S % someN N v) (someT (someN N v) S T) (someL (someN N v) q l) = 0 ∧ (someL (someN N v) q l).length ≤ q ∧
      ∀ a ∈ someL (someN N v) q l, 0 ≤ a.frm ∧ a.frm < N1 ∧ 0 ≤ a.to ∧ a.to < N1 ∧ 0 ≤ a.cap ∧ a.cap < 1125899906842624 := by
  have hm1 := Int.emod_nonneg N (show (v : Int) - 1 ≠ 0 by omega)
  have hm2 := Int.emod_lt_of_pos N (show (0 : Int) < (v : Int) - 1 by omega)
  have hM1 : 2 ≤ someN N v := by unfold someN; omega
  have hM2 : someN N v ≤ 1001 := by unfold someN; omega
  obtain ⟨N1, hN1⟩ := Int.eq_ofNat_of_zero_le (show 0 ≤ someN N v by omega)
  refine ⟨N1, hN1, by omega, by omega, ?_, someL_len _ _ _, fun a ha => ?_⟩
  · rw [← hN1]; exact some_check N S T v q l hv hv' hq
  · rw [← hN1]; exact someL_mem (by omega) ha

/-- A net that Some made, stored. -/
theorem some_stored {w w1 : World} {base n1 c1 : Nat} {A1 : Option Addr} {l1 : List ArcN} {u0 u1 u2 u3 : Value} (K1 : Blk w1 w.heap.size 24 #[u0, u1, u2, u3]) (o1 : w1.ownsRow base 50 3 (.slice A1 n1 c1) n1 (l1.flatMap arcCells)) (hl1 : l1.length = n1) (Bw1 : Below w.heap.size w w1) (v0 v1 v2 : Value) :
    Blk ((((w1.setCell ⟨w.heap.size, 0, none⟩ v0).setCell ⟨w.heap.size, 1, none⟩ v1).setCell ⟨w.heap.size, 2, none⟩ v2).setCell ⟨w.heap.size, 3, none⟩ (.slice A1 n1 c1)) w.heap.size 24 #[v0, v1, v2, .slice A1 n1 c1] ∧
    Arcs ((((w1.setCell ⟨w.heap.size, 0, none⟩ v0).setCell ⟨w.heap.size, 1, none⟩ v1).setCell ⟨w.heap.size, 2, none⟩ v2).setCell ⟨w.heap.size, 3, none⟩ (.slice A1 n1 c1)) ((((w1.setCell ⟨w.heap.size, 0, none⟩ v0).setCell ⟨w.heap.size, 1, none⟩ v1).setCell ⟨w.heap.size, 2, none⟩ v2).setCell ⟨w.heap.size, 3, none⟩ (.slice A1 n1 c1)).heap.size A1 n1 l1 ∧
    Below w.heap.size w ((((w1.setCell ⟨w.heap.size, 0, none⟩ v0).setCell ⟨w.heap.size, 1, none⟩ v1).setCell ⟨w.heap.size, 2, none⟩ v2).setCell ⟨w.heap.size, 3, none⟩ (.slice A1 n1 c1)) := by
  have hne := own_ne o1 K1 (by decide)
  refine ⟨K1.set4 _ _ _ _, arcs_own (own_far (own_far (own_far (own_far o1 hne _) hne _) hne _) hne _) hl1, ?_⟩
  exact (((Bw1.setCell (by simp) _).setCell (by simp) _).setCell (by simp) _).setCell (by simp) _

end Go.Proofs.Ytmmafibeciaghaa
