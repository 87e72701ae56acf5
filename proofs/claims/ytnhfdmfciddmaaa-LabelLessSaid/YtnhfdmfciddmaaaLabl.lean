/- Layer 6: heights that are lowered; the lower ones and the higher ones of two: plain facts. -/
import Derived.Test.YtnhfdmfciddmaaaLabq
namespace Go.Proofs.Ytnhfdmfciddmaaa

section
variable {N M s t : Nat} {fst hd rv : Nat → Nat} {X H G : List Int}
theorem sumH_le (h : HtIs N s t H) : ∀ k, k ≤ N → 0 ≤ sumH H k ∧ sumH H k ≤ (k : Int) * (N : Int)
  | 0, _ => ⟨Int.le_refl _, by simp [sumH]⟩
  | k + 1, hk => by
    have h1 := sumH_le h k (by omega)
    have h2 := h.bnd k (by omega)
    have e : (((k + 1 : Nat) : Int)) * (N : Int) = (k : Int) * (N : Int) + (N : Int) := by rw [Int.natCast_add, Int.add_mul]; simp
    simp only [sumH]
    rw [e]
    omega
theorem sumH_set {u : Nat} {x : Int} (hu : u < H.length) : ∀ k, sumH (H.set u x) k = sumH H k + if u < k then x - hOf H u else 0
  | 0 => by simp [sumH]
  | k + 1 => by
    simp only [sumH]
    rw [sumH_set hu k, hOf_set hu]
    by_cases e : k = u
    · subst e
      rw [if_neg (by omega), if_pos rfl, if_pos (by omega)]
      omega
    · rw [if_neg e]
      by_cases h : u < k
      · rw [if_pos h, if_pos (by omega)]; omega
      · rw [if_neg h, if_neg (by omega)]; omega
/-- A steep arc's begin is lowered. -/
theorem lower_is (h : HtIs N s t H) {a : Nat} (hG : Grid N M fst hd rv) (ha : a ∈ slps N M s t M hd rv X H qSteep) :
    hd (rv a) ≠ s ∧ hd (rv a) ≠ t ∧ hd (rv a) ≠ hd a ∧ HtIs N s t (H.set (hd (rv a)) (hOf H (hd a) + 1)) ∧ sumH (H.set (hd (rv a)) (hOf H (hd a) + 1)) N + 1 ≤ sumH H N := by
  unfold slps at ha
  rw [if_pos ⟨rfl, rightB_yes.2 h⟩, sel_mem, slp_iff] at ha
  obtain ⟨haM, -, hs, hq⟩ := ha
  unfold qSteep at hq
  rw [decide_eq_true_eq] at hq
  have hu := hG.hdl _ (hG.rvl a haM)
  have hv := hG.hdl a haM
  have b1 := h.bnd _ hu
  have b2 := h.bnd _ hv
  have ht : hd (rv a) ≠ t := fun e => by rw [e, h.snk] at hq; omega
  have hne : hd (rv a) ≠ hd a := fun e => by rw [e] at hq; omega
  have hul : hd (rv a) < H.length := by rw [h.len]; exact hu
  refine ⟨hs, ht, hne, ⟨by simp [h.len], ?_, ?_, fun v hvN => ?_⟩, ?_⟩
  · rw [hOf_set hul, if_neg (fun e => hs e.symm)]; exact h.src
  · rw [hOf_set hul, if_neg (fun e => ht e.symm)]; exact h.snk
  · rw [hOf_set hul]
    split
    · omega
    · exact h.bnd v hvN
  · rw [sumH_set hul, if_pos hu]
    omega
theorem steep_valid (h : HtIs N s t H) (hn : slps N M s t M hd rv X H qSteep = []) : validB N M s t M hd rv X H = true := valid_iff.2 ⟨h, (steep_nil h).1 hn⟩

/-- The lower ones, the higher ones, up to k. -/
def lowTo (N : Nat) (G H : List Int) (k : Nat) : List Int := tab N fun v => if v < k then min (hOf G v) (hOf H v) else 0
def highTo (N : Nat) (G H : List Int) (k : Nat) : List Int := tab N fun v => if v < k then max (hOf G v) (hOf H v) else 0
theorem low_zero : lowTo N G H 0 = List.replicate N 0 := by
  unfold lowTo
  refine (tab_ext (by simp) fun i hi => ?_).symm
  rw [List.getElem?_replicate, if_pos hi, if_neg (by omega)]
theorem high_zero : highTo N G H 0 = List.replicate N 0 := by
  unfold highTo
  refine (tab_ext (by simp) fun i hi => ?_).symm
  rw [List.getElem?_replicate, if_pos hi, if_neg (by omega)]
theorem low_put {k : Nat} : (lowTo N G H k).set k (min (hOf G k) (hOf H k)) = lowTo N G H (k + 1) := by
  unfold lowTo
  rw [tab_set]
  refine tab_congr fun i hi => ?_
  by_cases e : i = k
  · subst e; rw [if_pos rfl, if_pos (by omega)]
  · rw [if_neg e]
    by_cases h : i < k
    · rw [if_pos h, if_pos (by omega)]
    · rw [if_neg h, if_neg (by omega)]
theorem high_put {k : Nat} : (highTo N G H k).set k (max (hOf G k) (hOf H k)) = highTo N G H (k + 1) := by
  unfold highTo
  rw [tab_set]
  refine tab_congr fun i hi => ?_
  by_cases e : i = k
  · subst e; rw [if_pos rfl, if_pos (by omega)]
  · rw [if_neg e]
    by_cases h : i < k
    · rw [if_pos h, if_pos (by omega)]
    · rw [if_neg h, if_neg (by omega)]
theorem low_of {v : Nat} (hv : v < N) : hOf (lowTo N G H N) v = min (hOf G v) (hOf H v) := by
  unfold lowTo
  rw [hOf_at (tab_at hv), if_pos hv]
theorem high_of {v : Nat} (hv : v < N) : hOf (highTo N G H N) v = max (hOf G v) (hOf H v) := by
  unfold highTo
  rw [hOf_at (tab_at hv), if_pos hv]
theorem low_valid (hGr : Grid N M fst hd rv) (hs : s < N) (ht : t < N) (hg : validB N M s t M hd rv X G = true) (hh : validB N M s t M hd rv X H = true) : validB N M s t M hd rv X (lowTo N G H N) = true := by
  obtain ⟨g1, g2⟩ := valid_iff.1 hg
  obtain ⟨h1, h2⟩ := valid_iff.1 hh
  refine valid_iff.2 ⟨⟨tab_len _ _, by rw [low_of hs, g1.src, h1.src]; omega, by rw [low_of ht, g1.snk, h1.snk]; omega, fun v hv => ?_⟩, fun a ha ho hn => ?_⟩
  · have := g1.bnd v hv; have := h1.bnd v hv
    rw [low_of hv]; omega
  · have := g2 a ha ho hn; have := h2 a ha ho hn
    rw [low_of (hGr.hdl _ (hGr.rvl a ha)), low_of (hGr.hdl a ha)]; omega
theorem high_valid (hGr : Grid N M fst hd rv) (hs : s < N) (ht : t < N) (hg : validB N M s t M hd rv X G = true) (hh : validB N M s t M hd rv X H = true) : validB N M s t M hd rv X (highTo N G H N) = true := by
  obtain ⟨g1, g2⟩ := valid_iff.1 hg
  obtain ⟨h1, h2⟩ := valid_iff.1 hh
  refine valid_iff.2 ⟨⟨tab_len _ _, by rw [high_of hs, g1.src, h1.src]; omega, by rw [high_of ht, g1.snk, h1.snk]; omega, fun v hv => ?_⟩, fun a ha ho hn => ?_⟩
  · have := g1.bnd v hv; have := h1.bnd v hv
    rw [high_of hv]; omega
  · have := g2 a ha ho hn; have := h2 a ha ho hn
    rw [high_of (hGr.hdl _ (hGr.rvl a ha)), high_of (hGr.hdl a ha)]; omega
theorem both_sum : ∀ k, k ≤ N → sumH (lowTo N G H N) k + sumH (highTo N G H N) k = sumH G k + sumH H k
  | 0, _ => rfl
  | k + 1, hk => by
    have h1 := both_sum k (by omega)
    simp only [sumH]
    rw [low_of (show k < N by omega), high_of (show k < N by omega)]
    omega
theorem htSum_of (h : validB N M s t M hd rv X H = true) : htSum N s t H = sumH H N := by
  unfold htSum
  rw [if_pos (rightB_yes.2 (valid_iff.1 h).1)]
end

end Go.Proofs.Ytnhfdmfciddmaaa
