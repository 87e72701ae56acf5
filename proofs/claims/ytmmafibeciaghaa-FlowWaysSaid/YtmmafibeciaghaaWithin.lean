/- The statements' own helpers: Within. -/
import Derived.Test.YtmmafibeciaghaaCells
namespace Go.Proofs.Ytmmafibeciaghaa
open Go.RowKit

/-- A flow within the capacities, 0 on loops, for the first k arcs; 0 beyond. -/
structure WithinTo (l : List ArcN) (k : Nat) (X : List Int) : Prop where
  len : X.length = l.length
  ent : ∀ (i : Nat) (a : ArcN) (x : Int), i < k → l[i]? = some a → X[i]? = some x → 0 ≤ x ∧ x ≤ a.cap ∧ (a.frm = a.to → x = 0)
  rest : ∀ i, k ≤ i → i < l.length → X[i]? = some 0
section
variable {l : List ArcN} {k : Nat} {X : List Int}
theorem WithinTo.zero (l : List ArcN) : WithinTo l 0 (List.replicate l.length 0) := ⟨by simp, fun i a x hi => absurd hi (by omega), fun i _ h => by simp [h]⟩
theorem WithinTo.skip (h : WithinTo l k X) {a : ArcN} (ha : l[k]? = some a) (hc : 0 ≤ a.cap) : WithinTo l (k + 1) X := by
  refine ⟨h.len, fun i b x hi hb hx => ?_, fun i h1 h2 => h.rest i (by omega) h2⟩
  by_cases e : i = k
  · subst e
    have h0 := h.rest i (Nat.le_refl _) (List.getElem?_eq_some_iff.1 ha).1
    rw [hx] at h0
    injection h0 with h0
    rw [ha] at hb
    injection hb with hb
    subst hb
    omega
  · exact h.ent i b x (by omega) hb hx
theorem WithinTo.step (h : WithinTo l k X) {a : ArcN} {z : Int} (ha : l[k]? = some a) (hne : a.frm ≠ a.to) (h0 : 0 ≤ z) (h1 : z ≤ a.cap) : WithinTo l (k + 1) (X.set k z) := by
  have hk := (List.getElem?_eq_some_iff.1 ha).1
  have hl := h.len
  refine ⟨by simp [hl], fun i b x hi hb hx => ?_, fun i h1 h2 => ?_⟩
  · by_cases e : i = k
    · subst e
      rw [ha] at hb
      injection hb with hb
      subst hb
      rw [List.getElem?_set_self (by omega)] at hx
      injection hx with hx
      subst hx
      exact ⟨h0, h1, fun e => absurd e hne⟩
    · rw [List.getElem?_set_ne (fun x => e x.symm)] at hx
      exact h.ent i b x (by omega) hb hx
  · rw [List.getElem?_set_ne (by omega)]
    exact h.rest i (by omega) h2
end

set_option maxHeartbeats 2000000 in
theorem withinL_any (N S T : Int) (A : Option Addr) (n c : Nat) (l : List ArcN) (AL : Option Addr) (nl cl : Nat) (L : List Int) (w : World) (hA : Arcs w w.heap.size A n l) (hn : n ≤ 1000000) (hc : ∀ a ∈ l, 0 ≤ a.cap ∧ a.cap < 1125899906842624)
    (hL : Ints w w.heap.size AL nl L) (hLR : ∀ x ∈ L, InR x) :
    Calls Try.prog 9 #[.agg #[.int .i64 N, .int .i64 S, .int .i64 T, .slice A n c], .slice AL nl cl] w fun e w' =>
      ∃ g X, e = .returned (.slice (some ⟨g, 0, none⟩) n n) ∧ w.heap.size ≤ g ∧ Blk w' g 2 (ivs X) ∧ WithinTo l n X ∧ Below w.heap.size w w' := by
  have hln := hA.len
  obtain ⟨i1, hi, hz0, hz1, hz2⟩ := info_parts long_info
  have hml := fun W => run_make_lit (P := Try.prog) 25 2 i1 _ Try.underlying25 hi hz0 n (by rw [hz2]; omega) (by omega) W
  rw [hz1, ivs_made] at hml
  clear hi hz0 hz1 hz2
  go_enter Try.func9, Try.ntmps9
  go_wp2_with fail
  go_loopw [6, 7, 8, 16] (fun _ _ _ i wr => ∃ (k : Nat) (X : List Int), k ≤ n ∧ i = .int .i64 k ∧ Below w.heap.size w wr ∧ Blk wr (w.heap.size + 1) 2 (ivs X) ∧ WithinTo l k X) (fun _ _ _ i _ => n - (intOf i).toNat)
  case atStart =>
    refine ⟨0, _, Nat.zero_le _, rfl, (below_alloc _).alloc (by simp) _, Blk.new (by simp), ?_⟩
    rw [← hln]; exact WithinTo.zero l
  case round =>
    clear hml
    obtain ⟨k, X, hk, rfl, Bw, KX, WX⟩ := hrel
    have hzX := KX.lt
    by_cases hlt : k < n
    · obtain ⟨b, off, a, rfl, hbl, hla, d0, d1, d2⟩ := arcs_at (hA.below Bw) hlt
      have hca := hc _ (mem_at hla)
      have hbw : b < wr.heap.size := by omega
      have HL := Lib.hid hla; clear hla
      have HWX := Lib.hid WX; clear WX
      have hlx := HWX.out.len
      obtain ⟨y1, hy1⟩ : ∃ y, X[k]? = some y := ⟨_, List.getElem?_eq_getElem (by omega)⟩
      have c1 := KX.iat hy1
      have f1 := KX.frozen k
      clear hy1
      by_cases h1 : nl ≤ k
      · have h1' : (nl : Int) ≤ (k : Int) := by omega
        go_wp2_with fail
        go_roundw
        case rel => exact ⟨k + 1, X, by omega, by go_num, Bw.alloc Bw.size _, KX.alloc _, HWX.out.skip HL.out hca.1⟩
        case measure => simp [intOf]; omega
      · by_cases h2 : a.frm = a.to
        · have h2' : (a.frm == a.to) = true := by simpa using h2
          have h1' : ¬ (nl : Int) ≤ (k : Int) := by omega
          go_wp2_with fail
          go_roundw
          case rel => exact ⟨k + 1, X, by omega, by go_num, Bw.alloc Bw.size _, KX.alloc _, HWX.out.skip HL.out hca.1⟩
          case measure => simp [intOf]; omega
        · have h2' : (a.frm == a.to) = false := by simpa using h2
          have h1' : ¬ (nl : Int) ≤ (k : Int) := by omega
          obtain ⟨bl, ofl, x, rfl, hbl', hx, hcx⟩ := intl_at (hL.below Bw) (k := k) (by omega)
          have hxr := hLR x (mem_at hx)
          unfold InR at hxr
          have hblw : bl < wr.heap.size := by omega
          clear hx
          have hcp : ¬ 4611686018427387904 ≤ a.cap := by omega
          have hcz : ¬ a.cap + 1 = 0 := by omega
          by_cases h3 : x < 0
          · have hz0 := Int.tmod_nonneg (a.cap + 1) (show 0 ≤ -(x + 1) by omega)
            have hz1 := Int.tmod_lt_of_pos (-(x + 1)) (show 0 < a.cap + 1 by omega)
            rw [Int.neg_tmod] at hz0 hz1
            have HZ0 := Lib.hid hz0; have HZ1 := Lib.hid hz1; clear hz0 hz1
            go_wp2_with fail
            go_roundw
            case rel => exact ⟨k + 1, _, by omega, by go_num, Below.alloc (Bw.setCell (by simp) _) (by simp; exact Bw.size) _, (KX.iset k _).alloc _, HWX.out.step HL.out h2 (by have := HZ0.out; split <;> omega) (by have := HZ1.out; split <;> omega)⟩
            case measure => simp [intOf]; omega
          · have hz0 := Int.tmod_nonneg (a.cap + 1) (show 0 ≤ x by omega)
            have hz1 := Int.tmod_lt_of_pos x (show 0 < a.cap + 1 by omega)
            rw [Int.tmod_eq_emod_of_nonneg (by omega)] at hz0 hz1
            have HZ0 := Lib.hid hz0; have HZ1 := Lib.hid hz1; clear hz0 hz1
            go_wp2_with fail
            go_roundw
            case rel => exact ⟨k + 1, _, by omega, by go_num, Below.alloc (Bw.setCell (by simp) _) (by simp; exact Bw.size) _, (KX.iset k _).alloc _, HWX.out.step HL.out h2 (by have := HZ0.out; split <;> omega) (by have := HZ1.out; split <;> omega)⟩
            case measure => simp [intOf]; omega
    · obtain rfl : n = k := by omega
      go_wp2_with fail
      go_ret
      exact ⟨_, _, rfl, by omega, KX, WX, Bw⟩

end Go.Proofs.Ytmmafibeciaghaa
