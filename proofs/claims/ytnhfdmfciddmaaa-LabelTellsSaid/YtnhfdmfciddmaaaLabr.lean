/- Layer 6: the document's answers: Right, Steep, Flat, Valid. -/
import Derived.Test.YtnhfdmfciddmaaaLabf
namespace Go.Proofs.Ytnhfdmfciddmaaa
open Go.RowKit
set_option maxRecDepth 100000

theorem htis_of {N s t : Nat} {H : List Int} (hl : H.length = N) (ha : ∀ v, v < N → 0 ≤ hOf H v ∧ hOf H v ≤ N) (h1 : hOf H t = 0) (h2 : hOf H s = N) : rightB N s t H = true := rightB_yes.2 ⟨hl, h2, h1, ha⟩

set_option maxHeartbeats 8000000 in
theorem rright_is (N M s t : Nat) (K : CsrS) (A : Option Addr) (n c : Nat) (H : List Int) (w : World) (hA : Ints w w.heap.size A n H) (hs : s < N) (ht : t < N) (hN : N ≤ 4096) :
    Calls Try.prog 14 #[csrW N M s t K, .slice A n c] w fun e w' => e = .returned (.bool (rightB N s t H)) ∧ Below w.heap.size w w' := by
  have hl : H.length = n := hA.len
  obtain ⟨AF, cF, AH, cH, AR, cR, AC, cC, AA, cA, AB, cB⟩ := K
  dsimp only [csrW]
  have K1 : Blk (w.alloc (.cells #[.int .i64 (N : Int), .int .i64 (s : Int), .int .i64 (t : Int), .slice AF (N + 1) cF, .slice AH M cH, .slice AR M cR, .slice AC M cC, .slice AA M cA, .slice AB M cB] 29)) w.heap.size 29 #[.int .i64 (N : Int), .int .i64 (s : Int), .int .i64 (t : Int), .slice AF (N + 1) cF, .slice AH M cH, .slice AR M cR, .slice AC M cC, .slice AA M cA, .slice AB M cB] := Blk.new rfl
  have A1 := hA.onAlloc (.cells #[.int .i64 (N : Int), .int .i64 (s : Int), .int .i64 (t : Int), .slice AF (N + 1) cF, .slice AH M cH, .slice AR M cR, .slice AC M cC, .slice AA M cA, .slice AB M cB] 29)
  have B1 := below_alloc (w := w) (.cells #[.int .i64 (N : Int), .int .i64 (s : Int), .int .i64 (t : Int), .slice AF (N + 1) cF, .slice AH M cH, .slice AR M cR, .slice AC M cC, .slice AA M cA, .slice AB M cB] 29)
  have HA1 := Lib.hid A1; have HK1 := Lib.hid K1; have HL := Lib.hid hl; have HB1 := Lib.hid B1
  obtain ⟨r, hr⟩ : ∃ r, rightB N s t H = r := ⟨_, rfl⟩
  rw [hr]
  have HR := Lib.hid hr
  clear hr
  by_cases hne : n = N
  · subst hne
    clear hl A1 K1 hA B1
    obtain ⟨b, off, hAe⟩ := HA1.out.adr (by omega)
    subst hAe
    have hn0 : ((n : Int) == 0) = false := beq_false_of_ne (by omega)
    have hn1 : ¬ (n : Int) = 0 := by omega
    have hn2 : ¬ n = 0 := by omega
    go_enter Try.func14, Try.ntmps14
    go_wp2_with fail
    clear hn0 hn1 hn2
    go_loopw [5] (fun i wr => ∃ k : Nat, k ≤ n ∧ i = .int .i64 k ∧ (∀ v, v < k → 0 ≤ hOf H v ∧ hOf H v ≤ n) ∧ Below w.heap.size w wr ∧ Below (w.heap.size + 1) (w.alloc (.cells #[.int .i64 (n : Int), .int .i64 (s : Int), .int .i64 (t : Int), .slice AF (n + 1) cF, .slice AH M cH, .slice AR M cR, .slice AC M cC, .slice AA M cA, .slice AB M cB] 29)) wr) (fun i _ => n - (intOf i).toNat)
    case atStart => exact ⟨0, Nat.zero_le _, rfl, fun v h => absurd h (by omega), HB1.out, Below.refl _ _⟩
    case round =>
      obtain ⟨k, hk, rfl, hall, Bw, Bx⟩ := hrel
      have HALL := Lib.hid hall; have HBW := Lib.hid Bw; have HBX := Lib.hid Bx
      have K2 := HK1.out.below Bx (by simp)
      have A2 := HA1.out.below (Bx.mono (by simp))
      obtain ⟨a0, a1, a2, a3, a4, a5, a6, a7, a8⟩ := K2.at9
      have hz2 := K2.lt
      have hzs := Bx.size
      simp only [World.size_alloc] at hzs
      clear hall Bw Bx K2
      by_cases hlt : k < n
      · obtain ⟨hb, cx⟩ := A2.cel (hOf_get HL.out hlt)
        simp only [World.size_alloc] at hb
        have HX := Lib.hid (show hOf H k = hOf H k from rfl)
        obtain ⟨x, hx⟩ : ∃ x, hOf H k = x := ⟨_, rfl⟩
        rw [hx] at cx
        have HXX := Lib.hid hx
        clear hx A2 HX
        by_cases h0 : x < 0
        · have HF := Lib.hid (show false = r by rw [← HR.out]; exact (rightB_no fun h => by have := h.bnd k hlt; rw [HXX.out] at this; omega).symm)
          go_wp2_with fail
          go_quiet (fail)
          go_wp2_with fail
          go_ret
          exact ⟨ret_bool HF.out, below_drewN' HBW.out _⟩
        · have h0d : decide (x < 0) = false := decide_eq_false h0
          by_cases h1 : (n : Int) < x
          · have HF := Lib.hid (show false = r by rw [← HR.out]; exact (rightB_no fun h => by have := h.bnd k hlt; rw [HXX.out] at this; omega).symm)
            go_wp2_with fail
            go_quiet (fail)
            go_wp2_with fail
            go_ret
            exact ⟨ret_bool HF.out, below_drewN' HBW.out _⟩
          · have h1d : decide ((n : Int) < x) = false := decide_eq_false h1
            go_wp2_with fail
            go_quiet (fail)
            go_wp2_with fail
            go_roundw
            case rel =>
              refine ⟨k + 1, by omega, by go_num, fun v hv => ?_, below_drewN' HBW.out _, below_drewN' HBX.out _⟩
              by_cases e : v = k
              · subst e; rw [HXX.out]; omega
              · exact HALL.out v (by omega)
            case measure => simp [intOf]; omega
      · obtain rfl : k = n := by omega
        obtain ⟨hb, ct⟩ := A2.cel (hOf_get HL.out ht)
        obtain ⟨-, cs⟩ := A2.cel (hOf_get HL.out hs)
        simp only [World.size_alloc] at hb
        have HFIN := Lib.hid (htis_of (s := s) (t := t) HL.out HALL.out)
        have HBAD1 := Lib.hid (fun (h : ¬ hOf H t = 0) => rightB_no (N := k) (s := s) (t := t) (H := H) fun g => h g.snk)
        have HBAD2 := Lib.hid (fun (h : ¬ hOf H s = k) => rightB_no (N := k) (s := s) (t := t) (H := H) fun g => h g.src)
        rw [HR.out] at HFIN HBAD1 HBAD2
        generalize hOf H t = y at *
        generalize hOf H s = z at *
        clear A2
        by_cases h1 : y = 0
        · subst h1
          by_cases h2 : z = (k : Int)
          · subst h2
            have HF := Lib.hid (HFIN.out rfl rfl)
            go_wp2_with fail
            go_quiet (fail)
            go_wp2_with fail
            go_ret
            exact ⟨ret_bool HF.out.symm, below_drewN' HBW.out _⟩
          · have h2' : (z == (k : Int)) = false := beq_false_of_ne h2
            have HF := Lib.hid (HBAD2.out h2)
            go_wp2_with fail
            go_quiet (fail)
            go_wp2_with fail
            go_ret
            exact ⟨ret_bool HF.out.symm, below_drewN' HBW.out _⟩
        · have h1' : (y == 0) = false := beq_false_of_ne h1
          have h1d : decide (y = 0) = false := decide_eq_false h1
          have HF := Lib.hid (HBAD1.out h1)
          go_wp2_with fail
          go_quiet (fail)
          go_wp2_with fail
          go_ret
          exact ⟨ret_bool HF.out.symm, below_drewN' HBW.out _⟩
  · have hne1 : ¬ (n : Int) = (N : Int) := by omega
    have hne2 : ((n : Int) == (N : Int)) = false := beq_false_of_ne hne1
    have HF := Lib.hid (show false = r by rw [← HR.out]; exact (rightB_no fun h => hne (HL.out.symm.trans h.len)).symm)
    clear hl A1 K1 hA B1
    go_enter Try.func14, Try.ntmps14
    go_wp2_with fail
    go_ret
    exact ⟨ret_bool HF.out, HB1.out⟩

end Go.Proofs.Ytnhfdmfciddmaaa
