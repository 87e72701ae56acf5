/- slices.IndexFunc, ContainsFunc: nobody is so. -/
import Derived.Test.YtgjokddcaadjdaaLabc
namespace Go.Proofs.Ytgjokddcaadjdaa
open Go.RowKit
set_option maxRecDepth 100000

set_option maxHeartbeats 4000000 in
theorem lidxf_none (fn : Nat) (caps : Array Value) (A : Option Addr) (n c : Nat) (H : List Int) (w : World) (hA : Ints w w.heap.size A n H) (hn : n ≤ 100000000)
    (hcl : ∀ (k : Nat) (x : Int) (W : World), H[k]? = some x → Below w.heap.size w W → Calls Try.prog fn (#[.int .i64 x] ++ caps) W fun e w' => e = .returned (.bool false) ∧ Below W.heap.size W w')
    (hcf : ∀ (xs : Array Value) (W : World), (callFunc fn xs).run Try.prog W = .ok (.enter fn xs) W) :
    Calls Try.prog 104 #[.slice A n c, .func (.func fn) #[] caps] w fun e w' => e = .returned (.int .i64 (-1)) ∧ Below w.heap.size w w' := by
  have HA := Lib.hid hA; have HCL := Lib.hid hcl
  clear hA hcl
  go_enter Try.func104, Try.ntmps104
  go_wp2_with fail
  go_loopw [5, 8] (fun _ i wr => ∃ k : Nat, k ≤ n ∧ i = .int .i64 k ∧ Below w.heap.size w wr) (fun _ i _ => n - (intOf i).toNat)
  case atStart => exact ⟨0, Nat.zero_le _, rfl, Below.refl _ _⟩
  case round =>
    obtain ⟨k, hk, rfl, Bw⟩ := hrel
    by_cases hlt : k < n
    · obtain ⟨b, off, x, hAe, hb, hx, cx⟩ := intl_at (HA.out.below Bw) hlt
      subst hAe
      have HX := Lib.hid hx
      have hzw := Bw.size
      clear hx
      go_wp2_with fail
      refine (HCL.out k x _ HX.out Bw).mono ?_
      rintro e w2 ⟨rfl, B2⟩
      have HB2 := Lib.hid (Bw.trans (B2.mono Bw.size))
      clear Bw B2 cx hzw hb
      go_wp2_with fail
      go_roundw
      case rel => exact ⟨k + 1, by omega, by go_num, HB2.out⟩
      case measure => simp [intOf]; omega
    · go_wp2_with fail
      go_ret
      exact ⟨rfl, Bw⟩

set_option maxHeartbeats 1000000 in
theorem lconf_none (fn : Nat) (caps : Array Value) (A : Option Addr) (n c : Nat) (H : List Int) (w : World) (hA : Ints w w.heap.size A n H) (hn : n ≤ 100000000)
    (hcl : ∀ (k : Nat) (x : Int) (W : World), H[k]? = some x → Below w.heap.size w W → Calls Try.prog fn (#[.int .i64 x] ++ caps) W fun e w' => e = .returned (.bool false) ∧ Below W.heap.size W w')
    (hcf : ∀ (xs : Array Value) (W : World), (callFunc fn xs).run Try.prog W = .ok (.enter fn xs) W) :
    Calls Try.prog 95 #[.slice A n c, .func (.func fn) #[] caps] w fun e w' => e = .returned (.bool false) ∧ Below w.heap.size w w' := by
  have HA := Lib.hid hA; have HCL := Lib.hid hcl; have HCF := Lib.hid hcf
  clear hA hcl hcf
  go_enter Try.func95, Try.ntmps95
  go_wp2_with fail
  refine (lidxf_none fn caps A n c H _ HA.out hn HCL.out HCF.out).mono ?_
  rintro e w1 ⟨rfl, B1⟩
  go_wp2_with fail
  go_ret
  exact ⟨rfl, B1⟩

end Go.Proofs.Ytgjokddcaadjdaa
