/- Two states compared. -/
import Derived.Test.YtfcjmhihheeifaaFawa
import Derived.Test.YtfcjmhihheeifaaFmos
import Derived.Test.YtfcjmhihheeifaaActo
namespace Go.Proofs.Ytfcjmhihheeifaa
open Go.RowKit
set_option maxRecDepth 100000

set_option maxHeartbeats 2000000 in
theorem sameP_is (nX nE nH mX mE mH : Nat) (Q R : PreS) (X E H X' E' H' : List Int) (r : Bool) (w : World) (hQ : StIn w w.heap.size nX nE nH Q X E H) (hR : StIn w w.heap.size mX mE mH R X' E' H') (hX : nX ≤ 17592186044416) (hE : nE ≤ 17592186044416) (hH : nH ≤ 17592186044416) (kX : mX ≤ 17592186044416) (kE : mE ≤ 17592186044416) (kH : mH ≤ 17592186044416)
    (hr : r = decide (X = X' ∧ E = E' ∧ H = H')) :
    Calls Try.prog 22 #[preW nX nE nH Q, preW mX mE mH R] w fun e w' => e = .returned (.bool r) ∧ Below w.heap.size w w' := by
  have h1 := fun v hv W (hb : Below w.heap.size w W) => longs_is Q.cX R.cX (hQ.on hb).iX (hR.on hb).iX hX kX (v := v) hv
  have h2 := fun v hv W (hb : Below w.heap.size w W) => longs_is Q.cE R.cE (hQ.on hb).iE (hR.on hb).iE hE kE (v := v) hv
  have h3 := fun v hv W (hb : Below w.heap.size w W) => ints_is Q.cH R.cH (hQ.on hb).iH (hR.on hb).iH hH kH (v := v) hv
  have H1 := Lib.hid h1; have H2 := Lib.hid h2; have H3 := Lib.hid h3; have HR := Lib.hid hr
  clear h1 h2 h3 hQ hR hr
  obtain ⟨AX, cX, AE, cE, AHH, cHH⟩ := Q
  obtain ⟨AX', cX', AE', cE', AHH', cHH'⟩ := R
  dsimp only [preW] at H1 H2 H3 ⊢
  obtain ⟨w1, hw1⟩ : ∃ W, ((w.alloc (.cells #[.slice AX nX cX, .slice AE nE cE, .slice AHH nH cHH] 49)).alloc (.cells #[.slice AX' mX cX', .slice AE' mE cE', .slice AHH' mH cHH'] 49)) = W := ⟨_, rfl⟩
  have B1 : Below w.heap.size w w1 := by rw [← hw1]; exact (below_alloc _).alloc (by simp) _
  have HP1 := Lib.hid (show Blk w1 w.heap.size 49 #[.slice AX nX cX, .slice AE nE cE, .slice AHH nH cHH] by rw [← hw1]; exact (Blk.new rfl).alloc _)
  have HO1 := Lib.hid (show Blk w1 (w.heap.size + 1) 49 #[.slice AX' mX cX', .slice AE' mE cE', .slice AHH' mH cHH'] by rw [← hw1]; exact Blk.new (by simp))
  have HB1 := Lib.hid B1
  clear B1
  obtain ⟨⟨p0, p1, p2⟩, -, hz1⟩ := HP1.out.full3
  obtain ⟨⟨q0, q1, q2⟩, -, hz2⟩ := HO1.out.full3
  go_enter Try.func22, Try.ntmps22
  go_wp2_with fail
  clear hw1
  by_cases e1 : X = X'
  · refine (H1.out true (decide_eq_true e1) _ HB1.out).mono ?_
    rintro e w2 ⟨rfl, B2⟩
    have HB2 := Lib.hid (below_step HB1.out B2); have HP2 := Lib.hid (HP1.out.below B2 HP1.out.lt); have HO2 := Lib.hid (HO1.out.below B2 HO1.out.lt)
    clear B2 p0 p1 p2 q0 q1 q2 hz1 hz2
    obtain ⟨⟨p0, p1, p2⟩, -, hz1⟩ := HP2.out.full3
    obtain ⟨⟨q0, q1, q2⟩, -, hz2⟩ := HO2.out.full3
    go_wp2_with fail
    by_cases e2 : E = E'
    · refine (H2.out true (decide_eq_true e2) _ HB2.out).mono ?_
      rintro e w3 ⟨rfl, B3⟩
      have HB3 := Lib.hid (below_step HB2.out B3); have HP3 := Lib.hid (HP2.out.below B3 HP2.out.lt); have HO3 := Lib.hid (HO2.out.below B3 HO2.out.lt)
      clear B3 p0 p1 p2 q0 q1 q2 hz1 hz2
      obtain ⟨⟨p0, p1, p2⟩, -, hz1⟩ := HP3.out.full3
      obtain ⟨⟨q0, q1, q2⟩, -, hz2⟩ := HO3.out.full3
      go_wp2_with fail
      refine (H3.out _ rfl _ HB3.out).mono ?_
      rintro e w4 ⟨rfl, B4⟩
      go_wp2_with fail
      go_ret
      exact ⟨ret_bool (by rw [HR.out]; simp [e1, e2]), below_step HB3.out B4⟩
    · refine (H2.out false (decide_eq_false e2) _ HB2.out).mono ?_
      rintro e w3 ⟨rfl, B3⟩
      go_wp2_with fail
      go_ret
      exact ⟨ret_bool (by rw [HR.out]; simp [e2]), below_step HB2.out B3⟩
  · refine (H1.out false (decide_eq_false e1) _ HB1.out).mono ?_
    rintro e w2 ⟨rfl, B2⟩
    go_wp2_with fail
    go_ret
    exact ⟨ret_bool (by rw [HR.out]; simp [e1]), below_step HB1.out B2⟩

end Go.Proofs.Ytfcjmhihheeifaa
