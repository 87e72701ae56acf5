/- PreKeeps: what it asks of each state. -/
import Derived.Test.YtgjokddcaadjdaaPawp
import Derived.Test.YtgjokddcaadjdaaRigo
namespace Go.Proofs.Ytgjokddcaadjdaa
open Go.RowKit
set_option maxRecDepth 100000

set_option maxHeartbeats 4000000 in
theorem pk1_is (N M s t : Nat) (K : CsrS) (Q0 Q : PreS) (fst hd rv ai : Nat → Nat) (cp : Nat → Int) (bk : Nat → Bool) (X E H : List Int) (w : World) (hG : PNet N M s t fst hd rv ai cp bk) (hI : PIn w w.heap.size N M K fst hd rv ai cp bk)
    (hQ : StIn w w.heap.size M N N Q X E H) (hS : StIs N M s t hd rv cp X E H) :
    Calls Try.prog 29 (#[csrW N M s t K, preW M N N Q0, preW M N N Q] ++ #[]) w fun e w' => e = .returned (.bool true) ∧ Below w.heap.size w w' := by
  have hsN := hG.hs
  have hr := fun W (hb : Below w.heap.size w W) => pright_is N M s t M N N K Q fst hd rv ai cp bk X E H W hG (hI.on hb) (hQ.on hb) (hS.inX hG) (hS.inH hG) true ⟨fun _ => ⟨rfl, rfl, rfl, hS⟩, fun _ => rfl⟩
  have HR := Lib.hid hr
  have how := hS.owes hG
  obtain ⟨bE, oE, hEa⟩ := hQ.iE.adr (by omega)
  have hce := hQ.iE
  obtain ⟨AF, cF, AH, cH, AR, cR, AC, cC, AA, cA, AB, cB⟩ := K
  obtain ⟨AX, cX, AE, cE, AHH, cHH⟩ := Q
  obtain ⟨AX0, cX0, AE0, cE0, AH0, cH0⟩ := Q0
  dsimp only [csrW, preW] at HR hEa hce ⊢
  subst hEa
  obtain ⟨hbE, ce⟩ := hce.cel (hOf_get hS.le hsN)
  obtain ⟨y, hy⟩ : ∃ y, hOf E s = y := ⟨_, rfl⟩
  rw [hy] at ce how
  clear hr hI hQ hS hG hy hce
  simp only [Array.append_empty]
  obtain ⟨w1, hw1⟩ : ∃ w1, (((w.alloc (.cells #[.int .i64 (N : Int), .int .i64 (s : Int), .int .i64 (t : Int), .slice AF (N + 1) cF, .slice AH M cH, .slice AR M cR, .slice AC M cC, .slice AA M cA, .slice AB M cB] 32)).alloc (.cells #[.slice AX0 M cX0, .slice AE0 N cE0, .slice AH0 N cH0] 29)).alloc (.cells #[.slice AX M cX, .slice (some ⟨bE, oE, none⟩) N cE, .slice AHH N cHH] 29)) = w1 := ⟨_, rfl⟩
  have B1 : Below w.heap.size w w1 := by rw [← hw1]; exact (((Below.refl _ w).alloc (Nat.le_refl _) _).alloc (by simp) _).alloc (by simp; omega) _
  have C1 : Blk w1 w.heap.size 32 #[.int .i64 (N : Int), .int .i64 (s : Int), .int .i64 (t : Int), .slice AF (N + 1) cF, .slice AH M cH, .slice AR M cR, .slice AC M cC, .slice AA M cA, .slice AB M cB] := by rw [← hw1]; exact ((Blk.new rfl).alloc _).alloc _
  have P1 : Blk w1 (w.heap.size + 1 + 1) 29 #[.slice AX M cX, .slice (some ⟨bE, oE, none⟩) N cE, .slice AHH N cHH] := by rw [← hw1]; exact Blk.new (by simp)
  have HW1 := Lib.hid hw1
  clear hw1
  go_enter Try.func29, Try.ntmps29
  go_wp2_with fail
  rw [HW1.out]
  refine (HR.out _ B1).mono ?_
  rintro e w2 ⟨rfl, B2⟩
  have C2 := C1.below B2 C1.lt; have P2 := P1.below B2 P1.lt
  have Bw := below_step B1 B2
  obtain ⟨a0, a1, a2, a3, a4, a5, a6, a7, a8⟩ := C2.at9
  have p0 := P2.cell 0; have p1 := P2.cell 1; have p2 := P2.cell 2
  simp only [List.getElem?_toArray, List.getElem?_cons_zero, List.getElem?_cons_succ] at p0 p1 p2
  have ce2 := (Bw.cell (p := ⟨bE, oE + s, none⟩) hbE).trans ce
  have hz1 := C2.lt; have hz2 := P2.lt
  have hbE2 : bE < w2.heap.size := by have := Bw.size; omega
  have HB := Lib.hid Bw
  clear C1 P1 C2 P2 B1 B2 Bw ce HR
  go_wp2_with fail
  go_ret
  exact ⟨ret_bool (by simp), HB.out⟩

end Go.Proofs.Ytgjokddcaadjdaa
