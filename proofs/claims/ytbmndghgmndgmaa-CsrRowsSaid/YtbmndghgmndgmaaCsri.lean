/- Layer 2: Forward. -/
import Derived.Test.YtbmndghgmndgmaaCsrg
namespace Go.Proofs.Ytbmndghgmndgmaa
open Go.RowKit

/-- At which number which arc's forward residual arc stands. -/
def FwdAt (l : List ArcN) (p i : Nat) (x : Int) : Prop := ∃ v u c, Inc l i v u false c ∧ posOf l i v = p ∧ x = (p : Int)
/-- What Forward answers. -/
structure FwdOf (l : List ArcN) (n : Nat) (F : List Int) : Prop where
  len : F.length = n
  fwd : ∀ (i : Nat) (v u c : Int), Inc l i v u false c → F[i]? = some (posOf l i v : Int)
  loop : ∀ (i : Nat) (a : ArcN), i < n → l[i]? = some a → a.frm = a.to → F[i]? = some (-1)

section
variable {l : List ArcN} {F : List Int} {N M n k i : Nat} {v u c : Int}
theorem fwd_skip (hE : EndsIn N l) (hI : Inc l i v u true c) (hp : posOf l i v = k) : ∀ i' x', ¬ FwdAt l k i' x' := by
  rintro i' x' ⟨v', u', c', hI', hp', _⟩
  obtain ⟨rfl, rfl⟩ := pos_inj hI' hI (hI'.ends hE).1 (hI.ends hE).1 (by omega)
  have := (hI'.same hI).2.1
  cases this
theorem fwd_step (h : FillTo (FwdAt l) (-1) n k F) (hE : EndsIn N l) (hI : Inc l i v u false c) (hp : posOf l i v = k) (hi : i < n) : FillTo (FwdAt l) (-1) n (k + 1) (F.set i (k : Int)) := by
  refine h.step ⟨v, u, c, hI, hp, rfl⟩ hi ?_ ?_
  · rintro p x' ⟨v', u', c', hI', hp', _⟩
    obtain ⟨_, a, ha, hh⟩ := hI
    obtain ⟨_, a', ha', hh'⟩ := hI'
    rw [ha] at ha'
    injection ha' with ha'
    subst ha'
    rcases hh with ⟨_, g1, _, _⟩ | ⟨h0, _⟩
    · rcases hh' with ⟨_, g2, _, _⟩ | ⟨h0, _⟩
      · rw [← hp', ← g2, g1]; exact hp
      · cases h0
    · cases h0
  · rintro i' x' ⟨v', u', c', hI', hp', rfl⟩
    obtain ⟨rfl, rfl⟩ := pos_inj hI' hI (hI'.ends hE).1 (hI.ends hE).1 (by omega)
    exact ⟨rfl, rfl⟩
theorem fwd_done (h : FillTo (FwdAt l) (-1) n k F) (hE : EndsIn N l) (hM : firstOf l N = M) (hk : ¬ k < M) : FwdOf l n F := by
  refine ⟨h.len, fun i v u c hI => h.ent _ i _ ⟨v, u, c, hI, rfl, rfl⟩ (by have := pos_lt hI hE; omega), fun i a hi ha e => h.rest i hi ?_⟩
  rintro p x ⟨v, u, c, hI, _, _⟩
  obtain ⟨hne, a', ha', hh⟩ := hI
  rw [ha] at ha'
  injection ha' with ha'
  subst ha'
  rcases hh with ⟨_, g1, g2, _⟩ | ⟨h0, _⟩
  · exact absurd (by rw [← g1, ← g2]; exact e) hne
  · cases h0
theorem minus_set {n k : Nat} (hk : k < n) : ((List.replicate k (-1 : Int)) ++ List.replicate (n - k) 0).set k (-1) = List.replicate (k + 1) (-1) ++ List.replicate (n - (k + 1)) 0 := by
  rw [List.set_append, if_neg (by simp)]
  simp only [List.length_replicate, Nat.sub_self]
  rw [show n - k = (n - (k + 1)) + 1 by omega, List.replicate_succ, List.set_cons_zero, List.replicate_succ' (n := k), List.append_assoc]
  simp
end

set_option maxHeartbeats 2000000 in
theorem forward_good (N M : Nat) (S T : Int) (gF gH gR gC gA gB : Nat) (l : List ArcN) (n : Nat) (w : World) (hC : CsrAt w w.heap.size N l gF gH gR gC gA gB) (hE : EndsIn N l) (hMe : firstOf l N = M) (hM : M ≤ 100000000) (hn : l.length = n) (hn' : n ≤ 16384) :
    Calls Try.prog 12 #[csrV N M S T gF gH gR gC gA gB, .int .i64 n] w fun e w' => ∃ g F, e = .returned (.slice (some ⟨g, 0, none⟩) n n) ∧ w.heap.size ≤ g ∧ Blk w' g 3 (ivs F) ∧ FwdOf l n F ∧ Below w.heap.size w w' := by
  have hct := fun W => isCount_any (n : Int) W
  rw [decide_eq_true (show 0 ≤ (n : Int) ∧ (n : Int) ≤ 16384 by omega)] at hct
  have HCT := Lib.hid hct; clear hct
  obtain ⟨i1, hi, hz0, hz1, hz2⟩ := info_parts int_info
  have hml := fun W => run_make_lit (P := Try.prog) 26 3 i1 _ Try.underlying26 hi hz0 n (by rw [hz2]; omega) (by omega) W
  rw [hz1, ivs_made] at hml
  clear hi hz0 hz1 hz2
  go_enter Try.func12, Try.ntmps12
  go_wp2_with fail
  have C0 := hC.onAlloc (.cells #[.int .i64 N, .int .i64 S, .int .i64 T, .slice (some ⟨gF, 0, none⟩) (N + 1) (N + 1), .slice (some ⟨gH, 0, none⟩) M M, .slice (some ⟨gR, 0, none⟩) M M, .slice (some ⟨gC, 0, none⟩) M M, .slice (some ⟨gA, 0, none⟩) M M, .slice (some ⟨gB, 0, none⟩) M M] 30)
  refine (HCT.out _).mono ?_
  rintro e w1 ⟨rfl, B1⟩
  have K : Blk w1 w.heap.size 30 _ := (Blk.new rfl).below B1 (by simp)
  have Bw := below_step (below_alloc _) B1
  have C1 := C0.on B1
  obtain ⟨a0, a1, a2, a3, a4, a5, a6, a7, a8⟩ := K.at9
  clear C0 B1
  go_wp2_with fail
  refine (wellFormed_good _ _ _ _ _ _ _ _ _ _ l _ C1 hE hMe hM).mono ?_
  rintro e w2 ⟨rfl, B2⟩
  have K2 := K.below B2 K.lt
  have C2 := C1.on B2
  have Bw2 := below_step Bw B2
  clear a0 a1 a2 a3 a4 a5 a6 a7 a8 K C1 Bw B2
  go_wp2_with fail
  go_loopw [6, 19] (fun _ i wr => ∃ k : Nat, k ≤ n ∧ i = .int .i64 k ∧ Blk wr w2.heap.size 3 (ivs (List.replicate k (-1) ++ List.replicate (n - k) 0)) ∧ Below w2.heap.size w2 wr) (fun _ i _ => n - (intOf i).toNat)
  case atStart =>
    refine ⟨0, Nat.zero_le _, rfl, ?_, below_alloc _⟩
    simpa using Blk.new rfl
  case round =>
    obtain ⟨k, hk, rfl, Y, hb⟩ := hrel
    clear hml
    by_cases hlt : k < n
    · obtain ⟨y, hy⟩ : ∃ y, (List.replicate k (-1 : Int) ++ List.replicate (n - k) 0)[k]? = some y := ⟨_, List.getElem?_eq_getElem (by simp; omega)⟩
      have c1 := Y.iat hy
      have f1 := Y.frozen k
      clear hy
      go_wp2_with fail
      go_roundw
      case rel =>
        refine ⟨k + 1, by omega, by go_num, ?_, hb.setCell (by simp) _⟩
        rw [← minus_set hlt]
        exact Y.iset k _
      case measure => simp [intOf]; omega
    · obtain rfl : n = k := by omega
      have Y0 : Blk wr w2.heap.size 3 (ivs (List.replicate n (-1))) := by simpa using Y
      have K3 := K2.below hb K2.lt
      have C3 := C2.below hb
      have Bw3 := below_step Bw2 hb
      have hz3 := Y0.lt
      obtain ⟨a0, a1, a2, a3, a4, a5, a6, a7, a8⟩ := K3.at9
      have hzK := K2.lt
      clear K2 C2 Bw2 Y
      go_wp2_with fail
      refine (len_any _ _ _ _ _ _ _ _ _ _ _).mono ?_
      rintro e w6 ⟨rfl, B6⟩
      have hz6 : w2.heap.size ≤ wr.heap.size := by omega
      have K6 := K3.below B6 (by omega)
      have C6 := C3.below (B6.mono hz6)
      have Y6 := Y0.below B6 Y0.lt
      have Bw6 := below_step Bw3 B6
      clear a0 a1 a2 a3 a4 a5 a6 a7 a8 K3 C3 Bw3 B6 Y0
      have hl4 := C6.lt
      go_wp2_with fail
      go_loopw [7, 28] (fun _ i wr => ∃ (k : Nat) (F : List Int), k ≤ M ∧ i = .int .i64 k ∧ FillTo (FwdAt l) (-1) n k F ∧ Blk wr w2.heap.size 3 (ivs F) ∧ CsrAt wr w2.heap.size N l gF gH gR gC gA gB ∧
          Blk wr w.heap.size 30 #[.int .i64 N, .int .i64 S, .int .i64 T, .slice (some ⟨gF, 0, none⟩) (N + 1) (N + 1), .slice (some ⟨gH, 0, none⟩) M M, .slice (some ⟨gR, 0, none⟩) M M, .slice (some ⟨gC, 0, none⟩) M M, .slice (some ⟨gA, 0, none⟩) M M, .slice (some ⟨gB, 0, none⟩) M M] ∧ Below w.heap.size w wr) (fun _ i _ => M - (intOf i).toNat)
      case atStart => exact ⟨0, _, Nat.zero_le _, rfl, FillTo.zero _ _ _ rfl, Y6, C6, K6, Bw6⟩
      case round =>
        clear Y6 C6 K6 Bw6
        obtain ⟨k, F, hk, rfl, R, Y6, C6, K6, Bw6⟩ := hrel
        obtain ⟨a0, a1, a2, a3, a4, a5, a6, a7, a8⟩ := K6.at9
        by_cases hlt : k < M
        · obtain ⟨i, q, v, u, b, c, hI, hpos, hqos, hq, e1, e2, e3, e4, e5⟩ := C6.at hE (show k < firstOf l N by omega)
          have hil : i < n := by have := hI.lt; omega
          have hin : (i : Int) < (n : Int) := by omega
          cases b with
          | true =>
            go_wp2_with fail
            go_roundw
            case rel => exact ⟨k + 1, F, by omega, by go_num, R.skip (fwd_skip hE hI hpos), Y6, C6, K6, Bw6⟩
            case measure => simp [intOf]; omega
          | false =>
            have hlen := R.len
            obtain ⟨y1, hy1⟩ : ∃ y, F[i]? = some y := ⟨_, List.getElem?_eq_getElem (by omega)⟩
            have c1 := Y6.iat hy1
            have d1 := Y6.frozen i
            clear hy1
            go_wp2_with fail
            go_roundw
            case rel =>
              have hb2 : Below w2.heap.size wr (wr.setCell ⟨w2.heap.size, i, none⟩ (.int .i64 (k : Int))) := (Below.refl _ _).setCell (by simp) _
              exact ⟨k + 1, _, by omega, by go_num, fwd_step R hE hI hpos hil, Y6.iset i _, C6.below hb2, K6.below hb2 (by omega), Bw6.trans (hb2.mono (by omega))⟩
            case measure => simp [intOf]; omega
        · go_wp2_with fail
          go_ret
          exact ⟨_, _, rfl, by omega, Y6, fwd_done R hE hMe hlt, Bw6⟩

end Go.Proofs.Ytbmndghgmndgmaa
