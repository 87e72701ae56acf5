/- PreWrong: a state of which one thing is another one may not be. PreWrong: the walk. -/
import Derived.Test.YtgjokddcaadjdaaPawp
import Derived.Test.YtgjokddcaadjdaaPbox
import Derived.Test.YtgjokddcaadjdaaPkw
/-! Pwp -/
namespace Go.Proofs.Ytgjokddcaadjdaa
open Go.RowKit
set_option maxRecDepth 100000

theorem inR_set {L : List Int} {i : Nat} {y : Int} (h : ∀ x ∈ L, InR x) (hy : InR y) : ∀ x ∈ L.set i y, InR x := fun x hx => by
  rcases List.mem_or_eq_of_mem_set hx with h1 | rfl
  · exact h x h1
  · exact hy
section
variable {N M s t : Nat} {fst hd rv ai : Nat → Nat} {cp : Nat → Int} {bk : Nat → Bool} {X E H : List Int}
theorem wrong0 (h : StIs N M s t hd rv cp X E H) {v : Nat} (hv : v < N) : ¬ StIs N M s t hd rv cp X (E.set v (hOf E v + 1)) H := fun k => by
  have h1 := h.exc v hv
  have h2 := k.exc v hv
  rw [hOf_put (by have := h.le; omega), if_pos rfl] at h2
  omega
theorem wrong1 (hN : PNet N M s t fst hd rv ai cp bk) (h : StIs N M s t hd rv cp X E H) : ¬ StIs N M s t hd rv cp X E (H.set s (hOf H s + 1)) := fun k => by
  have h1 := h.src
  have h2 := k.src
  rw [hOf_put (by have := h.lh; have := hN.hs; omega), if_pos rfl] at h2
  omega
theorem wrong2 (hN : PNet N M s t fst hd rv ai cp bk) (h : StIs N M s t hd rv cp X E H) : ¬ StIs N M s t hd rv cp X E (H.set t (hOf H t + 1)) := fun k => by
  have h1 := h.snk
  have h2 := k.snk
  rw [hOf_put (by have := h.lh; have := hN.ht; omega), if_pos rfl] at h2
  omega
theorem wrong3 (h : StIs N M s t hd rv cp X E H) {v : Nat} (hv : v < N) : ¬ StIs N M s t hd rv cp X E (H.set v (2 * (N : Int))) := fun k => by
  have h2 := k.bnd v hv
  rw [hOf_put (by have := h.lh; omega), if_pos rfl] at h2
  omega
theorem wrong5 (hN : PNet N M s t fst hd rv ai cp bk) (h : StIs N M s t hd rv cp X E H) {a : Nat} (ha : a < M) : ¬ StIs N M s t hd rv cp (X.set a (hOf X a + 1)) E H := fun k => by
  have h1 := (h.bal.2 a ha).2
  have h2 := (k.bal.2 a ha).2
  have hne := hN.rne ha
  rw [hOf_put (by have := h.bal.1; omega), if_pos rfl, hOf_put (by have := h.bal.1; omega), if_neg (fun e => hne e.symm)] at h2
  omega
theorem pushC_none : pushC M s t hd rv X E H (M : Int) = 2 := if_pos (by omega)
theorem liftC_none : liftC N s t fst hd rv X E H (N : Int) = 2 := if_pos (by omega)
theorem liftC_src (hs : s < N) : liftC N s t fst hd rv X E H (s : Int) = 30 := by
  unfold liftC
  rw [if_neg (fun h => h ⟨by omega, by omega⟩)]
  have : actB s t E s = false := by simp [actB]
  simp only [Int.toNat_natCast, this, Bool.false_and, Bool.false_eq_true, if_false]
end

end Go.Proofs.Ytgjokddcaadjdaa

/-! Pwr -/
namespace Go.Proofs.Ytgjokddcaadjdaa
open Go.RowKit
set_option maxRecDepth 100000

set_option maxHeartbeats 16000000 in
theorem pwrong_walk (N S T : Int) (A : Option Addr) (n c : Nat) (l : List ArcN) (AU : Option Addr) (nu cu : Nat) (U : List Int) (at' wh : Nat) (w : World) (hA : Arcs w w.heap.size A n l) (hf : FitsAll l) (hnc : n ≤ c) (hU : Bytes w w.heap.size AU nu U) (hUR : ∀ x ∈ U, 0 ≤ x ∧ x ≤ 255) (hcu : nu ≤ cu) (ha : at' ≤ 255) (hw : wh ≤ 255) :
    Calls Try.prog 8 #[.agg #[.int .i64 N, .int .i64 S, .int .i64 T, .slice A n c], .slice AU nu cu, .int .u8 (at' : Int), .int .u8 (wh : Int)] w fun e w' => e = .returned (.bool true) ∧ Below w.heap.size w w' := by
  have hso := fun W hW => some_any N S T A n c 20 50 l W hW hf hnc (by omega) (by omega) (by omega)
  obtain ⟨N1, hN1, hN2, hN3, hck, hln, hmem⟩ := some_net N S T 20 50 l (by omega) (by omega) (by omega)
  rw [hN1] at hso hck hln hmem
  generalize S % (N1 : Int) = S1 at *
  generalize someT (N1 : Int) S T = T1 at *
  generalize someL (N1 : Int) 50 l = l1 at *
  obtain ⟨-, -, -, -, hs0, hs1, ht0, ht1, hst, -, -⟩ := ends_in hck
  obtain ⟨s, rfl⟩ := Int.eq_ofNat_of_zero_le hs0
  obtain ⟨t, rfl⟩ := Int.eq_ofNat_of_zero_le ht0
  obtain ⟨M, fst, hd, rv, ai, cp, bk, hMe, hG, hrows⟩ := net_rows hck
  have HSO := Lib.hid hso; have HCK := Lib.hid hck; have HG := Lib.hid hG; have HR := Lib.hid hrows; have HME := Lib.hid hMe; have HU := Lib.hid hU; have HUR := Lib.hid hUR
  clear hso hck hN1 hmem hs0 hs1 ht0 ht1 hst hG hrows hMe hU hUR
  go_enter Try.func8, Try.ntmps8
  go_wp2_with fail
  refine (HSO.out _ (hA.onAlloc _)).mono ?_
  rintro e w1 ⟨A1, n1, c1, rfl, o1, hl1, B1⟩
  have K1 : Blk w1 w.heap.size 24 #[.int .i64 N, .int .i64 S, .int .i64 T, .slice A n c] := (Blk.new rfl).below B1 (by simp)
  have hz1 := K1.lt
  obtain ⟨r0, r1, r2, r3⟩ := K1.at4
  obtain ⟨f0, f1, f2, f3⟩ := K1.free4
  have ST := some_stored K1 o1 hl1 (below_step (below_alloc _) B1) (.int .i64 (N1 : Int)) (.int .i64 (s : Int)) (.int .i64 (t : Int))
  obtain ⟨w0, hw0⟩ : ∃ w0, (((w1.setCell ⟨w.heap.size, 0, none⟩ (.int .i64 (N1 : Int))).setCell ⟨w.heap.size, 1, none⟩ (.int .i64 (s : Int))).setCell ⟨w.heap.size, 2, none⟩ (.int .i64 (t : Int))).setCell ⟨w.heap.size, 3, none⟩ (.slice A1 n1 c1) = w0 := ⟨_, rfl⟩
  rw [hw0] at ST
  obtain ⟨wb, hwb⟩ : ∃ wb, ((w0.alloc (.cells #[.int .i64 0, .int .i64 0, .int .i64 0, .slice none 0 0, .slice none 0 0, .slice none 0 0, .slice none 0 0, .slice none 0 0, .slice none 0 0] 32)).alloc (.cells #[.slice none 0 0, .slice none 0 0, .slice none 0 0] 29)) = wb := ⟨_, rfl⟩
  obtain ⟨g9, hg9⟩ : ∃ g, w0.heap.size = g := ⟨_, rfl⟩
  obtain ⟨K0, a0, Bw0⟩ := ST
  have b0b : Below w0.heap.size w0 wb := by rw [← hwb]; exact ((Below.refl _ w0).alloc (Nat.le_refl _) _).alloc (by simp) _
  have G9b : Blk wb g9 32 #[.int .i64 0, .int .i64 0, .int .i64 0, .slice none 0 0, .slice none 0 0, .slice none 0 0, .slice none 0 0, .slice none 0 0, .slice none 0 0] := by rw [← hwb, ← hg9]; exact (Blk.new rfl).alloc _
  have G10b : Blk wb (g9 + 1) 29 #[.slice none 0 0, .slice none 0 0, .slice none 0 0] := by rw [← hwb, ← hg9]; exact Blk.new (by simp)
  have hlb : w.heap.size < g9 := by rw [← hg9]; exact K0.lt
  obtain ⟨w2, hw2⟩ : ∃ w2, wb.drew = w2 := ⟨_, rfl⟩
  have hb2 : Below wb.heap.size wb w2 := by rw [← hw2]; exact (Below.refl _ wb).drew
  have G9 := G9b.below hb2 G9b.lt; have G10 := G10b.below hb2 G10b.lt
  have b02 := below_step b0b hb2
  have N2 := K0.below b02 K0.lt
  have a2 := a0.on b02
  have Bw2 := below_step Bw0 b02
  have hsz2 : g9 + 1 < w2.heap.size := G10.lt
  obtain ⟨q, hq⟩ : ∃ q, min nu 40 = q := ⟨_, rfl⟩
  have U2 : Bytes w2 w2.heap.size AU q (U.take q) := (((HU.out.below Bw2).more Bw2.size).short (m := q) (by omega))
  have hub : 0 < q → ∀ a, AU = some a → ¬ (a.block = g9 ∨ a.block = g9 + 1) := fun h0 a e => by
    obtain ⟨b, off, e', hb, -⟩ := HU.out.2 (by omega)
    rw [e'] at e
    injection e with e
    subst e
    show ¬ (b = g9 ∨ b = g9 + 1)
    omega
  have hplay := play_is N1 M s t l1 A1 n1 c1 AU q cu (U.take q) fst hd rv ai cp bk 40 #[.pointer (some ⟨g9, 0, none⟩), .pointer (some ⟨g9 + 1, 0, none⟩)] (fun k => k = g9 ∨ k = g9 + 1) w.heap.size
    (fun K S Q W => Blk W g9 32 #[.int .i64 (N1 : Int), .int .i64 (s : Int), .int .i64 (t : Int), .slice K.AF (N1 + 1) K.cF, .slice K.AH M K.cH, .slice K.AR M K.cR, .slice K.AC M K.cC, .slice K.AA M K.cA, .slice K.AB M K.cB] ∧ Blk W (g9 + 1) 29 #[.slice Q.AX M Q.cX, .slice Q.AE N1 Q.cE, .slice Q.AH N1 Q.cH])
    (fun W => (∃ v0 v1 v2 v3 v4 v5 v6 v7 v8, Blk W g9 32 #[v0, v1, v2, v3, v4, v5, v6, v7, v8]) ∧ ∃ x y z, Blk W (g9 + 1) 29 #[x, y, z]) w2 a2 HCK.out HME.out HG.out HR.out U2 (by omega) (fun x hx => HUR.out x (List.mem_of_mem_take hx)) (fun k hk => by omega) hub (by omega)
    (fun K S Q W W' h hb => ⟨h.1.below hb (by omega), h.2.below hb (by omega)⟩) (fun W hb => ⟨⟨_, _, _, _, _, _, _, _, _, G9.below hb G9.lt⟩, _, _, _, G10.below hb G10.lt⟩)
    (fun K Q W hkz hi _ _ => (pw1_is N1 M s t K Q Q g9 (g9 + 1) w.heap.size W (by omega) hi.1 hi.2 (by omega)).mono fun e W' h => ⟨h.1, ⟨h.2.1, h.2.2.1⟩, h.2.2.2⟩)
    (fun K S S' Q Q' W hkz hj _ _ _ _ _ _ => (pw1_is N1 M s t K Q Q' g9 (g9 + 1) w.heap.size W (by omega) ⟨_, _, _, _, _, _, _, _, _, hj.1⟩ ⟨_, _, _, hj.2⟩ (by omega)).mono fun e W' h => ⟨h.1, ⟨h.2.1, h.2.2.1⟩, h.2.2.2⟩)
    (enters_of Try.func40 (by kernel_rfl) rfl)
  have HPLAY := Lib.hid hplay; have HB2 := Lib.hid Bw2; have HN2 := Lib.hid N2
  have HGG := Lib.hid (And.intro hlb hsz2)
  have h0q : (0 : Int) ≤ (q : Int) := by omega
  have hqc : (q : Int) ≤ (cu : Int) := by omega
  have hsl := bytes_slice AU nu cu q (by omega)
  have hm1 : min (nu : Int) 40 = (q : Int) := by omega
  have hm2 : (if (40 : Int) < (nu : Int) then (40 : Int) else (nu : Int)) = (q : Int) := by rw [← hm1]; split <;> omega
  have hm3 : (if 40 < nu then (40 : Int) else (nu : Int)) = (q : Int) := by rw [← hm1]; split <;> omega
  have hm4 : (if (nu : Int) < 40 then (nu : Int) else (40 : Int)) = (q : Int) := by rw [← hm1]; split <;> omega
  have hm5 : (if nu < 40 then (nu : Int) else (40 : Int)) = (q : Int) := by rw [← hm1]; split <;> omega
  have HN4 := Lib.hid N2.at4
  clear hplay Bw2 K0 a0 Bw0 U2 a2 hq G9b G10b G9 G10 b0b b02 hb2 hub hlb hsz2 N2 K1 o1 B1 HSO
  go_wp2_with fail
  clear hw0 hwb hg9 f0 f1 f2 f3 hz1 r0 r1 r2 r3
  refine wp_region_held_drew (S := fun W' => W'.cell? ⟨w.heap.size, 0, none⟩ = some (.int .i64 (N1 : Int)) ∧ W'.cell? ⟨w.heap.size, 1, none⟩ = some (.int .i64 (s : Int)) ∧ W'.cell? ⟨w.heap.size, 2, none⟩ = some (.int .i64 (t : Int)) ∧ W'.cell? ⟨w.heap.size, 3, none⟩ = some (.slice A1 n1 c1)) (by kernel_rfl) (by rw [hw2]; exact HN4.out) (fun hS0 => ?_)
  rw [hw2] at hS0 ⊢
  clear hw2
  refine takeD (i := 0) (v := ?_) (some 22) rfl rfl (by kernel_rfl) (by kernel_rfl) (by kernel_rfl) (fun _ _ _ h => h) (Or.inl ⟨by rfl, ?_⟩) (by assumption) ?_
  rotate_left
  · (intro W hSw; obtain ⟨r0, r1, r2, r3⟩ := hSw; go_simp; try with_reducible rfl)
  simp only [Act.put, List.setIfInBounds_toArray, List.set_cons_zero, List.set_cons_succ]
  refine takeD (i := 1) (v := ?_) (some 23) rfl rfl (by kernel_rfl) (by kernel_rfl) (by kernel_rfl) (fun _ _ _ h => h) (Or.inl ⟨by rfl, ?_⟩) (by assumption) ?_
  rotate_left
  · (intro W hSw; obtain ⟨r0, r1, r2, r3⟩ := hSw; go_simp; try with_reducible rfl)
  simp only [Act.put, List.setIfInBounds_toArray, List.set_cons_zero, List.set_cons_succ]
  refine takeD (i := 2) (v := ?_) (some 24) rfl rfl (by kernel_rfl) (by kernel_rfl) (by kernel_rfl) (fun _ _ _ h => h) (Or.inl ⟨by rfl, ?_⟩) (by assumption) ?_
  rotate_left
  · (intro W hSw; obtain ⟨r0, r1, r2, r3⟩ := hSw; go_simp; try with_reducible rfl)
  simp only [Act.put, List.setIfInBounds_toArray, List.set_cons_zero, List.set_cons_succ]
  refine takeD (i := 3) (v := ?_) (some 25) rfl rfl (by kernel_rfl) (by kernel_rfl) (by kernel_rfl) (fun _ _ _ h => h) (Or.inl ⟨by rfl, ?_⟩) (by assumption) ?_
  rotate_left
  · (intro W hSw; obtain ⟨r0, r1, r2, r3⟩ := hSw; go_simp; try with_reducible rfl)
  simp only [Act.put, List.setIfInBounds_toArray, List.set_cons_zero, List.set_cons_succ]
  refine takeD (i := 4) (v := ?_) (some 26) rfl rfl (by kernel_rfl) (by kernel_rfl) (by kernel_rfl) (fun _ _ _ h => h) (Or.inl ⟨by rfl, ?_⟩) (by assumption) ?_
  rotate_left
  · (intro W hSw; obtain ⟨r0, r1, r2, r3⟩ := hSw; go_simp; try with_reducible rfl)
  simp only [Act.put, List.setIfInBounds_toArray, List.set_cons_zero, List.set_cons_succ]
  refine takeD (i := 5) (v := ?_) (some 27) rfl rfl (by kernel_rfl) (by kernel_rfl) (by kernel_rfl) (fun _ _ _ h => h) (Or.inl ⟨by rfl, ?_⟩) (by assumption) ?_
  rotate_left
  · (intro W hSw; obtain ⟨r0, r1, r2, r3⟩ := hSw; go_simp; try with_reducible rfl)
  simp only [Act.put, List.setIfInBounds_toArray, List.set_cons_zero, List.set_cons_succ]
  refine takeD (i := 6) (v := ?_) (some 28) rfl rfl (by kernel_rfl) (by kernel_rfl) (by kernel_rfl) (fun _ _ _ h => h) (Or.inl ⟨by rfl, ?_⟩) (by assumption) ?_
  rotate_left
  · (intro W hSw; obtain ⟨r0, r1, r2, r3⟩ := hSw; go_simp; try with_reducible rfl)
  simp only [Act.put, List.setIfInBounds_toArray, List.set_cons_zero, List.set_cons_succ]
  refine wpAnyH_ready (rs := [7]) (by kernel_rfl) (by simp) ?_
  refine AllReadyH.cons rfl (fun K hK => ?_) (AllReadyH.nil)
  go_simp
  refine HPLAY.out.mono ?_
  rintro e W3 ⟨rfl, KC, ⟨X, E, H⟩, Q, hpi, -, hsi, -, hok, hj, hkz⟩
  have hn3 := hkz.kps.blk HN2.out (by have := HGG.out; omega)
  refine hK.out _ _ hn3.at4 (fun hSa => ?_)
  clear hK K
  try simp only [Act.put, List.setIfInBounds_toArray, List.set_cons_zero, List.set_cons_succ]
  refine takeD (i := 8) (v := ?_) (some 30) rfl rfl (by kernel_rfl) (by kernel_rfl) (by kernel_rfl) (fun _ _ _ h => h) (Or.inl ⟨by rfl, ?_⟩) (by assumption) ?_
  rotate_left
  · (intro W hSw; obtain ⟨r0, r1, r2, r3⟩ := hSw; go_simp; try with_reducible rfl)
  simp only [Act.put, List.setIfInBounds_toArray, List.set_cons_zero, List.set_cons_succ]
  refine wpAnyH_done (by kernel_rfl) ?_ _
  dsimp only [OkS] at hsi hok
  have hM := HG.out.nM; have hN := HG.out.nN; have hsN := HG.out.hs; have htN := HG.out.ht; have hn2 := HG.out.n2
  have HB3 := Lib.hid (HB2.out.trans hkz.bel)
  have hpush := fun W (hb : Below W3.heap.size W3 W) => push_is N1 M s t KC Q fst hd rv ai cp bk X E H (M : Int) W HG.out (hpi.on hb) (hsi.on hb) hok
  have hlift := fun (u : Int) W (hb : Below W3.heap.size W3 W) => lift_is N1 M s t KC Q fst hd rv ai cp bk X E H u W HG.out (hpi.on hb) (hsi.on hb) hok
  have hcopy := fun W (hb : Below W3.heap.size W3 W) => pcopy_is M N1 N1 Q X E H W (hsi.on hb) (by omega) (by omega) (by omega)
  have hrgt := fun W (hb : Below W3.heap.size W3 W) => pright_is N1 M s t M N1 N1 KC Q fst hd rv ai cp bk X E H W HG.out (hpi.on hb) (hsi.on hb) (hok.inX HG.out) (hok.inH HG.out) true ⟨fun _ => ⟨rfl, rfl, rfl, hok⟩, fun _ => rfl⟩
  have hrgtq := fun nX nE nH Q' X' E' H' W (hb : Below W3.heap.size W3 W) (hq : StIn W W.heap.size nX nE nH Q' X' E' H') h1 h2 (h3 : ¬ (nX = M ∧ nE = N1 ∧ nH = N1 ∧ StIs N1 M s t hd rv cp X' E' H')) => pright_is N1 M s t nX nE nH KC Q' fst hd rv ai cp bk X' E' H' W HG.out (hpi.on hb) hq h1 h2 false ⟨fun h => (by cases h), fun h => absurd h h3⟩
  have e1 : pushS M s t hd rv X E H (M : Int) = (0, [], [], []) := by unfold pushS; rw [pushC_none]; rfl
  have e2 : liftS N1 s t fst hd rv X E H (N1 : Int) = ([], [], []) := by unfold liftS; rw [liftC_none]; rfl
  have e3 : liftS N1 s t fst hd rv X E H (s : Int) = ([], [], []) := by unfold liftS; rw [liftC_src hsN]; rfl
  simp only [e1, pushC_none] at hpush
  have hlift1 := hlift (N1 : Int); have hlift2 := hlift (s : Int)
  simp only [e2, liftC_none] at hlift1
  simp only [e3, liftC_src hsN] at hlift2
  have HPU := Lib.hid hpush; have HL1 := Lib.hid hlift1; have HL2 := Lib.hid hlift2; have HCO := Lib.hid hcopy; have HRT := Lib.hid hrgt; have HRQ := Lib.hid hrgtq
  have HC := Lib.hid hj.1; have HP := Lib.hid hj.2; have HOK := Lib.hid hok
  have HB := Lib.hid (Below.refl W3.heap.size W3)
  clear hpush hlift hlift1 hlift2 hcopy hrgt hrgtq e1 e2 e3 hj hok hpi hsi hkz hn3 hSa hS0
  obtain ⟨AF, cF, AH, cH, AR, cR, AC, cC, AA, cA, AB, cB⟩ := KC
  obtain ⟨AX, cX, AE, cE, AHH, cHH⟩ := Q
  dsimp only [csrW, preW] at HPU HL1 HL2 HCO HRT HRQ HC HP ⊢
  have hcc := HC.out.below HB.out HC.out.lt; have hpp := HP.out.below HB.out HP.out.lt
  obtain ⟨a0, a1, a2, a3, a4, a5, a6, a7, a8⟩ := hcc.at9
  obtain ⟨⟨p0, p1, p2⟩, -, hz2⟩ := hpp.full3
  have hz1 := hcc.lt
  clear hcc hpp
  go_wp2_with fail
  refine (HPU.out _ HB.out).mono ?_
  rintro e w4 ⟨⟨X4, cX4, E4, cE4, H4, cH4⟩, rfl, HX4⟩
  simp only [List.length_nil]
  obtain ⟨w5, hw5⟩ : ∃ W, w4.alloc (.cells #[.slice X4 0 cX4, .slice E4 0 cE4, .slice H4 0 cH4] 29) = W := ⟨_, rfl⟩
  have HB5 := Lib.hid (below_step (below_step HB.out HX4.bel) (show Below w4.heap.size w4 w5 by rw [← hw5]; exact below_alloc _))
  clear a0 a1 a2 a3 a4 a5 a6 a7 a8 p0 p1 p2 hz1 hz2
  have hcc := HC.out.below HB5.out HC.out.lt; have hpp := HP.out.below HB5.out HP.out.lt
  obtain ⟨a0, a1, a2, a3, a4, a5, a6, a7, a8⟩ := hcc.at9
  obtain ⟨⟨p0, p1, p2⟩, -, hz2⟩ := hpp.full3
  have hz1 := hcc.lt
  clear hcc hpp
  go_wp2_with fail
  clear hw5
  refine (HL1.out _ HB5.out).mono ?_
  rintro e w6 ⟨⟨X6, cX6, E6, cE6, H6, cH6⟩, rfl, HX6⟩
  simp only [List.length_nil]
  obtain ⟨w7, hw7⟩ : ∃ W, w6.alloc (.cells #[.slice X6 0 cX6, .slice E6 0 cE6, .slice H6 0 cH6] 29) = W := ⟨_, rfl⟩
  have HB7 := Lib.hid (below_step (below_step HB5.out HX6.bel) (show Below w6.heap.size w6 w7 by rw [← hw7]; exact below_alloc _))
  clear a0 a1 a2 a3 a4 a5 a6 a7 a8 p0 p1 p2 hz1 hz2
  have hcc := HC.out.below HB7.out HC.out.lt; have hpp := HP.out.below HB7.out HP.out.lt
  obtain ⟨a0, a1, a2, a3, a4, a5, a6, a7, a8⟩ := hcc.at9
  obtain ⟨⟨p0, p1, p2⟩, -, hz2⟩ := hpp.full3
  have hz1 := hcc.lt
  clear hcc hpp
  go_wp2_with fail
  clear hw7
  refine (HL2.out _ HB7.out).mono ?_
  rintro e w8 ⟨⟨X8, cX8, E8, cE8, H8, cH8⟩, rfl, HX8⟩
  simp only [List.length_nil]
  obtain ⟨w9, hw9⟩ : ∃ W, w8.alloc (.cells #[.slice X8 0 cX8, .slice E8 0 cE8, .slice H8 0 cH8] 29) = W := ⟨_, rfl⟩
  have HB9 := Lib.hid (below_step (below_step HB7.out HX8.bel) (show Below w8.heap.size w8 w9 by rw [← hw9]; exact below_alloc _))
  clear a0 a1 a2 a3 a4 a5 a6 a7 a8 p0 p1 p2 hz1 hz2
  have hcc := HC.out.below HB9.out HC.out.lt; have hpp := HP.out.below HB9.out HP.out.lt
  obtain ⟨a0, a1, a2, a3, a4, a5, a6, a7, a8⟩ := hcc.at9
  obtain ⟨⟨p0, p1, p2⟩, -, hz2⟩ := hpp.full3
  have hz1 := hcc.lt
  clear hcc hpp
  go_wp2_with fail
  clear hw9
  refine (HCO.out _ HB9.out).mono ?_
  rintro e w10 ⟨⟨AX2, cX2, AE2, cE2, AH2, cH2⟩, rfl, HX10⟩
  dsimp only [preW] at HX10 ⊢
  obtain ⟨w11, hw11⟩ : ∃ W, w10.alloc (.cells #[.slice AX2 M cX2, .slice AE2 N1 cE2, .slice AH2 N1 cH2] 29) = W := ⟨_, rfl⟩
  have b1011 : Below w10.heap.size w10 w11 := by rw [← hw11]; exact below_alloc _
  have HQB := Lib.hid (show Blk w11 w10.heap.size 29 #[.slice AX2 M cX2, .slice AE2 N1 cE2, .slice AH2 N1 cH2] by rw [← hw11]; exact Blk.new rfl)
  have hz39 := HB9.out.size
  have HX11 := Lib.hid ((HX10.on b1011).low (base' := W3.heap.size) hz39 HB9.out)
  have HZ10 := Lib.hid (show W3.heap.size ≤ w10.heap.size by have := HX10.bas; omega)
  have HB11 := Lib.hid (below_step (below_step HB9.out HX10.bel) b1011)
  have hcc := HC.out.below HB11.out HC.out.lt; have hpp := HP.out.below HB11.out HP.out.lt
  obtain ⟨a0, a1, a2, a3, a4, a5, a6, a7, a8⟩ := hcc.at9
  obtain ⟨⟨p0, p1, p2⟩, -, hz2⟩ := hpp.full3
  have hz1 := hcc.lt
  clear hcc hpp
  obtain ⟨gQ, hgQ⟩ : ∃ g, w10.heap.size = g := ⟨_, rfl⟩
  rw [hgQ] at HQB HZ10
  clear HX10 b1011 hz39 HPU HL1 HL2 HCO
  obtain ⟨v, hv⟩ : ∃ v, at' % N1 = v := ⟨_, rfl⟩
  have hvN : v < N1 := by rw [← hv]; exact Nat.mod_lt _ (by omega)
  have hvt : (at' : Int).tmod (N1 : Int) = (v : Int) := by rw [Int.tmod_eq_emod_of_nonneg (by omega), ← hv]; omega
  have hN0 : ¬ N1 = 0 := by omega
  have HV := Lib.hid hv
  clear hv
  obtain ⟨⟨d0, d1, d2⟩, ⟨e0, e1, e2⟩, hz3⟩ := HQB.out.full3
  have hcs : wh % 6 = 0 ∨ wh % 6 = 1 ∨ wh % 6 = 2 ∨ wh % 6 = 3 ∨ wh % 6 = 4 ∨ wh % 6 = 5 := by omega
  have hbig := HG.out.big X HOK.out.bal
  have HBIG := Lib.hid hbig
  clear hbig
  rcases hcs with hr | hr | hr | hr | hr | hr
  · have hrt : (wh : Int).tmod 6 = 0 := by rw [Int.tmod_eq_emod_of_nonneg (by omega)]; omega
    obtain ⟨gR, hgR⟩ := own_some (n := N1) (A := AE2) (HX11.out.held.own 1 _ rfl) (by omega)
    subst hgR
    obtain ⟨hc, hf9, hzR, hbR⟩ := HX11.out.cell (i := 1) (j := v) rfl hvN (lvs_at (by rw [HOK.out.le]; exact hvN))
    obtain ⟨y, hy⟩ : ∃ y, hOf E v = y := ⟨_, rfl⟩
    have HY := Lib.hid hy
    rw [hy] at hc
    have hyb : -4611686018427387904 ≤ y ∧ y ≤ 4611686018427387904 := by have h1 := HBIG.out v hvN; rw [← HOK.out.exc v hvN, HY.out] at h1; unfold maxSum at h1; omega
    have hwr : IntKind.i64.wrap (y + 1) = y + 1 := wrap_in (by omega) (by omega)
    have nR := own_apart (n := N1) (g := gR) (HX11.out.held.own 1 _ rfl) HQB.out (show (2 : TypeId) ≠ 29 by decide)
    obtain ⟨w12, hw12⟩ : ∃ W, w11.setCell ⟨gR, v, none⟩ (.int .i64 (y + 1)) = W := ⟨_, rfl⟩
    have hx12 : Hx W3 w12 W3.heap.size (pstR M N1 N1 ⟨AX2, cX2, some ⟨gR, 0, none⟩, cE2, AH2, cH2⟩ X (E.set v (y + 1)) H) := by
      have h := HX11.out.put (i := 1) rfl v (.int .i64 (y + 1))
      simp only [List.set_cons_succ, List.set_cons_zero] at h
      rw [← lvs_set, hw12] at h
      exact h
    have HQ12 := Lib.hid (show Blk w12 gQ _ _ by rw [← hw12]; exact HQB.out.far (p := ⟨gR, v, none⟩) nR (.int .i64 (y + 1)))
    have HX12 := Lib.hid hx12
    have HB12 := Lib.hid hx12.bel
    have hcc := HC.out.below HB12.out HC.out.lt; have hpp := HP.out.below HB12.out HP.out.lt
    obtain ⟨b0, b1, b2, b3, b4, b5, b6, b7, b8⟩ := hcc.at9
    obtain ⟨⟨m0, m1, m2⟩, -, hz5⟩ := hpp.full3
    have hz6 := hcc.lt
    clear hcc hpp
    obtain ⟨⟨i0, i1, i2⟩, -, hz7⟩ := HQ12.out.full3
    clear hx12 nR HX11 HQB hyb hy
    have hwrong := wrong0 HOK.out hvN
    rw [HY.out] at hwrong
    have HWR := Lib.hid hwrong
    clear hwrong
    go_wp2_with fail
    clear hw11 hgQ hw12 hc hf9 a0 a1 a2 a3 a4 a5 a6 a7 a8 p0 p1 p2 hz1 hz2 d0 d1 d2 e0 e1 e2 hz3
    refine (HRQ.out M N1 N1 ⟨AX2, cX2, some ⟨gR, 0, none⟩, cE2, AH2, cH2⟩ X (E.set v (y + 1)) H w12 HB12.out (HX12.out.st HOK.out.bal.1 (by rw [List.length_set]; exact HOK.out.le) HOK.out.lh) (HOK.out.inX HG.out) (HOK.out.inH HG.out) (fun h => HWR.out h.2.2.2)).mono ?_
    rintro e w13 ⟨rfl, B13⟩
    have HB13 := Lib.hid (below_step HB12.out B13)
    clear b0 b1 b2 b3 b4 b5 b6 b7 b8 m0 m1 m2 i0 i1 i2 hz5 hz6 hz7 B13
    have hcc := HC.out.below HB13.out HC.out.lt; have hpp := HP.out.below HB13.out HP.out.lt
    obtain ⟨b0, b1, b2, b3, b4, b5, b6, b7, b8⟩ := hcc.at9
    obtain ⟨⟨m0, m1, m2⟩, -, hz5⟩ := hpp.full3
    have hz6 := hcc.lt
    clear hcc hpp
    go_wp2_with fail
    refine (HRT.out _ HB13.out).mono ?_
    rintro e w14 ⟨rfl, B14⟩
    have HB14 := Lib.hid (below_step HB13.out B14)
    clear b0 b1 b2 b3 b4 b5 b6 b7 b8 m0 m1 m2 hz5 hz6 B14 HRT HRQ HX12
    go_wp2_with fail
    refine (awake7_is _).mono ?_
    rintro e w15 ⟨rfl, B15⟩
    go_wp2_with fail
    go_ret
    exact ⟨rfl, below_step HB3.out (below_step HB14.out B15)⟩
  · have hrt : (wh : Int).tmod 6 = 1 := by rw [Int.tmod_eq_emod_of_nonneg (by omega)]; omega
    obtain ⟨gR, hgR⟩ := own_some (n := N1) (A := AH2) (HX11.out.held.own 2 _ rfl) (by omega)
    subst hgR
    obtain ⟨hc, hf9, hzR, hbR⟩ := HX11.out.cell (i := 2) (j := s) rfl hsN (lvs_at (by rw [HOK.out.lh]; exact hsN))
    obtain ⟨y, hy⟩ : ∃ y, hOf H s = y := ⟨_, rfl⟩
    have HY := Lib.hid hy
    rw [hy] at hc
    have hyb : -4611686018427387904 ≤ y ∧ y ≤ 4611686018427387904 := by have h1 := HOK.out.src; rw [HY.out] at h1; omega
    have hwr : IntKind.i64.wrap (y + 1) = y + 1 := wrap_in (by omega) (by omega)
    have nR := own_apart (n := N1) (g := gR) (HX11.out.held.own 2 _ rfl) HQB.out (show (3 : TypeId) ≠ 29 by decide)
    obtain ⟨w12, hw12⟩ : ∃ W, w11.setCell ⟨gR, s, none⟩ (.int .i64 (y + 1)) = W := ⟨_, rfl⟩
    have hx12 : Hx W3 w12 W3.heap.size (pstR M N1 N1 ⟨AX2, cX2, AE2, cE2, some ⟨gR, 0, none⟩, cH2⟩ X E (H.set s (y + 1))) := by
      have h := HX11.out.put (i := 2) rfl s (.int .i64 (y + 1))
      simp only [List.set_cons_succ, List.set_cons_zero] at h
      rw [← lvs_set, hw12] at h
      exact h
    have HQ12 := Lib.hid (show Blk w12 gQ _ _ by rw [← hw12]; exact HQB.out.far (p := ⟨gR, s, none⟩) nR (.int .i64 (y + 1)))
    have HX12 := Lib.hid hx12
    have HB12 := Lib.hid hx12.bel
    have hcc := HC.out.below HB12.out HC.out.lt; have hpp := HP.out.below HB12.out HP.out.lt
    obtain ⟨b0, b1, b2, b3, b4, b5, b6, b7, b8⟩ := hcc.at9
    obtain ⟨⟨m0, m1, m2⟩, -, hz5⟩ := hpp.full3
    have hz6 := hcc.lt
    clear hcc hpp
    obtain ⟨⟨i0, i1, i2⟩, -, hz7⟩ := HQ12.out.full3
    clear hx12 nR HX11 HQB hyb hy
    have hwrong := wrong1 HG.out HOK.out
    rw [HY.out] at hwrong
    have HWR := Lib.hid hwrong
    clear hwrong
    have hin : InR (y + 1) := by have h1 := HOK.out.src; rw [HY.out] at h1; unfold InR; omega
    have HIN := Lib.hid hin
    clear hin
    go_wp2_with fail
    clear hw11 hgQ hw12 hc hf9 a0 a1 a2 a3 a4 a5 a6 a7 a8 p0 p1 p2 hz1 hz2 d0 d1 d2 e0 e1 e2 hz3
    refine (HRQ.out M N1 N1 ⟨AX2, cX2, AE2, cE2, some ⟨gR, 0, none⟩, cH2⟩ X E (H.set s (y + 1)) w12 HB12.out (HX12.out.st HOK.out.bal.1 HOK.out.le (by rw [List.length_set]; exact HOK.out.lh)) (HOK.out.inX HG.out) (inR_set (HOK.out.inH HG.out) HIN.out) (fun h => HWR.out h.2.2.2)).mono ?_
    rintro e w13 ⟨rfl, B13⟩
    have HB13 := Lib.hid (below_step HB12.out B13)
    clear b0 b1 b2 b3 b4 b5 b6 b7 b8 m0 m1 m2 i0 i1 i2 hz5 hz6 hz7 B13
    have hcc := HC.out.below HB13.out HC.out.lt; have hpp := HP.out.below HB13.out HP.out.lt
    obtain ⟨b0, b1, b2, b3, b4, b5, b6, b7, b8⟩ := hcc.at9
    obtain ⟨⟨m0, m1, m2⟩, -, hz5⟩ := hpp.full3
    have hz6 := hcc.lt
    clear hcc hpp
    go_wp2_with fail
    refine (HRT.out _ HB13.out).mono ?_
    rintro e w14 ⟨rfl, B14⟩
    have HB14 := Lib.hid (below_step HB13.out B14)
    clear b0 b1 b2 b3 b4 b5 b6 b7 b8 m0 m1 m2 hz5 hz6 B14 HRT HRQ HX12
    go_wp2_with fail
    refine (awake7_is _).mono ?_
    rintro e w15 ⟨rfl, B15⟩
    go_wp2_with fail
    go_ret
    exact ⟨rfl, below_step HB3.out (below_step HB14.out B15)⟩
  · have hrt : (wh : Int).tmod 6 = 2 := by rw [Int.tmod_eq_emod_of_nonneg (by omega)]; omega
    obtain ⟨gR, hgR⟩ := own_some (n := N1) (A := AH2) (HX11.out.held.own 2 _ rfl) (by omega)
    subst hgR
    obtain ⟨hc, hf9, hzR, hbR⟩ := HX11.out.cell (i := 2) (j := t) rfl htN (lvs_at (by rw [HOK.out.lh]; exact htN))
    obtain ⟨y, hy⟩ : ∃ y, hOf H t = y := ⟨_, rfl⟩
    have HY := Lib.hid hy
    rw [hy] at hc
    have hyb : -4611686018427387904 ≤ y ∧ y ≤ 4611686018427387904 := by have h1 := HOK.out.snk; rw [HY.out] at h1; omega
    have hwr : IntKind.i64.wrap (y + 1) = y + 1 := wrap_in (by omega) (by omega)
    have nR := own_apart (n := N1) (g := gR) (HX11.out.held.own 2 _ rfl) HQB.out (show (3 : TypeId) ≠ 29 by decide)
    obtain ⟨w12, hw12⟩ : ∃ W, w11.setCell ⟨gR, t, none⟩ (.int .i64 (y + 1)) = W := ⟨_, rfl⟩
    have hx12 : Hx W3 w12 W3.heap.size (pstR M N1 N1 ⟨AX2, cX2, AE2, cE2, some ⟨gR, 0, none⟩, cH2⟩ X E (H.set t (y + 1))) := by
      have h := HX11.out.put (i := 2) rfl t (.int .i64 (y + 1))
      simp only [List.set_cons_succ, List.set_cons_zero] at h
      rw [← lvs_set, hw12] at h
      exact h
    have HQ12 := Lib.hid (show Blk w12 gQ _ _ by rw [← hw12]; exact HQB.out.far (p := ⟨gR, t, none⟩) nR (.int .i64 (y + 1)))
    have HX12 := Lib.hid hx12
    have HB12 := Lib.hid hx12.bel
    have hcc := HC.out.below HB12.out HC.out.lt; have hpp := HP.out.below HB12.out HP.out.lt
    obtain ⟨b0, b1, b2, b3, b4, b5, b6, b7, b8⟩ := hcc.at9
    obtain ⟨⟨m0, m1, m2⟩, -, hz5⟩ := hpp.full3
    have hz6 := hcc.lt
    clear hcc hpp
    obtain ⟨⟨i0, i1, i2⟩, -, hz7⟩ := HQ12.out.full3
    clear hx12 nR HX11 HQB hyb hy
    have hwrong := wrong2 HG.out HOK.out
    rw [HY.out] at hwrong
    have HWR := Lib.hid hwrong
    clear hwrong
    have hin : InR (y + 1) := by have h1 := HOK.out.snk; rw [HY.out] at h1; unfold InR; omega
    have HIN := Lib.hid hin
    clear hin
    go_wp2_with fail
    clear hw11 hgQ hw12 hc hf9 a0 a1 a2 a3 a4 a5 a6 a7 a8 p0 p1 p2 hz1 hz2 d0 d1 d2 e0 e1 e2 hz3
    refine (HRQ.out M N1 N1 ⟨AX2, cX2, AE2, cE2, some ⟨gR, 0, none⟩, cH2⟩ X E (H.set t (y + 1)) w12 HB12.out (HX12.out.st HOK.out.bal.1 HOK.out.le (by rw [List.length_set]; exact HOK.out.lh)) (HOK.out.inX HG.out) (inR_set (HOK.out.inH HG.out) HIN.out) (fun h => HWR.out h.2.2.2)).mono ?_
    rintro e w13 ⟨rfl, B13⟩
    have HB13 := Lib.hid (below_step HB12.out B13)
    clear b0 b1 b2 b3 b4 b5 b6 b7 b8 m0 m1 m2 i0 i1 i2 hz5 hz6 hz7 B13
    have hcc := HC.out.below HB13.out HC.out.lt; have hpp := HP.out.below HB13.out HP.out.lt
    obtain ⟨b0, b1, b2, b3, b4, b5, b6, b7, b8⟩ := hcc.at9
    obtain ⟨⟨m0, m1, m2⟩, -, hz5⟩ := hpp.full3
    have hz6 := hcc.lt
    clear hcc hpp
    go_wp2_with fail
    refine (HRT.out _ HB13.out).mono ?_
    rintro e w14 ⟨rfl, B14⟩
    have HB14 := Lib.hid (below_step HB13.out B14)
    clear b0 b1 b2 b3 b4 b5 b6 b7 b8 m0 m1 m2 hz5 hz6 B14 HRT HRQ HX12
    go_wp2_with fail
    refine (awake7_is _).mono ?_
    rintro e w15 ⟨rfl, B15⟩
    go_wp2_with fail
    go_ret
    exact ⟨rfl, below_step HB3.out (below_step HB14.out B15)⟩
  · have hrt : (wh : Int).tmod 6 = 3 := by rw [Int.tmod_eq_emod_of_nonneg (by omega)]; omega
    obtain ⟨gR, hgR⟩ := own_some (n := N1) (A := AH2) (HX11.out.held.own 2 _ rfl) (by omega)
    subst hgR
    obtain ⟨hc, hf9, hzR, hbR⟩ := HX11.out.cell (i := 2) (j := v) rfl hvN (lvs_at (by rw [HOK.out.lh]; exact hvN))
    obtain ⟨y, hy⟩ : ∃ y, hOf H v = y := ⟨_, rfl⟩
    have HY := Lib.hid hy
    rw [hy] at hc
    have hyb : -4611686018427387904 ≤ y ∧ y ≤ 4611686018427387904 := by have h1 := HOK.out.bnd v hvN; rw [HY.out] at h1; omega
    have hwr : IntKind.i64.wrap (y + 1) = y + 1 := wrap_in (by omega) (by omega)
    have hwr2 : IntKind.i64.wrap (2 * (N1 : Int)) = 2 * (N1 : Int) := wrap_in (by omega) (by omega)
    have nR := own_apart (n := N1) (g := gR) (HX11.out.held.own 2 _ rfl) HQB.out (show (3 : TypeId) ≠ 29 by decide)
    obtain ⟨w12, hw12⟩ : ∃ W, w11.setCell ⟨gR, v, none⟩ (.int .i64 (2 * (N1 : Int))) = W := ⟨_, rfl⟩
    have hx12 : Hx W3 w12 W3.heap.size (pstR M N1 N1 ⟨AX2, cX2, AE2, cE2, some ⟨gR, 0, none⟩, cH2⟩ X E (H.set v (2 * (N1 : Int)))) := by
      have h := HX11.out.put (i := 2) rfl v (.int .i64 (2 * (N1 : Int)))
      simp only [List.set_cons_succ, List.set_cons_zero] at h
      rw [← lvs_set, hw12] at h
      exact h
    have HQ12 := Lib.hid (show Blk w12 gQ _ _ by rw [← hw12]; exact HQB.out.far (p := ⟨gR, v, none⟩) nR (.int .i64 (2 * (N1 : Int))))
    have HX12 := Lib.hid hx12
    have HB12 := Lib.hid hx12.bel
    have hcc := HC.out.below HB12.out HC.out.lt; have hpp := HP.out.below HB12.out HP.out.lt
    obtain ⟨b0, b1, b2, b3, b4, b5, b6, b7, b8⟩ := hcc.at9
    obtain ⟨⟨m0, m1, m2⟩, -, hz5⟩ := hpp.full3
    have hz6 := hcc.lt
    clear hcc hpp
    obtain ⟨⟨i0, i1, i2⟩, -, hz7⟩ := HQ12.out.full3
    clear hx12 nR HX11 HQB hyb hy
    have hwrong := wrong3 HOK.out hvN
    have HWR := Lib.hid hwrong
    clear hwrong
    have hin : InR (2 * (N1 : Int)) := by unfold InR; omega
    have HIN := Lib.hid hin
    clear hin
    go_wp2_with fail
    clear hw11 hgQ hw12 hc hf9 a0 a1 a2 a3 a4 a5 a6 a7 a8 p0 p1 p2 hz1 hz2 d0 d1 d2 e0 e1 e2 hz3
    refine (HRQ.out M N1 N1 ⟨AX2, cX2, AE2, cE2, some ⟨gR, 0, none⟩, cH2⟩ X E (H.set v (2 * (N1 : Int))) w12 HB12.out (HX12.out.st HOK.out.bal.1 HOK.out.le (by rw [List.length_set]; exact HOK.out.lh)) (HOK.out.inX HG.out) (inR_set (HOK.out.inH HG.out) HIN.out) (fun h => HWR.out h.2.2.2)).mono ?_
    rintro e w13 ⟨rfl, B13⟩
    have HB13 := Lib.hid (below_step HB12.out B13)
    clear b0 b1 b2 b3 b4 b5 b6 b7 b8 m0 m1 m2 i0 i1 i2 hz5 hz6 hz7 B13
    have hcc := HC.out.below HB13.out HC.out.lt; have hpp := HP.out.below HB13.out HP.out.lt
    obtain ⟨b0, b1, b2, b3, b4, b5, b6, b7, b8⟩ := hcc.at9
    obtain ⟨⟨m0, m1, m2⟩, -, hz5⟩ := hpp.full3
    have hz6 := hcc.lt
    clear hcc hpp
    go_wp2_with fail
    refine (HRT.out _ HB13.out).mono ?_
    rintro e w14 ⟨rfl, B14⟩
    have HB14 := Lib.hid (below_step HB13.out B14)
    clear b0 b1 b2 b3 b4 b5 b6 b7 b8 m0 m1 m2 hz5 hz6 B14 HRT HRQ HX12
    go_wp2_with fail
    refine (awake7_is _).mono ?_
    rintro e w15 ⟨rfl, B15⟩
    go_wp2_with fail
    go_ret
    exact ⟨rfl, below_step HB3.out (below_step HB14.out B15)⟩
  · have hrt : (wh : Int).tmod 6 = 4 := by rw [Int.tmod_eq_emod_of_nonneg (by omega)]; omega
    go_wp2_with (at_builtin; refine wp_appH HX11.out rfl _ _ _ _ _ rfl one_long.wide 1 N1 cE2 AE2 _ (.int .i64 0) rfl rfl rfl rfl (by omega) (by simp) ?_)
    intro A5 c5 w5' HX5 HBK
    have q5 := HBK.out _ _ _ HQB.out (show (29 : TypeId) ≠ 2 by decide)
    obtain ⟨w12, hw12⟩ : ∃ W, w5'.setCell ⟨gQ, 1, none⟩ (.slice A5 (N1 + 1) c5) = W := ⟨_, rfl⟩
    have HQ12 := Lib.hid (show Blk w12 gQ 29 #[.slice AX2 M cX2, .slice A5 (N1 + 1) c5, .slice AH2 N1 cH2] by rw [← hw12]; exact q5.set 1 _)
    have hx5 : Hx W3 w5' W3.heap.size (pstR M (N1 + 1) N1 ⟨AX2, cX2, A5, c5, AH2, cH2⟩ X (E ++ [0]) H) := by
      have h := HX5.out
      unfold pstR lvs
      rw [List.map_append]
      exact h
    have HX12 := Lib.hid (show Hx W3 w12 W3.heap.size (pstR M (N1 + 1) N1 ⟨AX2, cX2, A5, c5, AH2, cH2⟩ X (E ++ [0]) H) by rw [← hw12]; exact hx5.far q5 pst_ne HZ10.out 1 _)
    have HB12 := Lib.hid HX12.out.bel
    have HB5 := Lib.hid hx5.bel
    obtain ⟨⟨y0, y1, y2⟩, ⟨x0, x1, x2⟩, hz8⟩ := q5.full3
    have hcc := HC.out.below HB12.out HC.out.lt; have hpp := HP.out.below HB12.out HP.out.lt
    obtain ⟨b0, b1, b2, b3, b4, b5, b6, b7, b8⟩ := hcc.at9
    obtain ⟨⟨m0, m1, m2⟩, -, hz5⟩ := hpp.full3
    have hz6 := hcc.lt
    clear hcc hpp
    obtain ⟨⟨i0, i1, i2⟩, -, hz7⟩ := HQ12.out.full3
    clear hx5 HX5 HBK q5 a0 a1 a2 a3 a4 a5 a6 a7 a8 p0 p1 p2 hz1 hz2 d0 d1 d2 e0 e1 e2 hz3 HX11 HQB hw11 hgQ
    go_wp2_with fail
    clear hw12 y0 y1 y2 x0 x1 x2 hz8
    refine (HRQ.out M (N1 + 1) N1 ⟨AX2, cX2, A5, c5, AH2, cH2⟩ X (E ++ [0]) H w12 HB12.out (HX12.out.st HOK.out.bal.1 (by rw [List.length_append, HOK.out.le]; rfl) HOK.out.lh) (HOK.out.inX HG.out) (HOK.out.inH HG.out) (fun h => by have := h.2.1; omega)).mono ?_
    rintro e w13 ⟨rfl, B13⟩
    have HB13 := Lib.hid (below_step HB12.out B13)
    clear b0 b1 b2 b3 b4 b5 b6 b7 b8 m0 m1 m2 i0 i1 i2 hz5 hz6 hz7 B13
    have hcc := HC.out.below HB13.out HC.out.lt; have hpp := HP.out.below HB13.out HP.out.lt
    obtain ⟨b0, b1, b2, b3, b4, b5, b6, b7, b8⟩ := hcc.at9
    obtain ⟨⟨m0, m1, m2⟩, -, hz5⟩ := hpp.full3
    have hz6 := hcc.lt
    clear hcc hpp
    go_wp2_with fail
    refine (HRT.out _ HB13.out).mono ?_
    rintro e w14 ⟨rfl, B14⟩
    have HB14 := Lib.hid (below_step HB13.out B14)
    clear b0 b1 b2 b3 b4 b5 b6 b7 b8 m0 m1 m2 hz5 hz6 B14 HRT HRQ HX12
    go_wp2_with fail
    refine (awake7_is _).mono ?_
    rintro e w15 ⟨rfl, B15⟩
    go_wp2_with fail
    go_ret
    exact ⟨rfl, below_step HB3.out (below_step HB14.out B15)⟩
  · have hrt : (wh : Int).tmod 6 = 5 := by rw [Int.tmod_eq_emod_of_nonneg (by omega)]; omega
    by_cases hM0 : M = 0
    · subst hM0
      go_wp2_with fail
      refine (awake7_is _).mono ?_
      rintro e w15 ⟨rfl, B15⟩
      go_wp2_with fail
      go_ret
      exact ⟨rfl, below_step HB3.out (below_step HB11.out B15)⟩
    obtain ⟨k, hk⟩ : ∃ k, at' % M = k := ⟨_, rfl⟩
    have hkM : k < M := by rw [← hk]; exact Nat.mod_lt _ (by omega)
    have hkt : (at' : Int).tmod (M : Int) = (k : Int) := by rw [Int.tmod_eq_emod_of_nonneg (by omega), ← hk]; omega
    have HK := Lib.hid hk
    have hwa : IntKind.i64.wrap (at' : Int) = (at' : Int) := wrap_in (by omega) (by omega)
    obtain ⟨gR, hgR⟩ := own_some (n := M) (A := AX2) (HX11.out.held.own 0 _ rfl) (by omega)
    subst hgR
    obtain ⟨hc, hf9, hzR, hbR⟩ := HX11.out.cell (i := 0) (j := k) rfl hkM (lvs_at (by rw [HOK.out.bal.1]; exact hkM))
    obtain ⟨y, hy⟩ : ∃ y, hOf X k = y := ⟨_, rfl⟩
    have HY := Lib.hid hy
    rw [hy] at hc
    have hyb : -4611686018427387904 ≤ y ∧ y ≤ 4611686018427387904 := by have h1 := HOK.out.bal.le HG.out hkM; rw [HY.out] at h1; unfold maxSum at h1; omega
    have hwr : IntKind.i64.wrap (y + 1) = y + 1 := wrap_in (by omega) (by omega)
    have nR := own_apart (n := M) (g := gR) (HX11.out.held.own 0 _ rfl) HQB.out (show (2 : TypeId) ≠ 29 by decide)
    obtain ⟨w12, hw12⟩ : ∃ W, w11.setCell ⟨gR, k, none⟩ (.int .i64 (y + 1)) = W := ⟨_, rfl⟩
    have hx12 : Hx W3 w12 W3.heap.size (pstR M N1 N1 ⟨some ⟨gR, 0, none⟩, cX2, AE2, cE2, AH2, cH2⟩ (X.set k (y + 1)) E H) := by
      have h := HX11.out.put (i := 0) rfl k (.int .i64 (y + 1))
      simp only [List.set_cons_zero] at h
      rw [← lvs_set, hw12] at h
      exact h
    have HQ12 := Lib.hid (show Blk w12 gQ _ _ by rw [← hw12]; exact HQB.out.far (p := ⟨gR, k, none⟩) nR (.int .i64 (y + 1)))
    have HX12 := Lib.hid hx12
    have HB12 := Lib.hid hx12.bel
    have hcc := HC.out.below HB12.out HC.out.lt; have hpp := HP.out.below HB12.out HP.out.lt
    obtain ⟨b0, b1, b2, b3, b4, b5, b6, b7, b8⟩ := hcc.at9
    obtain ⟨⟨m0, m1, m2⟩, -, hz5⟩ := hpp.full3
    have hz6 := hcc.lt
    clear hcc hpp
    obtain ⟨⟨i0, i1, i2⟩, -, hz7⟩ := HQ12.out.full3
    clear hx12 nR HX11 HQB hyb hy
    clear hk
    have hwrong := wrong5 HG.out HOK.out hkM
    rw [HY.out] at hwrong
    have HWR := Lib.hid hwrong
    clear hwrong
    have hin : InR (y + 1) := by have h1 := HOK.out.bal.le HG.out hkM; rw [HY.out] at h1; unfold maxSum at h1; unfold InR; omega
    have HIN := Lib.hid hin
    clear hin
    go_wp2_with fail
    clear hw11 hgQ
    refine wp_region_lastL (S := fun W' => (W'.cell? ⟨gQ, 0, none⟩ = some (.slice (some ⟨gR, 0, none⟩) M cX2) ∧ W'.cell? ⟨gR, k, none⟩ = some (.int .i64 y))) rfl (by kernel_rfl) (by kernel_rfl) ⟨d0, hc⟩ (fun hS0 => ?_)
    simp only [List.dropLast]
    refine takeD (i := 0) (v := ?_) (some 81) rfl rfl (by kernel_rfl) (by kernel_rfl) (by kernel_rfl) (fun _ _ _ h => h) (Or.inl ⟨by rfl, ?_⟩) (by assumption) ?_
    rotate_left
    · (intro W hSw; obtain ⟨t0, t1⟩ := hSw; go_simp; try with_reducible rfl)
    simp only [Act.put, List.setIfInBounds_toArray, List.set_cons_zero, List.set_cons_succ]
    refine takeD (i := 1) (v := ?_) (some 82) rfl rfl (by kernel_rfl) (by kernel_rfl) (by kernel_rfl) (fun _ _ _ h => h) (Or.inl ⟨by rfl, ?_⟩) (by assumption) ?_
    rotate_left
    · (intro W hSw; obtain ⟨t0, t1⟩ := hSw; go_simp; try with_reducible rfl)
    simp only [Act.put, List.setIfInBounds_toArray, List.set_cons_zero, List.set_cons_succ]
    refine takeD (i := 2) (v := ?_) (some 83) rfl rfl (by kernel_rfl) (by kernel_rfl) (by kernel_rfl) (fun _ _ _ h => h) (Or.inl ⟨by rfl, ?_⟩) (by assumption) ?_
    rotate_left
    · (intro W hSw; obtain ⟨t0, t1⟩ := hSw; go_simp; try with_reducible rfl)
    simp only [Act.put, List.setIfInBounds_toArray, List.set_cons_zero, List.set_cons_succ]
    refine takeD (i := 3) (v := ?_) (some 84) rfl rfl (by kernel_rfl) (by kernel_rfl) (by kernel_rfl) (fun _ _ _ h => h) (Or.inl ⟨by rfl, ?_⟩) (by assumption) ?_
    rotate_left
    · (intro W hSw; obtain ⟨t0, t1⟩ := hSw; go_simp; try with_reducible rfl)
    simp only [Act.put, List.setIfInBounds_toArray, List.set_cons_zero, List.set_cons_succ]
    refine takeD (i := 4) (v := ?_) (some 85) rfl rfl (by kernel_rfl) (by kernel_rfl) (by kernel_rfl) (fun _ _ _ h => h) (Or.inl ⟨by rfl, ?_⟩) (by assumption) ?_
    rotate_left
    · (intro W hSw; obtain ⟨t0, t1⟩ := hSw; go_simp; try with_reducible rfl)
    simp only [Act.put, List.setIfInBounds_toArray, List.set_cons_zero, List.set_cons_succ]
    refine takeD (i := 5) (v := ?_) (some 86) rfl rfl (by kernel_rfl) (by kernel_rfl) (by kernel_rfl) (fun _ _ _ h => h) (Or.inl ⟨by rfl, ?_⟩) (by assumption) ?_
    rotate_left
    · (intro W hSw; obtain ⟨t0, t1⟩ := hSw; go_simp; try with_reducible rfl)
    simp only [Act.put, List.setIfInBounds_toArray, List.set_cons_zero, List.set_cons_succ]
    refine takeD (i := 6) (v := ?_) (some 87) rfl rfl (by kernel_rfl) (by kernel_rfl) (by kernel_rfl) (fun _ _ _ h => h) (Or.inl ⟨by rfl, ?_⟩) (by assumption) ?_
    rotate_left
    · (intro W hSw; obtain ⟨t0, t1⟩ := hSw; go_simp; try with_reducible rfl)
    simp only [Act.put, List.setIfInBounds_toArray, List.set_cons_zero, List.set_cons_succ]
    refine takeD (i := 7) (v := ?_) (some 88) rfl rfl (by kernel_rfl) (by kernel_rfl) (by kernel_rfl) (fun _ _ _ h => h) (Or.inl ⟨by rfl, ?_⟩) (by assumption) ?_
    rotate_left
    · (intro W hSw; obtain ⟨t0, t1⟩ := hSw; go_simp; try with_reducible rfl)
    simp only [Act.put, List.setIfInBounds_toArray, List.set_cons_zero, List.set_cons_succ]
    refine takeD (i := 8) (v := ?_) (some 89) rfl rfl (by kernel_rfl) (by kernel_rfl) (by kernel_rfl) (fun _ _ _ h => h) (Or.inl ⟨by rfl, ?_⟩) (by assumption) ?_
    rotate_left
    · (intro W hSw; obtain ⟨t0, t1⟩ := hSw; go_simp; try with_reducible rfl)
    simp only [Act.put, List.setIfInBounds_toArray, List.set_cons_zero, List.set_cons_succ]
    refine takeD (i := 9) (v := ?_) (some 90) rfl rfl (by kernel_rfl) (by kernel_rfl) (by kernel_rfl) (fun _ _ _ h => h) (Or.inl ⟨by rfl, ?_⟩) (by assumption) ?_
    rotate_left
    · (intro W hSw; obtain ⟨t0, t1⟩ := hSw; go_simp; try with_reducible rfl)
    simp only [Act.put, List.setIfInBounds_toArray, List.set_cons_zero, List.set_cons_succ]
    refine takeD (i := 10) (v := ?_) (some 91) rfl rfl (by kernel_rfl) (by kernel_rfl) (by kernel_rfl) (fun _ _ _ h => h) (Or.inl ⟨by rfl, ?_⟩) (by assumption) ?_
    rotate_left
    · (intro W hSw; obtain ⟨t0, t1⟩ := hSw; go_simp; try with_reducible rfl)
    simp only [Act.put, List.setIfInBounds_toArray, List.set_cons_zero, List.set_cons_succ]
    refine takeD (i := 11) (v := ?_) (some 92) rfl rfl (by kernel_rfl) (by kernel_rfl) (by kernel_rfl) (fun _ _ _ h => h) (Or.inl ⟨by rfl, ?_⟩) (by assumption) ?_
    rotate_left
    · (intro W hSw; obtain ⟨t0, t1⟩ := hSw; go_simp; try with_reducible rfl)
    simp only [Act.put, List.setIfInBounds_toArray, List.set_cons_zero, List.set_cons_succ]
    refine wpAnyH_done (by kernel_rfl) ?_ _
    clear hS0
    go_wp2_with fail
    clear hw12 hc hf9 a0 a1 a2 a3 a4 a5 a6 a7 a8 p0 p1 p2 hz1 hz2 d0 d1 d2 e0 e1 e2 hz3
    obtain ⟨wd, hwd⟩ : ∃ W, w12.drew = W := ⟨_, rfl⟩
    have HX13 := Lib.hid (show Hx W3 wd W3.heap.size (pstR M N1 N1 ⟨some ⟨gR, 0, none⟩, cX2, AE2, cE2, AH2, cH2⟩ (X.set k (y + 1)) E H) by rw [← hwd]; exact HX12.out.drew 1)
    have HB13 := Lib.hid HX13.out.bel
    rw [hwd]
    clear hwd HX12 HB12
    have HX12 := HX13; have HB12 := HB13
    clear HX13 HB13
    refine (HRQ.out M N1 N1 ⟨some ⟨gR, 0, none⟩, cX2, AE2, cE2, AH2, cH2⟩ (X.set k (y + 1)) E H wd HB12.out (HX12.out.st (by rw [List.length_set]; exact HOK.out.bal.1) HOK.out.le HOK.out.lh) (inR_set (HOK.out.inX HG.out) HIN.out) (HOK.out.inH HG.out) (fun h => HWR.out h.2.2.2)).mono ?_
    rintro e w13 ⟨rfl, B13⟩
    have HB13 := Lib.hid (below_step HB12.out B13)
    clear b0 b1 b2 b3 b4 b5 b6 b7 b8 m0 m1 m2 i0 i1 i2 hz5 hz6 hz7 B13
    have hcc := HC.out.below HB13.out HC.out.lt; have hpp := HP.out.below HB13.out HP.out.lt
    obtain ⟨b0, b1, b2, b3, b4, b5, b6, b7, b8⟩ := hcc.at9
    obtain ⟨⟨m0, m1, m2⟩, -, hz5⟩ := hpp.full3
    have hz6 := hcc.lt
    clear hcc hpp
    go_wp2_with fail
    refine (HRT.out _ HB13.out).mono ?_
    rintro e w14 ⟨rfl, B14⟩
    have HB14 := Lib.hid (below_step HB13.out B14)
    clear b0 b1 b2 b3 b4 b5 b6 b7 b8 m0 m1 m2 hz5 hz6 B14 HRT HRQ HX12
    go_wp2_with fail
    refine (awake7_is _).mono ?_
    rintro e w15 ⟨rfl, B15⟩
    go_wp2_with fail
    go_ret
    exact ⟨rfl, below_step HB3.out (below_step HB14.out B15)⟩

end Go.Proofs.Ytgjokddcaadjdaa
