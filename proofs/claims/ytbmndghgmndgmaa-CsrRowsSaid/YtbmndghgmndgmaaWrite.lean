/- Layer 2: write. -/
import Derived.Test.YtbmndghgmndgmaaPut
import Derived.Test.YtbmndghgmndgmaaCsrq
import Derived.RegionTactic
namespace Go.Proofs.Ytbmndghgmndgmaa
open Go.RowKit

set_option maxHeartbeats 4000000 in
theorem write_any (N M n0 : Nat) (S T : Int) (gF gH gR gC gA gB : Nat) (A : Option Addr) (n c : Nat) (l : List ArcN) (w : World) (hA : Arcs w n0 A n l) (hn : n ≤ 1000000000) (hN : N ≤ 4096) (hE : EndsIn N l) (hMe : firstOf l N = M)
    (hn0 : n0 ≤ w.heap.size) (hg : n0 ≤ gF ∧ n0 ≤ gH ∧ n0 ≤ gR ∧ n0 ≤ gC ∧ n0 ≤ gA ∧ n0 ≤ gB)
    (CB : CsrBlk w (tab (N + 1) fun v => (firstOf l v : Int)) (List.replicate M 0) (List.replicate M 0) (List.replicate M 0) (List.replicate M 0) (List.replicate M false) gF gH gR gC gA gB) :
    Calls Try.prog 21 #[csrV N M S T gF gH gR gC gA gB, .slice A n c] w fun e w' =>
      e = .returned (.tuple #[]) ∧ (∃ (H R C Ac : List Int) (B : List Bool), Part l M l.length H R C Ac B ∧ CsrBlk w' (tab (N + 1) fun v => (firstOf l v : Int)) H R C Ac B gF gH gR gC gA gB) ∧ Below n0 w w' ∧
      (∀ g t cs, Blk w g t cs → t ≠ 3 → t ≠ 2 → t ≠ 4 → Blk w' g t cs) := by
  have hM : M ≤ 5000000000000 := by
    have h1 := firstOf_le l N; have h3 := hA.len
    have h4 := Nat.mul_le_mul (show N ≤ 4096 by omega) (show l.length ≤ 1000000000 by omega)
    omega
  go_enter Try.func21, Try.ntmps21
  go_wp2_with fail
  have C0 := CB.alloc (.cells #[.int .i64 N, .int .i64 S, .int .i64 T, .slice (some ⟨gF, 0, none⟩) (N + 1) (N + 1), .slice (some ⟨gH, 0, none⟩) M M, .slice (some ⟨gR, 0, none⟩) M M, .slice (some ⟨gC, 0, none⟩) M M, .slice (some ⟨gA, 0, none⟩) M M, .slice (some ⟨gB, 0, none⟩) M M] 30)
  have K0 : Blk (w.alloc (.cells #[.int .i64 N, .int .i64 S, .int .i64 T, .slice (some ⟨gF, 0, none⟩) (N + 1) (N + 1), .slice (some ⟨gH, 0, none⟩) M M, .slice (some ⟨gR, 0, none⟩) M M, .slice (some ⟨gC, 0, none⟩) M M, .slice (some ⟨gA, 0, none⟩) M M, .slice (some ⟨gB, 0, none⟩) M M] 30)) w.heap.size 30 _ := Blk.new rfl
  refine (clone_any _ _ _ _ _ (C0.kF.ints (tab_len _ _)) (by omega)).mono ?_
  rintro e w1 ⟨Ar, cr, rfl, O, B1⟩
  obtain ⟨gr, rfl, hgr, hgr'⟩ := own_form O (by omega)
  obtain ⟨cur, KR⟩ := own_blk O
  have C1 := C0.on B1
  have K1 := K0.below B1 K0.lt
  have hw1 : w.heap.size < w1.heap.size := K1.lt
  have hgr2 : w.heap.size < gr := by simp at hgr; omega
  have F0 : FreeAt l N 0 cur := FreeAt.zero fun v hv => by
    rw [← KR.cell v, O.cellAt v (by omega), ← ivs_flat]
    simp [tab_at (show v < N + 1 by omega)]
  have Bw : Below n0 w w1 := ((Below.refl _ _).alloc hn0 _).trans (B1.mono (by simp; omega))
  have hl0 := CB.lts
  have KP1 : (∀ g t cs, Blk w g t cs → t ≠ 3 → t ≠ 2 → t ≠ 4 → Blk w1 g t cs) := fun g t cs h _ _ _ => (h.alloc _).below B1 (h.alloc _).lt
  clear C0 K0 B1 CB O hgr
  go_wp2_with fail
  go_loopw [6, 7, 8, 9, 16] (fun _ _ _ _ i wr => ∃ (k : Nat) (cur : Array Value) (H R C Ac : List Int) (B : List Bool), k ≤ n ∧ i = .int .i64 k ∧ FreeAt l N k cur ∧ Part l M k H R C Ac B ∧ Blk wr gr 3 cur ∧
      CsrBlk wr (tab (N + 1) fun v => (firstOf l v : Int)) H R C Ac B gF gH gR gC gA gB ∧
      Blk wr w.heap.size 30 #[.int .i64 N, .int .i64 S, .int .i64 T, .slice (some ⟨gF, 0, none⟩) (N + 1) (N + 1), .slice (some ⟨gH, 0, none⟩) M M, .slice (some ⟨gR, 0, none⟩) M M, .slice (some ⟨gC, 0, none⟩) M M, .slice (some ⟨gA, 0, none⟩) M M, .slice (some ⟨gB, 0, none⟩) M M] ∧
      Blk wr w1.heap.size 26 #[.slice (some ⟨gr, 0, none⟩) (N + 1) cr] ∧ Below n0 w wr ∧ (∀ g t cs, Blk w g t cs → t ≠ 3 → t ≠ 2 → t ≠ 4 → Blk wr g t cs)) (fun _ _ _ _ i _ => n - (intOf i).toNat)
  case atStart => exact ⟨0, cur, _, _, _, _, _, Nat.zero_le _, rfl, F0, Part.zero l M, KR.alloc _, C1.alloc _, K1.alloc _, Blk.new rfl, Bw.alloc (by omega) _, fun g t cs h h1 h2 h3 => (KP1 g t cs h h1 h2 h3).alloc _⟩
  case round =>
    clear F0 KR C1 K1 Bw KP1
    obtain ⟨k, cur, H, R, C, Ac, B, hk, rfl, F0, P0, KR, C1, K1, K2, Bw, KP⟩ := hrel
    have hz1 := K1.lt
    have hz2 := K2.lt
    have hl := C1.lts
    have HKP := Lib.hid KP; clear KP
    by_cases hlt : k < n
    · obtain ⟨b, off, ⟨x, y, z⟩, rfl, hbl, hla, d0, d1, d2⟩ := arcs_at (hA.below Bw) hlt
      have hx := hE _ (mem_at hla)
      simp only at d0 d1 d2 hx
      obtain ⟨f, rfl⟩ := Int.eq_ofNat_of_zero_le hx.1
      obtain ⟨t, rfl⟩ := Int.eq_ofNat_of_zero_le hx.2.2.1
      have hf : f < N := by omega
      have ht : t < N := by omega
      have HL := Lib.hid hla; clear hla hx
      have hbw : b < wr.heap.size := by have := Bw.size; omega
      by_cases hft : f = t
      · have hloop := fun W => isLoop_any ⟨(f : Int), (t : Int), z⟩ W
        simp only [hft, decide_true] at hloop
        subst hft
        go_wp2_with fail
        refine (hloop _).mono ?_
        rintro e w2 ⟨rfl, B2⟩
        go_wp2_with fail
        go_roundw
        case rel =>
          refine ⟨k + 1, cur, H, R, C, Ac, B, by omega, by go_num, F0.loop HL.out rfl, P0.loop HL.out rfl, (KR.alloc _).below B2 (KR.alloc _).lt, (C1.alloc _).on B2, (K1.alloc _).below B2 (K1.alloc _).lt, (K2.alloc _).below B2 (K2.alloc _).lt, ?_, fun g t cs h h1 h2 h3 => ((HKP.out g t cs h h1 h2 h3).alloc _).below B2 ((HKP.out g t cs h h1 h2 h3).alloc _).lt⟩
          exact (Bw.alloc (by omega) _).trans (B2.mono (by simp; omega))
        case measure => simp [intOf]; omega
      · have hloop := fun W => isLoop_any ⟨(f : Int), (t : Int), z⟩ W
        simp only [show ¬ (f : Int) = (t : Int) by omega, decide_false] at hloop
        go_wp2_with fail
        refine (hloop _).mono ?_
        rintro e w2 ⟨rfl, B2⟩
        have E2 : Blk w2 wr.heap.size 38 #[.int .i64 f, .int .i64 t, .int .i64 z] := (Blk.new rfl).below B2 (by simp)
        have KR2 := (KR.alloc (.cells #[.int .i64 f, .int .i64 t, .int .i64 z] 38)).below B2 (KR.alloc _).lt
        have C2 := (C1.alloc (.cells #[.int .i64 f, .int .i64 t, .int .i64 z] 38)).on B2
        have K12 := (K1.alloc (.cells #[.int .i64 f, .int .i64 t, .int .i64 z] 38)).below B2 (K1.alloc _).lt
        have K22 := (K2.alloc (.cells #[.int .i64 f, .int .i64 t, .int .i64 z] 38)).below B2 (K2.alloc _).lt
        have HKP2 : Hid (∀ g t cs, Blk w g t cs → t ≠ 3 → t ≠ 2 → t ≠ 4 → Blk w2 g t cs) := Lib.hid fun g t cs h h1 h2 h3 => ((HKP.out g t cs h h1 h2 h3).alloc _).below B2 ((HKP.out g t cs h h1 h2 h3).alloc _).lt
        have Bw2 : Below n0 w w2 := (Bw.alloc (by omega) _).trans (B2.mono (by simp; omega))
        have e0 := E2.cell 0; have e1 := E2.cell 1; have e2 := E2.cell 2
        simp only [List.getElem?_toArray, List.getElem?_cons_zero, List.getElem?_cons_succ] at e0 e1 e2
        go_wp2_with fail
        have If : Inc l k f t false z := inc_fwd HL.out (by simp; omega)
        have It : Inc l k t f true 0 := inc_bwd HL.out (by simp; omega)
        have pf := pos_lt If hE
        have pt := pos_lt It hE
        rw [hMe] at pf pt
        have hpq : posOf l k f ≠ posOf l k t := fun hp => hft (by have := (pos_inj If It (by omega) (by omega) hp).1; omega)
        obtain ⟨l1, l2, l3, l4, l5⟩ := P0.lens
        refine (put_any N M S T gF gH gR gC gA gB _ _ gr cr cur _ H R C Ac B k t z f false (posOf l k f) _ (by omega) (F0 f (by omega)) pf hM l1 l3 l4 l5 K22 K12 KR2 (by omega) C2).mono ?_
        rintro e w3 ⟨rfl, hs3, KR3, C3, Bw3, kp3⟩
        have E3 := kp3 _ _ _ E2 (by decide) (by decide) (by decide)
        have K13 := kp3 _ _ _ K12 (by decide) (by decide) (by decide)
        have K23 := kp3 _ _ _ K22 (by decide) (by decide) (by decide)
        have Bw3 : Below n0 w w3 := Bw2.trans (Bw3 n0 (by omega) (by omega) (by omega) (by omega) (by omega) (by have := Bw2.size; omega))
        have HKP3 : Hid (∀ g t cs, Blk w g t cs → t ≠ 3 → t ≠ 2 → t ≠ 4 → Blk w3 g t cs) := Lib.hid fun g t cs h h1 h2 h3 => kp3 g t cs (HKP2.out g t cs h h1 h2 h3) h1 h2 h3
        clear e0 e1 e2 kp3 KR2 C2 K12 K22 E2 Bw2
        have e0 := E3.cell 0; have e1 := E3.cell 1; have e2 := E3.cell 2
        simp only [List.getElem?_toArray, List.getElem?_cons_zero, List.getElem?_cons_succ] at e0 e1 e2
        go_wp2_with fail
        refine (put_any N M S T gF gH gR gC gA gB _ _ gr cr _ _ _ _ _ _ _ k f 0 t true (posOf l k t) _ (by omega) ?_ pt hM (by simp [l1]) (by simp [l3]) (by simp [l4]) (by simp [l5]) K23 K13 KR3 (by omega) C3).mono ?_
        · rw [Array.getElem?_setIfInBounds, if_neg hft]
          exact F0 t (by omega)
        rintro e w4 ⟨rfl, hs4, KR4, C4, Bw4, kp4⟩
        have K14 := kp4 _ _ _ K13 (by decide) (by decide) (by decide)
        have K24 := kp4 _ _ _ K23 (by decide) (by decide) (by decide)
        have Bw4 : Below n0 w w4 := Bw3.trans (Bw4 n0 (by omega) (by omega) (by omega) (by omega) (by omega) (by have := Bw3.size; omega))
        have HKP4 : Hid (∀ g t cs, Blk w g t cs → t ≠ 3 → t ≠ 2 → t ≠ 4 → Blk w4 g t cs) := Lib.hid fun g t cs h h1 h2 h3 => kp4 g t cs (HKP3.out g t cs h h1 h2 h3) h1 h2 h3
        clear e0 e1 e2 kp4 KR3 C3 K13 K23 E3 Bw3
        obtain ⟨a0, a1, a2, a3, a4, a5, a6, a7, a8⟩ := K14.at9
        obtain ⟨x1, hx1⟩ : ∃ x, R[posOf l k f]? = some x := ⟨_, List.getElem?_eq_getElem (by omega)⟩
        obtain ⟨x2, hx2⟩ : ∃ x, R[posOf l k t]? = some x := ⟨_, List.getElem?_eq_getElem (by omega)⟩
        have c1 := C4.kR.iat hx1
        have c2 := C4.kR.iat hx2
        clear hx1 hx2
        have d1 := C4.kR.frozen (posOf l k f); have d2 := C4.kR.frozen (posOf l k t)
        have y1 := C4.kR.ne K14 (by decide)
        have HP := Lib.hid P0; have HF := Lib.hid F0; have HC := Lib.hid C4; have HK1 := Lib.hid K14; have HK2 := Lib.hid K24; have HR4 := Lib.hid KR4; have HB4 := Lib.hid Bw4
        clear P0 F0 C4 K14 K24 KR4 Bw4
        generalize hp : posOf l k (f : Int) = p at *
        generalize hq : posOf l k (t : Int) = q at *
        go_wp2_with fail
        go_region_held3 (fun W' => W'.cell? ⟨w.heap.size, 5, none⟩ = some (.slice (some ⟨gR, 0, none⟩) M M)) (go_keep) (first | fail)
        go_wp2_with fail
        go_roundw
        case rel =>
          have hst := HP.out.step hE hMe HL.out hft
          have hfr := HF.out.step HL.out hft
          rw [hp, hq] at hst hfr
          refine ⟨k + 1, _, _, _, _, _, _, by omega, by go_num, hfr, hst, ?_, ((HC.out.setR p q).setR q p).drew, ?_, ?_, ?_, ?_⟩
          · have hgrR : gr ≠ gR := by omega
            exact ((HR4.out.far hgrR _).far hgrR _).drew
          · exact ((HK1.out.far (Ne.symm y1) _).far (Ne.symm y1) _).drew
          · exact ((HK2.out.far (HK2.out.ne HC.out.kR (by decide)) _).far (HK2.out.ne HC.out.kR (by decide)) _).drew
          · exact ((HB4.out.setCell hg.2.2.1 _).setCell hg.2.2.1 _).drew
          · intro g t cs h h1 h2 h3
            have h' := HKP4.out g t cs h h1 h2 h3
            have hh := h'.ne HC.out.kR h1
            exact ((h'.far hh _).far hh _).drew
        case measure => simp [intOf]; omega
    · go_wp2_with fail
      refine bodyPost_end (v := .tuple #[]) (by simp [results, Try.results21, go_sem]) rfl ⟨rfl, ⟨H, R, C, Ac, B, ?_, C1⟩, Bw, HKP.out⟩
      have hkn : k = l.length := by have := hA.len; omega
      rw [← hkn]
      exact P0

end Go.Proofs.Ytbmndghgmndgmaa
