/- Layer 8: the network of which a residual network's forward arcs tell. Layer 8: slices.Equal of lists that are the same; same; made. (Written by wip/gen_same.py.) -/
import Derived.Test.YtfcjmhihheeifaaPnet
import Derived.Test.YtfcjmhihheeifaaPepn
import Derived.Test.YtfcjmhihheeifaaCsrh
import Derived.Test.YtfcjmhihheeifaaTaio
import Derived.StillTailTactics
import Derived.Deep.QuietTactic
import Derived.BigQuiet
/-! Netw -/
namespace Go.Proofs.Ytfcjmhihheeifaa
open Go.RowKit Go.Shelf
set_option maxRecDepth 100000
attribute [local go_sem] Oper.semAt_some

def RetNrm (N : Nat) (s t : Int) (l : List ArcN) (w : World) (e : Ending) (w' : World) : Prop := ∃ n0, LoopsFrom n0 l ∧ n0 ≤ l.length ∧ RetNet N s t (nrmL n0 l) w e w'
theorem own_beln {w w' : World} {base n c B : Nat} {e : TypeId} {size : Nat} {A : Option Addr} {xs : List Value} (h : w.ownsRow base e size (.slice A n c) n xs) (hb : Below B w w') (hB : w.heap.size ≤ B) : w'.ownsRow base e size (.slice A n c) n xs := by
  refine ⟨h.1, h.2.imp id ?_⟩
  rintro ⟨g, cap, cur, hv, h1, hh, r⟩
  have hlt := (Array.getElem?_eq_some_iff.1 hh).1
  exact ⟨g, cap, cur, hv, h1, (hb.block g (by omega)).trans hh, r⟩
set_option maxHeartbeats 8000000 in
theorem network_is (N M s t gF gH gR gC gA gB : Nat) (l : List ArcN) (w : World) (hC : CsrAt w w.heap.size N l gF gH gR gC gA gB) (hc : checkF N s t l = 0) (hMe : firstOf l N = M) :
    Calls Try.prog 82 #[csrV N M s t gF gH gR gC gA gB] w (RetNrm N s t l w) := by
  obtain ⟨F, H, R, C, Ai, B, hL⟩ := csrL_ex N l
  have hE := (ends_in hc).2.2.2.1
  have hl16 := (ends_in hc).2.2.1
  have hnn := (ends_in hc).2.2.2.2.2.2.2.2.2.1
  have hG := (hL.pnet hc).1
  rw [hMe] at hG
  have hN := hG.nN; have hM := hG.nM
  obtain ⟨ai, hai⟩ : ∃ ai, hdOf Ai = ai := ⟨_, rfl⟩
  have hil : ∀ a, a < M → ai a < l.length := fun a ha => by
    rw [← hai]
    obtain ⟨v, u, b, c, hI, _⟩ := hL.num hE (show a < firstOf l N by omega)
    exact hI.lt
  have hPI := fun W (h : CsrAt W W.heap.size N l gF gH gR gC gA gB) => by
    have := hL.pin hc (h.rows hE hL)
    rw [hMe] at this
    exact this
  obtain ⟨n0, hn0⟩ : ∃ n0, cntA ai M = n0 := ⟨_, rfl⟩
  have hlp : LoopsFrom n0 l := fun i a ha hi => Classical.byContradiction fun hne => by
    have hI := inc_fwd ha hne
    obtain ⟨h1, h2, -⟩ := hL.inc hE hI
    have := cntA_lt (ai := ai) (k := M) (j := posOf l i a.frm) (by omega)
    rw [← hai, h2, hai, hn0] at this
    omega
  have hnl : n0 ≤ l.length := by rw [← hn0]; exact cntA_le fun j hj => by have := hil j hj; omega
  have hck' := check_nrm hc hnl
  have hE' := (ends_in hck').2.2.2.1
  obtain ⟨l', hl'⟩ : ∃ l', nrmL n0 l = l' := ⟨_, rfl⟩
  have hlen' : l'.length = n0 := by rw [← hl']; exact nrm_len hnl
  have hat' : ∀ k a, k < n0 → l[k]? = some a → l'[k]? = some (nrm a) := fun k a hk ha => by rw [← hl']; exact nrm_at hk ha
  have hfst' : firstOf l' N = M := by rw [← hl', first_nrm hlp, hMe]
  have hfw := fun W (h : CsrAt W W.heap.size N l gF gH gR gC gA gB) => forward_good N M s t gF gH gR gC gA gB l' n0 W (by rw [← hl']; exact csrAt_nrm hlp h) (by rw [← hl']; exact hE') hfst' (by omega) hlen' (by omega)
  have hinc' : ∀ i v u b c, Inc l i v u b c → Inc l' i v u b c := fun i v u b c h => by rw [← hl']; exact (inc_nrm hlp).2 h
  have hpos' : ∀ i v, posOf l' i v = posOf l i v := fun i v => by rw [← hl']; exact pos_nrm hlp i v
  have hty := fun W (h : CsrAt W W.heap.size N l gF gH gR gC gA gB) a (ha : a < M) => tail2_yes N M s t a (csrK N M gF gH gR gC gA gB) (firstOf l) (hdOf H) (hdOf R) W hG.g (hPI W h).gi ha
  have htl : ∀ i v u b c, Inc l i v u b c → posOf l i v < M ∧ (hdOf H (hdOf R (posOf l i v)) : Int) = v := fun i v u b c hI => by
    obtain ⟨h1, h2, h3, h4, h5, h6⟩ := hL.inc hE hI
    obtain ⟨c', hI'⟩ := hI.flip
    obtain ⟨k1, k2, k3, k4, k5, k6⟩ := hL.inc hE hI'
    exact ⟨by omega, by rw [h6, k5]⟩
  have htn := fun W => tail2_no N M s t (-1) (csrK N M gF gH gR gC gA gB) W (by omega)
  have HPI := Lib.hid hPI; have HIL := Lib.hid hil; have HFW := Lib.hid hfw; have HTY := Lib.hid hty; have HTL := Lib.hid htl; have HTN := Lib.hid htn; have HAT := Lib.hid hat'; have HINC := Lib.hid hinc'; have HPOS := Lib.hid hpos'
  have HN0 := Lib.hid hn0; have HLP := Lib.hid hlp; have HL' := Lib.hid hl'; have HAI := Lib.hid hai; have HMe := Lib.hid hMe; have HL := Lib.hid hL; have HE := Lib.hid hE; have HC := Lib.hid hC; have HLN := Lib.hid hlen'
  clear hPI hil hfw hty htl htn hat' hinc' hpos' hn0 hlp hck' hE' hl' hai hMe hL hE hC hfst' hlen' hG hc hnn
  have hn16 : n0 ≤ 16384 := by omega
  obtain ⟨i0, hi, hz0, hz1, hz2⟩ := info_parts arc_info
  have HI := Lib.hid hi; have HZ0 := Lib.hid hz0; have HZ1 := Lib.hid hz1; have HZ2 := Lib.hid hz2
  clear hi hz0 hz1 hz2
  go_enter Try.func82, Try.ntmps82
  go_wp2_with fail
  go_loop [3, 15] (fun q i => ∃ k : Nat, k ≤ M ∧ i = .int .i64 (k : Int) ∧ q = .int .i64 (cntA ai k : Int)) (fun _ i => M - (intOf i).toNat)
  case atStart => exact ⟨0, Nat.zero_le _, rfl, rfl⟩
  case round =>
    obtain ⟨k, hk, rfl, rfl⟩ := hrel
    by_cases hlt : k < M
    · have hA := (HPI.out w HC.out).iA
      obtain ⟨hbA, cA⟩ := tab_cell (g := hdOf Ai) hA hlt
      rw [HAI.out, Nat.zero_add] at cA
      have hik := HIL.out k hlt
      obtain ⟨x, hx⟩ : ∃ x, ai k = x := ⟨_, rfl⟩
      obtain ⟨y, hy⟩ : ∃ y, cntA ai k = y := ⟨_, rfl⟩
      have hyn : y ≤ n0 := by
        rw [← hy, ← HN0.out]
        exact cntA_le fun j hj => cntA_lt (by omega)
      have hnx : cntA ai (k + 1) = max y (x + 1) := by simp only [cntA]; rw [hx, hy]
      have HNX := Lib.hid hnx
      rw [hx] at cA hik
      rw [hy]
      obtain ⟨z, hz⟩ : ∃ z, max y (x + 1) = z := ⟨_, rfl⟩
      have hz1 : (if (y : Int) < (x : Int) + 1 then (x : Int) + 1 else (y : Int)) = (z : Int) := by rw [← hz]; split <;> omega
      have hz2 : (if (x : Int) + 1 < (y : Int) then (y : Int) else (x : Int) + 1) = (z : Int) := by rw [← hz]; split <;> omega
      have HZ := Lib.hid hz
      clear hx hy hnx hz
      have hdl : decide (k < M) = true := decide_eq_true hlt
      go_wp2_with fail
      go_round
      case rel => exact ⟨k + 1, by omega, by go_num, by rw [HNX.out, HZ.out]⟩
      case measure => simp [intOf]; omega
    · have hkM : cntA ai k = n0 := by rw [← HN0.out]; congr 1; omega
      rw [hkM]
      have hdl : decide (k < M) = false := decide_eq_false hlt
      clear hkM
      go_wp2_with fail
      obtain ⟨w3, hw3⟩ : ∃ w3, (((w.alloc (.cells #[.int .i64 (N : Int), .int .i64 (s : Int), .int .i64 (t : Int), .slice (some ⟨gF, 0, none⟩) (N + 1) (N + 1), .slice (some ⟨gH, 0, none⟩) M M, .slice (some ⟨gR, 0, none⟩) M M, .slice (some ⟨gC, 0, none⟩) M M, .slice (some ⟨gA, 0, none⟩) M M, .slice (some ⟨gB, 0, none⟩) M M] 45)).alloc (.cells #[.int .i64 0, .int .i64 0, .int .i64 0, .slice none 0 0] 24)).alloc (.cells #[.int .i64 (N : Int), .int .i64 (s : Int), .int .i64 (t : Int), .slice none 0 0] 24)) = w3 := ⟨_, rfl⟩
      have B3 : Below w.heap.size w w3 := by rw [← hw3]; exact ((below_alloc _).alloc (by simp) _).alloc (by simp; omega) _
      have K3 : Blk w3 w.heap.size 45 #[.int .i64 (N : Int), .int .i64 (s : Int), .int .i64 (t : Int), .slice (some ⟨gF, 0, none⟩) (N + 1) (N + 1), .slice (some ⟨gH, 0, none⟩) M M, .slice (some ⟨gR, 0, none⟩) M M, .slice (some ⟨gC, 0, none⟩) M M, .slice (some ⟨gA, 0, none⟩) M M, .slice (some ⟨gB, 0, none⟩) M M] := by rw [← hw3]; exact ((Blk.new rfl).alloc _).alloc _
      have R3 : Blk w3 (w.heap.size + 1) 24 #[.int .i64 0, .int .i64 0, .int .i64 0, .slice none 0 0] := by rw [← hw3]; exact (Blk.new (by simp)).alloc _
      have M3 : Blk w3 (w.heap.size + 2) 24 #[.int .i64 (N : Int), .int .i64 (s : Int), .int .i64 (t : Int), .slice none 0 0] := by rw [← hw3]; exact Blk.new (by simp)
      first | rw [hw3] | (simp only [Nat.add_assoc, Nat.reduceAdd] at hw3 ⊢; rw [hw3])
      clear hw3
      refine (HFW.out _ (HC.out.on B3)).mono ?_
      rintro e w4 ⟨gF2, F2, rfl, hgF, YF, hF2, B4⟩
      have K4 := K3.below B4 K3.lt
      have R4 := R3.below B4 R3.lt
      have M4 := M3.below B4 M3.lt
      have Bw4 := below_step B3 B4
      have C4 := HC.out.on Bw4
      have HC4 := Lib.hid C4; have HF2 := Lib.hid hF2; have HB4 := Lib.hid Bw4
      have hlF := hF2.len
      have HLF := Lib.hid hlF
      have hz4 := K4.lt
      have hz5 := M4.lt
      obtain ⟨a0, a1, a2, a3, a4, a5, a6, a7, a8⟩ := K4.at9
      clear K3 R3 M3 B3 B4 C4 hF2 Bw4 hlF
      go_wp2_with fail
      go_loopw [8, 35] (fun _ i wr => ∃ (k : Nat) (AJ : Option Addr) (cJ : Nat), k ≤ n0 ∧ i = .int .i64 (k : Int) ∧ Below w.heap.size w wr ∧ Blk wr w.heap.size 45 #[.int .i64 (N : Int), .int .i64 (s : Int), .int .i64 (t : Int), .slice (some ⟨gF, 0, none⟩) (N + 1) (N + 1), .slice (some ⟨gH, 0, none⟩) M M, .slice (some ⟨gR, 0, none⟩) M M, .slice (some ⟨gC, 0, none⟩) M M, .slice (some ⟨gA, 0, none⟩) M M, .slice (some ⟨gB, 0, none⟩) M M] ∧ Blk wr (w.heap.size + 1) 24 #[.int .i64 0, .int .i64 0, .int .i64 0, .slice none 0 0] ∧
          Blk wr (w.heap.size + 2) 24 #[.int .i64 (N : Int), .int .i64 (s : Int), .int .i64 (t : Int), .slice AJ k cJ] ∧ Blk wr gF2 3 (ivs F2) ∧ wr.ownsRow w.heap.size 64 3 (.slice AJ k cJ) k ((l'.take k).flatMap arcCells)) (fun _ i _ => n0 - (intOf i).toNat)
      case atStart =>
        refine ⟨0, none, 0, Nat.zero_le _, rfl, HB4.out, K4, R4, M4, YF, ?_⟩
        simpa using World.ownsRow_nil _ _ _ _
      case round =>
        clear a0 a1 a2 a3 a4 a5 a6 a7 a8 K4 R4 M4 YF hz4 hz5
        obtain ⟨k, AJ, cJ, hk, rfl, Bw5, K5, R5, M5, Y5, ho⟩ := hrel
        have HO := Lib.hid ho; clear ho
        have hz5 := M5.lt
        have hzk := K5.lt
        obtain ⟨a0, a1, a2, a3, a4, a5, a6, a7, a8⟩ := K5.at9
        by_cases hlt : k < n0
        · have hdl : decide (k < n0) = true := decide_eq_true hlt
          obtain ⟨a, ha⟩ : ∃ a, l[k]? = some a := ⟨_, List.getElem?_eq_getElem (by omega)⟩
          have hlk := HAT.out k a hlt ha
          have HLK := Lib.hid hlk
          have C5 := HC.out.on Bw5
          by_cases hlo : a.frm = a.to
          · have hfk := HF2.out.loop k (nrm a) hlt hlk (by unfold nrm; rw [if_pos hlo])
            have hcf := Y5.iat hfk
            have hgl := Y5.lt
            have hne : gF2 ≠ w.heap.size + 2 := Y5.ne M5 (by decide)
            have HNE := Lib.hid hne
            clear hne
            have hnr : nrm a = ⟨0, 0, 0⟩ := by unfold nrm; rw [if_pos hlo]
            rw [hnr] at HLK
            clear hfk hlk hnr hlo ha
            go_wp2_with fail
            have B5a : Below w.heap.size w (wr.alloc (.cells #[.int .i64 0, .int .i64 0, .int .i64 0] 64)) := Bw5.alloc (by omega) _
            have K5a := K5.alloc (.cells #[.int .i64 0, .int .i64 0, .int .i64 0] 64)
            have R5a := R5.alloc (.cells #[.int .i64 0, .int .i64 0, .int .i64 0] 64)
            have M5a := M5.alloc (.cells #[.int .i64 0, .int .i64 0, .int .i64 0] 64)
            have Y5a := Y5.alloc (.cells #[.int .i64 0, .int .i64 0, .int .i64 0] 64)
            have O5a := HO.out.alloc (.cells #[.int .i64 0, .int .i64 0, .int .i64 0] 64)
            have N5a : Blk (wr.alloc (.cells #[.int .i64 0, .int .i64 0, .int .i64 0] 64)) wr.heap.size 64 #[.int .i64 0, .int .i64 0, .int .i64 0] := Blk.new rfl
            refine (HTN.out _).mono ?_
            rintro e w6 ⟨rfl, B6⟩
            have HB6 := Lib.hid (below_step B5a B6)
            have HK6 := Lib.hid (K5a.below B6 K5a.lt)
            have HR6 := Lib.hid (R5a.below B6 R5a.lt)
            have HM6 := Lib.hid (M5a.below B6 M5a.lt)
            have HY6 := Lib.hid (Y5a.below B6 Y5a.lt)
            have N6 := N5a.below B6 N5a.lt
            have HO6 := Lib.hid (own_beln O5a B6 (Nat.le_refl _))
            have e0 := N6.cell 0; have e1 := N6.cell 1; have e2 := N6.cell 2
            simp only [List.getElem?_toArray, List.getElem?_cons_zero, List.getElem?_cons_succ] at e0 e1 e2
            have hz6 := HM6.out.lt
            have hz7 := N6.lt
            obtain ⟨r0, r1, r2, r3⟩ := HM6.out.at4
            obtain ⟨f0, f1, f2, f3⟩ := HM6.out.free4
            have hbb := HB6.out.size
            clear a0 a1 a2 a3 a4 a5 a6 a7 a8 B5a K5a R5a M5a Y5a O5a N5a B6 N6 K5 R5 M5 Y5 Bw5 C5 hcf hz5
            go_wp2_with (at_builtin; refine wpList_append_row _ rfl (.tmp 59) (.tmp 61) _ rfl w.heap.size 64 i0 _ 3 24 Try.underlying22 HI.out HZ0.out HZ1.out HZ2.out rfl (by omega) AJ k cJ _ rfl (HO6.out.alloc _) (some ⟨w6.heap.size, 0, none⟩) 1 1 ([⟨0, 0, 0⟩].flatMap arcCells) rfl rfl ?_ arc_one ?_ ?_ ?_ ?_)
            · intro _
              refine ⟨_, rfl, fun j u hu => ?_⟩
              rw [addr_add, Nat.zero_add]
              exact ((Blk.new rfl : Blk (w6.alloc _) w6.heap.size 64 #[.int .i64 0, .int .i64 0, .int .i64 0]).cell j).trans (by simpa [arcCells] using hu)
            · unfold maxLen; omega
            · omega
            · simp; omega
            · intro A8 c8 w8 HO8 hg8 HX8
              have T8 := (HM6.out.alloc _).grownO hg8 (HO6.out.alloc _) (by decide)
              have R8 := (HR6.out.alloc _).grownO hg8 (HO6.out.alloc _) (by decide)
              have K8 := (HK6.out.alloc _).grownO hg8 (HO6.out.alloc _) (by decide)
              have Y8 := (HY6.out.alloc _).grownO hg8 (HO6.out.alloc _) (by decide)
              have B8 := below_grown (HB6.out.alloc (by omega) _) hg8 (HO6.out.alloc _) (by omega) (by simp; omega)
              have hne8 := HNE.out
              clear r0 r1 r2 r3 f0 f1 f2 f3
              obtain ⟨r0, r1, r2, r3⟩ := T8.at4
              obtain ⟨f0, f1, f2, f3⟩ := T8.free4
              have hz8 := T8.lt
              go_wp2_with fail
              go_roundw
              case rel =>
                refine ⟨k + 1, A8, c8, by omega, by go_num, B8.setCell (by simp only; omega) _, K8.far (by simp only; omega) _, R8.far (by simp only; omega) _, T8.set4' _, Y8.far (by simpa using hne8) _, ?_⟩
                have ho8 : w8.ownsRow w.heap.size 64 3 (.slice A8 (k + 1) c8) (k + 1) ((l'.take (k + 1)).flatMap arcCells) := by
                  rw [take_at HLK.out, List.flatMap_append]
                  simpa using HO8.out
                exact own_far (p := ⟨w.heap.size + 2, 3, none⟩) ho8 (own_ne ho8 T8 (by decide)) _
              case measure => simp [intOf]; omega
          · have hI := inc_fwd ha hlo
            have hfk := HF2.out.fwd k _ _ _ (HINC.out _ _ _ _ _ hI)
            rw [HPOS.out] at hfk
            obtain ⟨hpM, htv⟩ := HTL.out _ _ _ _ _ hI
            have C5e := C5.ent _ _ _ _ _ hI
            obtain ⟨hcH, -, hcC, -, -⟩ := C5e
            obtain ⟨p, hp⟩ : ∃ p, posOf l k a.frm = p := ⟨_, rfl⟩
            rw [hp] at hfk hpM htv hcH hcC
            have hcf := Y5.iat hfk
            have hgl := Y5.lt
            have hne : gF2 ≠ w.heap.size + 2 := Y5.ne M5 (by decide)
            have HNE := Lib.hid hne
            clear hne
            have hnr : nrm a = a := by unfold nrm; rw [if_neg hlo]
            rw [hnr] at HLK
            obtain ⟨fr, tq, cap⟩ := a
            dsimp only at hcH hcC htv
            have hty := fun W hb => HTY.out W (HC.out.on hb) p hpM
            rw [htv] at hty
            have HTV := Lib.hid hty
            have hgHl := C5.lt
            clear hfk hlk hnr hlo ha hI hp htv hty
            go_wp2_with fail
            have HGZ := Lib.hid (show wr.heap.size ≠ w.heap.size ∧ wr.heap.size ≠ w.heap.size + 1 ∧ wr.heap.size ≠ w.heap.size + 2 by omega)
            have HGY := Lib.hid (show gF2 ≠ wr.heap.size by omega)
            have HZW := Lib.hid (show w.heap.size ≤ wr.heap.size by omega)
            have hgo : ∀ g, AJ = some ⟨g, 0, none⟩ → g ≠ wr.heap.size := fun g e => by
              subst e
              have := (HO.out.lt g rfl).2
              omega
            have HGO := Lib.hid hgo
            clear hgo
            have B5a : Below w.heap.size w (wr.alloc (.cells #[.int .i64 0, .int .i64 0, .int .i64 0] 64)) := Bw5.alloc (by omega) _
            have K5a := K5.alloc (.cells #[.int .i64 0, .int .i64 0, .int .i64 0] 64)
            have R5a := R5.alloc (.cells #[.int .i64 0, .int .i64 0, .int .i64 0] 64)
            have M5a := M5.alloc (.cells #[.int .i64 0, .int .i64 0, .int .i64 0] 64)
            have Y5a := Y5.alloc (.cells #[.int .i64 0, .int .i64 0, .int .i64 0] 64)
            have O5a := HO.out.alloc (.cells #[.int .i64 0, .int .i64 0, .int .i64 0] 64)
            have N5a : Blk (wr.alloc (.cells #[.int .i64 0, .int .i64 0, .int .i64 0] 64)) wr.heap.size 64 #[.int .i64 0, .int .i64 0, .int .i64 0] := Blk.new rfl
            refine (HTV.out _ B5a).mono ?_
            rintro e w6 ⟨rfl, B6⟩
            have Bw6 := below_step B5a B6
            have K6 := K5a.below B6 K5a.lt
            have R6 := R5a.below B6 R5a.lt
            have M6 := M5a.below B6 M5a.lt
            have Y6 := Y5a.below B6 Y5a.lt
            have N6 := N5a.below B6 N5a.lt
            have O6 := own_beln O5a B6 (Nat.le_refl _)
            have hgl2 : gH < w.heap.size ∧ gC < w.heap.size := by obtain ⟨h1, h2, h3, h4, h5, h6⟩ := HC.out.lt; exact ⟨h2, h4⟩
            have B56 : Below wr.heap.size wr w6 := (below_alloc _).trans (B6.mono (by simp))
            have hcH6 := B56.cell (p := ⟨gH, p, none⟩) (by show gH < _; omega)
            have hcC6 := B56.cell (p := ⟨gC, p, none⟩) (by show gC < _; omega)
            rw [hcH] at hcH6
            rw [hcC] at hcC6
            have HB6 := Lib.hid Bw6; have HK6 := Lib.hid K6; have HR6 := Lib.hid R6; have HM6 := Lib.hid M6; have HY6 := Lib.hid Y6; have HN6 := Lib.hid N6; have HO6 := Lib.hid O6
            have hz6 := M6.lt
            have hz7 := N6.lt
            have hzk6 := K6.lt
            have hbb := Bw6.size
            have hgH1 := hgl2.1; have hgC1 := hgl2.2
            clear a0 a1 a2 a3 a4 a5 a6 a7 a8 B5a K5a R5a M5a Y5a O5a N5a B6 N6 K5 R5 M5 Y5 Bw5 C5 hcf hz5 hcH hcC hzk K6 R6 M6 Y6 O6 Bw6 B56 hgHl hgl2
            obtain ⟨a0, a1, a2, a3, a4, a5, a6, a7, a8⟩ := HK6.out.at9
            go_wp2_with fail
            go_still_tail 12, (by kernel_rfl)
            change wpList _ _ _ _ _ w6.drew
            have h67 : Below w6.heap.size w6 w6.drew := (Below.refl _ w6).drew
            have HB6' := Lib.hid (below_step HB6.out h67)
            have HK6' := Lib.hid (HK6.out.below h67 HK6.out.lt)
            have HR6' := Lib.hid (HR6.out.below h67 HR6.out.lt)
            have HM6' := Lib.hid (HM6.out.below h67 HM6.out.lt)
            have HY6' := Lib.hid (HY6.out.below h67 HY6.out.lt)
            have HN6' := Lib.hid (HN6.out.below h67 HN6.out.lt)
            have HO6' := Lib.hid (own_beln HO6.out h67 (Nat.le_refl _))
            clear h67 a0 a1 a2 a3 a4 a5 a6 a7 a8 hcH6 hcC6 hz6 hz7 hzk6 hbb
            generalize w6.drew = w6d at *
            have e0 := HN6'.out.cell 0; have e1 := HN6'.out.cell 1; have e2 := HN6'.out.cell 2
            have f0 := HN6'.out.frozen 0; have f1 := HN6'.out.frozen 1; have f2 := HN6'.out.frozen 2
            simp only [List.getElem?_toArray, List.getElem?_cons_zero, List.getElem?_cons_succ] at e0 e1 e2
            have hz7 := HN6'.out.lt
            go_upto_region 15 with fail
            have hgz : wr.heap.size ≠ w.heap.size ∧ wr.heap.size ≠ w.heap.size + 1 ∧ wr.heap.size ≠ w.heap.size + 2 := HGZ.out
            have hgy : gF2 ≠ wr.heap.size := HGY.out
            have N7 := HN6'.out.put3 (x := .int .i64 fr) (y := .int .i64 tq) (z := .int .i64 cap)
            have HK7 := Lib.hid (HK6'.out.far3 (g := wr.heap.size) (x := .int .i64 fr) (y := .int .i64 tq) (z := .int .i64 cap) (fun e => hgz.1 e.symm))
            have HR7 := Lib.hid (HR6'.out.far3 (g := wr.heap.size) (x := .int .i64 fr) (y := .int .i64 tq) (z := .int .i64 cap) (fun e => hgz.2.1 e.symm))
            have HM7 := Lib.hid (HM6'.out.far3 (g := wr.heap.size) (x := .int .i64 fr) (y := .int .i64 tq) (z := .int .i64 cap) (fun e => hgz.2.2 e.symm))
            have HY7 := Lib.hid (HY6'.out.far3 (g := wr.heap.size) (x := .int .i64 fr) (y := .int .i64 tq) (z := .int .i64 cap) hgy)
            have HB7 := Lib.hid (below_put3 (x := .int .i64 fr) (y := .int .i64 tq) (z := .int .i64 cap) HB6'.out HZW.out)
            have HO7 := Lib.hid (own_far (p := ⟨wr.heap.size, 2, none⟩) (own_far (p := ⟨wr.heap.size, 1, none⟩) (own_far (p := ⟨wr.heap.size, 0, none⟩) HO6'.out HGO.out (.int .i64 fr)) HGO.out (.int .i64 tq)) HGO.out (.int .i64 cap))
            obtain ⟨w7, hw7⟩ : ∃ w7, put3 w6d wr.heap.size (.int .i64 fr) (.int .i64 tq) (.int .i64 cap) = w7 := ⟨_, rfl⟩
            have hw7' : ((w6d.setCell ⟨wr.heap.size, 0, none⟩ (.int .i64 fr)).setCell ⟨wr.heap.size, 1, none⟩ (.int .i64 tq)).setCell ⟨wr.heap.size, 2, none⟩ (.int .i64 cap) = w7 := hw7
            rw [hw7] at N7 HK7 HR7 HM7 HY7 HB7
            rw [hw7'] at HO7 ⊢
            clear hw7 hw7' e0 e1 e2 f0 f1 f2 hz7 hgz hgy
            have e0 := N7.cell 0; have e1 := N7.cell 1; have e2 := N7.cell 2
            simp only [List.getElem?_toArray, List.getElem?_cons_zero, List.getElem?_cons_succ] at e0 e1 e2
            have hz6 := HM7.out.lt
            have hz7 := N7.lt
            obtain ⟨r0, r1, r2, r3⟩ := HM7.out.at4
            obtain ⟨f0, f1, f2, f3⟩ := HM7.out.free4
            have hbb := HB7.out.size
            clear N7
            go_wp2_with (at_builtin; refine wpList_append_row _ rfl (.tmp 59) (.tmp 61) _ rfl w.heap.size 64 i0 _ 3 24 Try.underlying22 HI.out HZ0.out HZ1.out HZ2.out rfl (by omega) AJ k cJ _ rfl (HO7.out.alloc _) (some ⟨w7.heap.size, 0, none⟩) 1 1 ([⟨fr, tq, cap⟩].flatMap arcCells) rfl rfl ?_ arc_one ?_ ?_ ?_ ?_)
            · intro _
              refine ⟨_, rfl, fun j u hu => ?_⟩
              rw [addr_add, Nat.zero_add]
              exact ((Blk.new rfl : Blk (w7.alloc _) w7.heap.size 64 #[.int .i64 fr, .int .i64 tq, .int .i64 cap]).cell j).trans (by simpa [arcCells] using hu)
            · unfold maxLen; omega
            · omega
            · simp; omega
            · intro A8 c8 w8 HO8 hg8 HX8
              have T8 := (HM7.out.alloc _).grownO hg8 (HO7.out.alloc _) (by decide)
              have R8 := (HR7.out.alloc _).grownO hg8 (HO7.out.alloc _) (by decide)
              have K8 := (HK7.out.alloc _).grownO hg8 (HO7.out.alloc _) (by decide)
              have Y8 := (HY7.out.alloc _).grownO hg8 (HO7.out.alloc _) (by decide)
              have B8 := below_grown (HB7.out.alloc (by omega) _) hg8 (HO7.out.alloc _) (by omega) (by simp; omega)
              have hne8 := HNE.out
              clear r0 r1 r2 r3 f0 f1 f2 f3
              obtain ⟨r0, r1, r2, r3⟩ := T8.at4
              obtain ⟨f0, f1, f2, f3⟩ := T8.free4
              have hz8 := T8.lt
              go_wp2_with fail
              go_roundw
              case rel =>
                refine ⟨k + 1, A8, c8, by omega, by go_num, B8.setCell (by simp only; omega) _, K8.far (by simp only; omega) _, R8.far (by simp only; omega) _, T8.set4' _, Y8.far (by simpa using hne8) _, ?_⟩
                have ho8 : w8.ownsRow w.heap.size 64 3 (.slice A8 (k + 1) c8) (k + 1) ((l'.take (k + 1)).flatMap arcCells) := by
                  rw [take_at HLK.out, List.flatMap_append]
                  simpa using HO8.out
                exact own_far (p := ⟨w.heap.size + 2, 3, none⟩) ho8 (own_ne ho8 T8 (by decide)) _
              case measure => simp [intOf]; omega
        · have hdl : decide (k < n0) = false := decide_eq_false hlt
          have hkn : k = n0 := by omega
          have hfin : l'.take k = l' := List.take_of_length_le (by rw [HLN.out]; omega)
          have ho := HO.out
          rw [hfin] at ho
          obtain ⟨r0, r1, r2, r3⟩ := M5.at4
          obtain ⟨q0, q1, q2, q3⟩ := R5.at4
          obtain ⟨f0, f1, f2, f3⟩ := R5.free4
          have hzr := R5.lt
          have HB5 := Lib.hid Bw5; have HR5 := Lib.hid R5; have HO5 := Lib.hid ho; have HKN := Lib.hid hkn
          clear ho hfin a0 a1 a2 a3 a4 a5 a6 a7 a8 K5 M5 R5 Y5 Bw5 hkn
          go_wp2_with fail
          have q3' := ((((HR5.out.set 0 (.int .i64 (N : Int))).set 1 (.int .i64 (s : Int))).set 2 (.int .i64 (t : Int))).set 3 (.slice AJ k cJ))
          have p0 := q3'.cell 0; have p1 := q3'.cell 1; have p2 := q3'.cell 2; have p3 := q3'.cell 3
          simp only [List.setIfInBounds_toArray, List.set_cons_zero, List.set_cons_succ, List.getElem?_toArray, List.getElem?_cons_zero, List.getElem?_cons_succ] at p0 p1 p2 p3
          refine bodyPost_ret (v := .agg #[.int .i64 (N : Int), .int .i64 (s : Int), .int .i64 (t : Int), .slice AJ k cJ]) (by simp [results, Try.results82, go_sem, p0, p1, p2, p3]) rfl ?_
          refine ⟨n0, HLP.out, hnl, AJ, k, cJ, rfl, ?_, by rw [HL'.out, HLN.out, HKN.out], ?_⟩
          · rw [HL'.out]
            have hne := own_ne HO5.out HR5.out (by decide)
            exact own_far (p := ⟨w.heap.size + 1, 3, none⟩) (own_far (p := ⟨w.heap.size + 1, 2, none⟩) (own_far (p := ⟨w.heap.size + 1, 1, none⟩) (own_far (p := ⟨w.heap.size + 1, 0, none⟩) HO5.out hne _) hne _) hne _) hne _
          · exact (((HB5.out.setCell (by simp only; omega) _).setCell (by simp only; omega) _).setCell (by simp only; omega) _).setCell (by simp only; omega) _

end Go.Proofs.Ytfcjmhihheeifaa

/-! Same -/
namespace Go.Proofs.Ytfcjmhihheeifaa
open Go.RowKit Go.Shelf
set_option maxRecDepth 100000
attribute [local go_sem] Oper.semAt_some

theorem eq_atI {w : World} {B n b off k : Nat} {L : List Int} {x : Int} (h : Ints w B (some ⟨b, off, none⟩) n L) (hx : L[k]? = some x) : b < B ∧ w.cell? ⟨b, off + k, none⟩ = some (.int .i64 x) := RdBy.cel h hx
theorem eq_atB {w : World} {B n b off k : Nat} {L : List Bool} {x : Bool} (h : Bools w B (some ⟨b, off, none⟩) n L) (hx : L[k]? = some x) : b < B ∧ w.cell? ⟨b, off + k, none⟩ = some (.bool x) := by
  have hk := (List.getElem?_eq_some_iff.1 hx).1
  obtain ⟨b', off', e, hb, hc⟩ := h.2 (by have := h.1; omega)
  injection e with e
  injection e with e1 e2
  subst e1; subst e2
  refine ⟨hb, ?_⟩
  have := hc k x hx 0 (.bool x) rfl
  simpa using this

set_option maxHeartbeats 2000000 in
theorem eqI_is (A B : Option Addr) (n c d : Nat) (L : List Int) (w : World) (hA : Ints w w.heap.size A n L) (hB : Ints w w.heap.size B n L) (hn : n ≤ 100000000) :
    Calls Try.prog 100 #[.slice A n c, .slice B n d] w fun e w' => e = .returned (.bool true) ∧ Below w.heap.size w w' := by
  have HA := Lib.hid hA; have HB := Lib.hid hB
  have hl := hA.1
  have HL := Lib.hid hl
  clear hA hB hl
  go_enter Try.func100, Try.ntmps100
  go_wp2_with fail
  go_loopw [13] (fun i wr => ∃ k nd : Nat, k ≤ n ∧ i = .int .i64 (k : Int) ∧ wr = w.drewN nd) (fun i _ => n - (intOf i).toNat)
  case atStart => exact ⟨0, 0, Nat.zero_le _, rfl, rfl⟩
  case round =>
    obtain ⟨k, nd, hk, rfl, rfl⟩ := hrel
    by_cases hlt : k < n
    · have hdl : decide (k < n) = true := decide_eq_true hlt
      obtain ⟨x, hx⟩ : ∃ x, L[k]? = some x := ⟨_, List.getElem?_eq_getElem (by rw [HL.out]; exact hlt)⟩
      obtain ⟨b1, o1, rfl⟩ := RdBy.adr HA.out (by omega)
      obtain ⟨b2, o2, rfl⟩ := RdBy.adr HB.out (by omega)
      obtain ⟨hb1, c1⟩ := eq_atI HA.out hx
      obtain ⟨hb2, c2⟩ := eq_atI HB.out hx
      have hkn : (k : Int) < (n : Int) := by omega
      have hxx : (x != x) = false := by simp
      clear hx
      go_wp2_with fail
      go_quiet (fail)
      go_wp2_with fail
      go_roundw
      case rel => exact ⟨k + 1, _, by omega, by go_num, rfl⟩
      case measure => simp [intOf]; omega
    · have hdl : decide (k < n) = false := decide_eq_false hlt
      go_wp2_with fail
      go_ret
      exact ⟨rfl, below_drewN' (Below.refl _ _) _⟩

set_option maxHeartbeats 2000000 in
theorem eqL_is (A B : Option Addr) (n c d : Nat) (L : List Int) (w : World) (hA : Ints w w.heap.size A n L) (hB : Ints w w.heap.size B n L) (hn : n ≤ 100000000) :
    Calls Try.prog 101 #[.slice A n c, .slice B n d] w fun e w' => e = .returned (.bool true) ∧ Below w.heap.size w w' := by
  have HA := Lib.hid hA; have HB := Lib.hid hB
  have hl := hA.1
  have HL := Lib.hid hl
  clear hA hB hl
  go_enter Try.func101, Try.ntmps101
  go_wp2_with fail
  go_loopw [13] (fun i wr => ∃ k nd : Nat, k ≤ n ∧ i = .int .i64 (k : Int) ∧ wr = w.drewN nd) (fun i _ => n - (intOf i).toNat)
  case atStart => exact ⟨0, 0, Nat.zero_le _, rfl, rfl⟩
  case round =>
    obtain ⟨k, nd, hk, rfl, rfl⟩ := hrel
    by_cases hlt : k < n
    · have hdl : decide (k < n) = true := decide_eq_true hlt
      obtain ⟨x, hx⟩ : ∃ x, L[k]? = some x := ⟨_, List.getElem?_eq_getElem (by rw [HL.out]; exact hlt)⟩
      obtain ⟨b1, o1, rfl⟩ := RdBy.adr HA.out (by omega)
      obtain ⟨b2, o2, rfl⟩ := RdBy.adr HB.out (by omega)
      obtain ⟨hb1, c1⟩ := eq_atI HA.out hx
      obtain ⟨hb2, c2⟩ := eq_atI HB.out hx
      have hkn : (k : Int) < (n : Int) := by omega
      have hxx : (x != x) = false := by simp
      clear hx
      go_wp2_with fail
      go_quiet (fail)
      go_wp2_with fail
      go_roundw
      case rel => exact ⟨k + 1, _, by omega, by go_num, rfl⟩
      case measure => simp [intOf]; omega
    · have hdl : decide (k < n) = false := decide_eq_false hlt
      go_wp2_with fail
      go_ret
      exact ⟨rfl, below_drewN' (Below.refl _ _) _⟩

set_option maxHeartbeats 2000000 in
theorem eqB_is (A B : Option Addr) (n c d : Nat) (L : List Bool) (w : World) (hA : Bools w w.heap.size A n L) (hB : Bools w w.heap.size B n L) (hn : n ≤ 100000000) :
    Calls Try.prog 102 #[.slice A n c, .slice B n d] w fun e w' => e = .returned (.bool true) ∧ Below w.heap.size w w' := by
  have HA := Lib.hid hA; have HB := Lib.hid hB
  have hl := hA.1
  have HL := Lib.hid hl
  clear hA hB hl
  go_enter Try.func102, Try.ntmps102
  go_wp2_with fail
  go_loopw [13] (fun i wr => ∃ k nd : Nat, k ≤ n ∧ i = .int .i64 (k : Int) ∧ wr = w.drewN nd) (fun i _ => n - (intOf i).toNat)
  case atStart => exact ⟨0, 0, Nat.zero_le _, rfl, rfl⟩
  case round =>
    obtain ⟨k, nd, hk, rfl, rfl⟩ := hrel
    by_cases hlt : k < n
    · have hdl : decide (k < n) = true := decide_eq_true hlt
      obtain ⟨x, hx⟩ : ∃ x, L[k]? = some x := ⟨_, List.getElem?_eq_getElem (by rw [HL.out]; exact hlt)⟩
      obtain ⟨b1, o1, rfl⟩ := RdBy.adr HA.out (by omega)
      obtain ⟨b2, o2, rfl⟩ := RdBy.adr HB.out (by omega)
      obtain ⟨hb1, c1⟩ := eq_atB HA.out hx
      obtain ⟨hb2, c2⟩ := eq_atB HB.out hx
      have hkn : (k : Int) < (n : Int) := by omega
      have hxx : (x != x) = false := by simp
      clear hx
      go_wp2_with fail
      go_quiet (fail)
      go_wp2_with fail
      go_roundw
      case rel => exact ⟨k + 1, _, by omega, by go_num, rfl⟩
      case measure => simp [intOf]; omega
    · have hdl : decide (k < n) = false := decide_eq_false hlt
      go_wp2_with fail
      go_ret
      exact ⟨rfl, below_drewN' (Below.refl _ _) _⟩

set_option maxHeartbeats 4000000 in
theorem same_is (N M s t : Nat) (K K2 : CsrS) (F H R C Ai : List Int) (B : List Bool) (w : World) (hA : CsrIn w w.heap.size N M K F H R C Ai B) (hB : CsrIn w w.heap.size N M K2 F H R C Ai B) (hM : M ≤ 100000000) (hN : N ≤ 4096) :
    Calls Try.prog 83 #[csrW N M s t K, csrW N M s t K2] w fun e w' => e = .returned (.bool true) ∧ Below w.heap.size w w' := by
  have HA := Lib.hid hA; have HB := Lib.hid hB
  clear hA hB
  obtain ⟨AF, cF, AH, cH, AR, cR, AC, cC, AA, cA, AB, cB⟩ := K
  obtain ⟨BF, dF, BH, dH, BR, dR, BC, dC, BA, dA, BB, dB⟩ := K2
  dsimp only [csrW]
  go_enter Try.func83, Try.ntmps83
  go_wp2_with fail
  obtain ⟨w0, hw0⟩ : ∃ w0, ((w.alloc (.cells #[.int .i64 (N : Int), .int .i64 (s : Int), .int .i64 (t : Int), .slice AF (N + 1) cF, .slice AH M cH, .slice AR M cR, .slice AC M cC, .slice AA M cA, .slice AB M cB] 45)).alloc (.cells #[.int .i64 (N : Int), .int .i64 (s : Int), .int .i64 (t : Int), .slice BF (N + 1) dF, .slice BH M dH, .slice BR M dR, .slice BC M dC, .slice BA M dA, .slice BB M dB] 45)) = w0 := ⟨_, rfl⟩
  have B0 : Below w.heap.size w w0 := by rw [← hw0]; exact (below_alloc _).alloc (by simp) _
  have C0 : Blk w0 w.heap.size 45 #[.int .i64 (N : Int), .int .i64 (s : Int), .int .i64 (t : Int), .slice AF (N + 1) cF, .slice AH M cH, .slice AR M cR, .slice AC M cC, .slice AA M cA, .slice AB M cB] := by rw [← hw0]; exact (Blk.new rfl).alloc _
  have D0 : Blk w0 (w.heap.size + 1) 45 #[.int .i64 (N : Int), .int .i64 (s : Int), .int .i64 (t : Int), .slice BF (N + 1) dF, .slice BH M dH, .slice BR M dR, .slice BC M dC, .slice BA M dA, .slice BB M dB] := by rw [← hw0]; exact Blk.new (by simp)
  rw [hw0]
  clear hw0
  refine (eqI_is _ _ _ _ _ _ _ (HA.out.on B0).iF (HB.out.on B0).iF (by omega)).mono ?_
  rintro e w1 ⟨rfl, X1⟩
  have C1 := C0.below X1 C0.lt; have D1 := D0.below X1 D0.lt; have B1 := below_step B0 X1
  obtain ⟨a0, a1, a2, a3, a4, a5, a6, a7, a8⟩ := C1.at9
  obtain ⟨b0, b1, b2, b3, b4, b5, b6, b7, b8⟩ := D1.at9
  have hz1 := C1.lt; have hz2 := D1.lt
  clear C0 D0 X1
  go_wp2_with fail
  refine (eqI_is _ _ _ _ _ _ _ (HA.out.on B1).iH (HB.out.on B1).iH (by omega)).mono ?_
  rintro e w2 ⟨rfl, X2⟩
  have C2 := C1.below X2 C1.lt; have D2 := D1.below X2 D1.lt; have B2 := below_step B1 X2
  clear a0 a1 a2 a3 a4 a5 a6 a7 a8 b0 b1 b2 b3 b4 b5 b6 b7 b8 hz1 hz2
  obtain ⟨a0, a1, a2, a3, a4, a5, a6, a7, a8⟩ := C2.at9
  obtain ⟨b0, b1, b2, b3, b4, b5, b6, b7, b8⟩ := D2.at9
  have hz1 := C2.lt; have hz2 := D2.lt
  clear C1 D1 X2
  go_wp2_with fail
  refine (eqI_is _ _ _ _ _ _ _ (HA.out.on B2).iR (HB.out.on B2).iR (by omega)).mono ?_
  rintro e w3 ⟨rfl, X3⟩
  have C3 := C2.below X3 C2.lt; have D3 := D2.below X3 D2.lt; have B3 := below_step B2 X3
  clear a0 a1 a2 a3 a4 a5 a6 a7 a8 b0 b1 b2 b3 b4 b5 b6 b7 b8 hz1 hz2
  obtain ⟨a0, a1, a2, a3, a4, a5, a6, a7, a8⟩ := C3.at9
  obtain ⟨b0, b1, b2, b3, b4, b5, b6, b7, b8⟩ := D3.at9
  have hz1 := C3.lt; have hz2 := D3.lt
  clear C2 D2 X3
  go_wp2_with fail
  refine (eqL_is _ _ _ _ _ _ _ (HA.out.on B3).iC (HB.out.on B3).iC (by omega)).mono ?_
  rintro e w4 ⟨rfl, X4⟩
  have C4 := C3.below X4 C3.lt; have D4 := D3.below X4 D3.lt; have B4 := below_step B3 X4
  clear a0 a1 a2 a3 a4 a5 a6 a7 a8 b0 b1 b2 b3 b4 b5 b6 b7 b8 hz1 hz2
  obtain ⟨a0, a1, a2, a3, a4, a5, a6, a7, a8⟩ := C4.at9
  obtain ⟨b0, b1, b2, b3, b4, b5, b6, b7, b8⟩ := D4.at9
  have hz1 := C4.lt; have hz2 := D4.lt
  clear C3 D3 X4
  go_wp2_with fail
  refine (eqI_is _ _ _ _ _ _ _ (HA.out.on B4).iA (HB.out.on B4).iA (by omega)).mono ?_
  rintro e w5 ⟨rfl, X5⟩
  have C5 := C4.below X5 C4.lt; have D5 := D4.below X5 D4.lt; have B5 := below_step B4 X5
  clear a0 a1 a2 a3 a4 a5 a6 a7 a8 b0 b1 b2 b3 b4 b5 b6 b7 b8 hz1 hz2
  obtain ⟨a0, a1, a2, a3, a4, a5, a6, a7, a8⟩ := C5.at9
  obtain ⟨b0, b1, b2, b3, b4, b5, b6, b7, b8⟩ := D5.at9
  have hz1 := C5.lt; have hz2 := D5.lt
  clear C4 D4 X5
  go_wp2_with fail
  refine (eqB_is _ _ _ _ _ _ _ (HA.out.on B5).iB (HB.out.on B5).iB (by omega)).mono ?_
  rintro e w6 ⟨rfl, X6⟩
  have C6 := C5.below X6 C5.lt; have D6 := D5.below X6 D5.lt; have B6 := below_step B5 X6
  clear a0 a1 a2 a3 a4 a5 a6 a7 a8 b0 b1 b2 b3 b4 b5 b6 b7 b8 hz1 hz2
  obtain ⟨a0, a1, a2, a3, a4, a5, a6, a7, a8⟩ := C6.at9
  obtain ⟨b0, b1, b2, b3, b4, b5, b6, b7, b8⟩ := D6.at9
  have hz1 := C6.lt; have hz2 := D6.lt
  clear C5 D5 X6
  go_wp2_with fail
  go_ret
  exact ⟨rfl, B6⟩

set_option maxHeartbeats 4000000 in
theorem made_is (N M s t gF gH gR gC gA gB : Nat) (l : List ArcN) (w : World) (hC : CsrAt w w.heap.size N l gF gH gR gC gA gB) (hc : checkF N s t l = 0) (hMe : firstOf l N = M) (hM : M ≤ 100000000) :
    Calls Try.prog 43 #[csrV N M s t gF gH gR gC gA gB] w fun e w' => e = .returned (.bool true) ∧ Below w.heap.size w w' := by
  obtain ⟨F, H, R, C, Ai, B, hL⟩ := csrL_ex N l
  have hE := (ends_in hc).2.2.2.1
  have hN := (ends_in hc).2.1
  have HC := Lib.hid hC; have HCK := Lib.hid hc; have HL := Lib.hid hL; have HE := Lib.hid hE; have HME := Lib.hid hMe
  clear hC hc hL hE hMe
  go_enter Try.func43, Try.ntmps43
  go_wp2_with fail
  have B0 := below_alloc (w := w) (.cells #[.int .i64 (N : Int), .int .i64 (s : Int), .int .i64 (t : Int), .slice (some ⟨gF, 0, none⟩) (N + 1) (N + 1), .slice (some ⟨gH, 0, none⟩) M M, .slice (some ⟨gR, 0, none⟩) M M, .slice (some ⟨gC, 0, none⟩) M M, .slice (some ⟨gA, 0, none⟩) M M, .slice (some ⟨gB, 0, none⟩) M M] 45)
  have K0 : Blk (w.alloc (.cells #[.int .i64 (N : Int), .int .i64 (s : Int), .int .i64 (t : Int), .slice (some ⟨gF, 0, none⟩) (N + 1) (N + 1), .slice (some ⟨gH, 0, none⟩) M M, .slice (some ⟨gR, 0, none⟩) M M, .slice (some ⟨gC, 0, none⟩) M M, .slice (some ⟨gA, 0, none⟩) M M, .slice (some ⟨gB, 0, none⟩) M M] 45)) w.heap.size 45 #[.int .i64 (N : Int), .int .i64 (s : Int), .int .i64 (t : Int), .slice (some ⟨gF, 0, none⟩) (N + 1) (N + 1), .slice (some ⟨gH, 0, none⟩) M M, .slice (some ⟨gR, 0, none⟩) M M, .slice (some ⟨gC, 0, none⟩) M M, .slice (some ⟨gA, 0, none⟩) M M, .slice (some ⟨gB, 0, none⟩) M M] := Blk.new rfl
  refine (network_is N M s t gF gH gR gC gA gB l _ (HC.out.on B0) HCK.out HME.out).mono ?_
  rintro e w1 ⟨n0, hlp, hnl, A, n, c, rfl, ho, hln, X1⟩
  have K1 := K0.below X1 K0.lt
  have B1 := below_step B0 X1
  have hck' := check_nrm HCK.out hnl
  have aL := arcs_own ho hln
  have hz1 := K1.lt
  have hcp := (csrL_nrm hlp HL.out)
  have HLP := Lib.hid hlp; have HK' := Lib.hid hck'; have HCP := Lib.hid hcp; have HAL := Lib.hid aL; have HLN := Lib.hid hln
  clear hlp hck' hcp aL hln ho K0 B0 X1 hnl
  go_wp2_with fail
  refine (make_good N s t A n c (nrmL n0 l) _ HAL.out HK'.out).mono ?_
  rintro e w2 ⟨gF2, gH2, gR2, gC2, gA2, gB2, rfl, hgs, C2, X2⟩
  have hf2 : firstOf (nrmL n0 l) N = M := by rw [first_nrm HLP.out, HME.out]
  rw [hf2]
  have K2 := K1.below X2 K1.lt
  have B2 := below_step B1 X2
  have hE' := (ends_in HK'.out).2.2.2.1
  have hI2 := C2.rows hE' HCP.out
  rw [hf2] at hI2
  have HI2 := Lib.hid hI2; have HK2 := Lib.hid K2; have HB2 := Lib.hid B2
  have hz2 := K2.lt
  obtain ⟨a0, a1, a2, a3, a4, a5, a6, a7, a8⟩ := K2.at9
  clear hgs C2 hf2 hE' hI2 K1 B1 X2 hz1 K2 B2
  go_wp2_with fail
  obtain ⟨w3, hw3⟩ : ∃ w3, w2.alloc (.cells #[.int .i64 (N : Int), .int .i64 (s : Int), .int .i64 (t : Int), .slice (some ⟨gF2, 0, none⟩) (N + 1) (N + 1), .slice (some ⟨gH2, 0, none⟩) M M, .slice (some ⟨gR2, 0, none⟩) M M, .slice (some ⟨gC2, 0, none⟩) M M, .slice (some ⟨gA2, 0, none⟩) M M, .slice (some ⟨gB2, 0, none⟩) M M] 45) = w3 := ⟨_, rfl⟩
  have h23 : Below w2.heap.size w2 w3 := by rw [← hw3]; exact below_alloc _
  rw [hw3]
  clear hw3
  have hIa := (HC.out.on (below_step HB2.out h23)).rows HE.out HL.out
  rw [HME.out] at hIa
  refine (same_is N M s t (csrK N M gF gH gR gC gA gB) (csrK N M gF2 gH2 gR2 gC2 gA2 gB2) F H R C Ai B w3 hIa (HI2.out.on h23) hM hN).mono ?_
  rintro e w4 ⟨rfl, X4⟩
  have hz4 := X4.size
  have hz3 := h23.size
  have HB4 := Lib.hid (below_step (below_step HB2.out h23) X4)
  clear X4 hIa h23 a0 a1 a2 a3 a4 a5 a6 a7 a8
  go_wp2_with fail
  go_ret
  exact ⟨rfl, HB4.out⟩


end Go.Proofs.Ytfcjmhihheeifaa
