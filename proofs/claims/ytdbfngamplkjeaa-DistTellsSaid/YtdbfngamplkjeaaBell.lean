/- The document's answer for distances: shorter and shorter, as long as something changes. -/
import Derived.Test.YtdbfngamplkjeaaDsteps
namespace Go.Proofs.Ytdbfngamplkjeaa
open Go.RowKit
set_option maxRecDepth 100000

/-- What holds while distances become shorter. -/
structure Bf (R : Nat → Nat → Prop) (N t : Nat) (d : Nat → Nat) : Prop where
  le : ∀ v, v < N → d v ≤ N
  zero : d t = 0
  sup : ∀ v, v < N → d v < N → v ≠ t → ∃ u, u < N ∧ R u v ∧ d u + 1 ≤ d v
def sigD (d : Nat → Nat) : Nat → Nat
  | 0 => 0
  | n + 1 => sigD d n + d n
def rdN (w : World) (g v : Nat) : Nat := match w.cell? ⟨g, v, none⟩ with
  | some (.int _ x) => x.toNat
  | _ => 0
section
variable {R : Nat → Nat → Prop} {N M t u v k x : Nat} {d d' : Nat → Nat}
theorem Bf.start : Bf R N t (nupd (fun _ => N) t 0) := by
  refine ⟨fun v _ => ?_, nupd_at _ _ _, fun v _ h1 h2 => ?_⟩
  · show (if v = t then 0 else N) ≤ N
    split <;> omega
  · rw [nupd_ne h2] at h1
    exact absurd h1 (Nat.lt_irrefl _)
theorem Bf.relax {h : Nat} (hB : Bf R N t d) (hu : u < N) (hh : h < N) (hR : R h u) (hl : d h + 1 < d u) : Bf R N t (nupd d u (d h + 1)) := by
  have hle := hB.le u hu
  refine ⟨fun v hv => ?_, ?_, fun v hv h1 h2 => ?_⟩
  · unfold nupd
    split
    · omega
    · exact hB.le v hv
  · have : t ≠ u := fun e => by subst e; have := hB.zero; omega
    rw [nupd_ne this]
    exact hB.zero
  · by_cases e : v = u
    · subst e
      have : h ≠ v := fun e => by subst e; omega
      exact ⟨h, hh, hR, by rw [nupd_ne this, nupd_at]; exact Nat.le_refl _⟩
    · rw [nupd_ne e] at h1 ⊢
      obtain ⟨u0, k1, k2, k3⟩ := hB.sup v hv h1 h2
      refine ⟨u0, k1, k2, ?_⟩
      unfold nupd
      split
      · rename_i e'
        subst e'
        omega
      · exact k3
theorem Bf.done (hB : Bf R N t d) (hs : ∀ u v, u < N → v < N → R u v → d v ≤ d u + 1) : IsDist R N t d :=
  ⟨hB.le, hB.zero, hs, fun v hv h1 h2 => by
    obtain ⟨u, k1, k2, k3⟩ := hB.sup v hv h1 h2
    have := hs u v k1 hv k2
    exact ⟨u, k1, k2, by omega⟩⟩
theorem sigD_congr : ∀ {n : Nat} (_ : ∀ v, v < n → d v = d' v), sigD d n = sigD d' n
  | 0, _ => rfl
  | n + 1, h => by
    unfold sigD
    rw [sigD_congr (n := n) fun v hv => h v (by omega), h n (by omega)]
theorem sigD_upd : ∀ {n : Nat} (_ : u < n), sigD (nupd d u x) n + d u = sigD d n + x
  | 0, h => by omega
  | n + 1, h => by
    unfold sigD
    by_cases e : u = n
    · subst e
      rw [nupd_at, sigD_congr (d := nupd d u x) (d' := d) fun v hv => nupd_ne (by omega)]
      omega
    · have := sigD_upd (n := n) (show u < n by omega)
      rw [nupd_ne (show n ≠ u from fun e' => e e'.symm)]
      omega
theorem rdN_is {w : World} {g : Nat} (h : ∀ v, v < N → w.cell? ⟨g, v, none⟩ = some (.int .i64 (d v : Int))) : sigD (rdN w g) N = sigD d N :=
  sigD_congr fun v hv => by
    unfold rdN
    rw [h v hv]
    rfl
theorem dl_at (hu : u < N) : (nvs (tab N d))[u]? = some (.int .i64 (d u : Int)) := by
  unfold nvs
  rw [List.getElem?_map, tab_at hu]
  rfl
theorem dl_set : (nvs (tab N d)).set u (.int .i64 (x : Int)) = nvs (tab N (nupd d u x)) := by
  unfold nvs
  rw [show (Value.int .i64 (x : Int)) = (fun v : Nat => Value.int .i64 (v : Int)) x from rfl, ← List.map_set, tab_set]
  congr 1
theorem dl_start : nvs (List.replicate N N) = nvs (tab N fun _ => N) := by
  unfold nvs
  congr 1
  refine tab_ext (by simp) fun i hi => ?_
  rw [List.getElem?_replicate, if_pos hi]
theorem dl_more (k : Nat) : nvs (List.replicate k N) ++ [.int .i64 (N : Int)] = nvs (List.replicate (k + 1) N) := by
  unfold nvs
  rw [List.replicate_succ', List.map_append]
  rfl
variable {b : Bool} {fst hd rv : Nat → Nat} {X : List Int}
theorem arc_link (hG : Grid N M fst hd rv) {a : Nat} (ha : a < M) (ho : opn X a = true) : linkOf b M hd rv X (hlB b hd rv a) (tlB b hd rv a) := by
  cases b
  · exact ⟨a, ha, rfl, rfl, ho⟩
  · exact ⟨rv a, hG.rvl a ha, by rw [hG.rvv a ha]; rfl, rfl, by show opn X (rv (rv a)) = true; rw [hG.rvv a ha]; exact ho⟩
theorem link_arc (hG : Grid N M fst hd rv) (h : linkOf b M hd rv X u v) : ∃ a, a < M ∧ opn X a = true ∧ hlB b hd rv a = u ∧ tlB b hd rv a = v := by
  cases b
  · obtain ⟨a, ha, h1, h2, h3⟩ := h
    exact ⟨a, ha, h3, h1, h2⟩
  · obtain ⟨a, ha, h1, h2, h3⟩ := h
    exact ⟨rv a, hG.rvl a ha, h3, h1, by show hd (rv (rv a)) = v; rw [hG.rvv a ha]; exact h2⟩
theorem Bf.dist (hG : Grid N M fst hd rv) (hB : Bf (linkOf b M hd rv X) N t d) (hs : ∀ a, a < M → opn X a = true → d (tlB b hd rv a) ≤ d (hlB b hd rv a) + 1) : IsDist (linkOf b M hd rv X) N t d :=
  hB.done fun u v _ _ h => by
    obtain ⟨a, h1, h2, h3, h4⟩ := link_arc hG h
    have := hs a h1 h2
    rw [h3, h4] at this
    exact this
end
section
variable {w w0 : World} {base g c N : Nat} {d : Nat → Nat} {rs : List Rw}
theorem Hx.dcell (h : Hx w0 w base [⟨3, some ⟨g, 0, none⟩, N, c, nvs (tab N d)⟩]) {v : Nat} (hv : v < N) : w.cell? ⟨g, v, none⟩ = some (.int .i64 (d v : Int)) ∧ w.frozen? ⟨g, v, none⟩ = false ∧ g < w.heap.size ∧ base ≤ g := h.cell (i := 0) rfl hv (dl_at hv)
theorem Hx.dput (h : Hx w0 w base [⟨3, some ⟨g, 0, none⟩, N, c, nvs (tab N d)⟩]) (u x : Nat) : Hx w0 (w.setCell ⟨g, u, none⟩ (.int .i64 (x : Int))) base [⟨3, some ⟨g, 0, none⟩, N, c, nvs (tab N (nupd d u x))⟩] := by
  have := h.put (i := 0) rfl u (.int .i64 (x : Int))
  rw [← dl_set]
  exact this
theorem Hx.dsum (h : Hx w0 w base [⟨3, some ⟨g, 0, none⟩, N, c, nvs (tab N d)⟩]) : sigD (rdN w g) N = sigD d N := rdN_is fun _ hv => (h.dcell hv).1
theorem Hx.dints (h : Hx w0 w base [⟨3, some ⟨g, 0, none⟩, N, c, nvs (tab N d)⟩]) : Ints w w.heap.size (some ⟨g, 0, none⟩) N (tab N fun v => (d v : Int)) :=
  h.held.ints (i := 0) (by unfold nvs tab; rw [List.map_map, List.map_map]; rfl) (tab_len _ _)
end
/-- A list of numbers is answered, of which P holds. -/
def RetList (P : List Int → Prop) (w : World) (e : Ending) (w' : World) : Prop :=
  ∃ (A : Option Addr) (n c : Nat) (l : List Int), e = .returned (.slice A n c) ∧ Ints w' w'.heap.size A n l ∧ n ≤ 1000000 ∧ P l ∧ Below w.heap.size w w'

set_option maxHeartbeats 16000000 in
theorem rto_good (N M : Nat) (S T : Int) (K : CsrS) (fst hd rv : Nat → Nat) (AX : Option Addr) (cX : Nat) (X : List Int) (t : Nat) (w : World) (hG : Grid N M fst hd rv) (hI : GridIn w w.heap.size N M K fst hd rv) (hX : Ints w w.heap.size AX M X) (hM : M ≤ 100000000) (hN : N ≤ 4096) (ht : t < N) :
    Calls Try.prog 15 #[csrW N M S T K, .slice AX M cX, .int .i64 (t : Int)] w (RetList (fun l => ∃ d, IsDist (linkOf true M hd rv X) N t d ∧ l = tab N fun v => (d v : Int)) w) := by
  have HG := Lib.hid hG
  have hXl := Lib.hid hX.len
  obtain ⟨AF, cF, AH, cH, AR, cR, AC, cC, AA, cA, AB, cB⟩ := K
  dsimp only [csrW]
  have C1 : Blk (w.alloc (.cells #[.int .i64 (N : Int), .int .i64 S, .int .i64 T, .slice AF (N + 1) cF, .slice AH M cH, .slice AR M cR, .slice AC M cC, .slice AA M cA, .slice AB M cB] 29)) w.heap.size 29 #[.int .i64 (N : Int), .int .i64 S, .int .i64 T, .slice AF (N + 1) cF, .slice AH M cH, .slice AR M cR, .slice AC M cC, .slice AA M cA, .slice AB M cB] := Blk.new rfl
  have G1 := hI.onAlloc (.cells #[.int .i64 (N : Int), .int .i64 S, .int .i64 T, .slice AF (N + 1) cF, .slice AH M cH, .slice AR M cR, .slice AC M cC, .slice AA M cA, .slice AB M cB] 29)
  have X1 := hX.onAlloc (.cells #[.int .i64 (N : Int), .int .i64 S, .int .i64 T, .slice AF (N + 1) cF, .slice AH M cH, .slice AR M cR, .slice AC M cC, .slice AA M cA, .slice AB M cB] 29)
  have Bw1 : Below w.heap.size w (w.alloc (.cells #[.int .i64 (N : Int), .int .i64 S, .int .i64 T, .slice AF (N + 1) cF, .slice AH M cH, .slice AR M cR, .slice AC M cC, .slice AA M cA, .slice AB M cB] 29)) := below_alloc _
  have hs1 : w.heap.size < (w.alloc (.cells #[.int .i64 (N : Int), .int .i64 S, .int .i64 T, .slice AF (N + 1) cF, .slice AH M cH, .slice AR M cR, .slice AC M cC, .slice AA M cA, .slice AB M cB] 29)).heap.size := C1.lt
  have g1 : decide ((t : Int) < 0) = false := decide_eq_false (by omega)
  have g2 : decide (N ≤ t) = false := decide_eq_false (by omega)
  clear hG hI hX
  go_enter Try.func15, Try.ntmps15
  go_wp2_with fail
  generalize w.alloc (.cells #[.int .i64 (N : Int), .int .i64 S, .int .i64 T, .slice AF (N + 1) cF, .slice AH M cH, .slice AR M cR, .slice AC M cC, .slice AA M cA, .slice AB M cB] 29) = w1 at *
  have HC1 := Lib.hid C1; have HG1 := Lib.hid G1; have HX1 := Lib.hid X1; have HB1 := Lib.hid Bw1
  have X0 : Hx w1 w1 w1.heap.size [⟨3, none, 0, 0, nvs (List.replicate 0 N)⟩] := (Hx.start rfl).nil 3
  have hX0 := Lib.hid X0
  clear C1 G1 X1 Bw1 X0 g1 g2
  go_loopw [7, 8] (fun s7 s8 wr => ∃ (k : Nat) (A : Option Addr) (c : Nat), k ≤ N ∧ s8 = .int .i64 k ∧ s7 = .slice A k c ∧ Hx w1 wr w1.heap.size [⟨3, A, k, c, nvs (List.replicate k N)⟩]) (fun _ s _ => N - (intOf s).toNat)
  case atStart => exact ⟨0, none, 0, Nat.zero_le _, rfl, rfl, hX0.out⟩
  case round =>
    clear hX0
    obtain ⟨k, A, c, hk, rfl, rfl, H⟩ := hrel
    have C2 := HC1.out.below H.bel HC1.out.lt
    by_cases hlt : k < N
    · obtain ⟨a0, a1, a2, a3, a4, a5, a6, a7, a8⟩ := C2.at9
      have hz2 := C2.lt
      have HH := Lib.hid H
      clear H C2
      go_wp2_with (at_builtin; refine wp_appH HH.out rfl (.tmp 34) (.tmp 37) _ _ _ rfl one_int.wide 0 k c A _ (.int .i64 (N : Int)) rfl rfl rfl rfl (by omega) (by simp) ?_)
      intro A4 c4 w4 HX4 HB4
      have H4 : Hid (Hx w1 w4 w1.heap.size [⟨3, A4, k + 1, c4, nvs (List.replicate (k + 1) N)⟩]) := by
        have h := HX4.out
        unfold nvs
        rw [List.replicate_succ', List.map_append, List.map_replicate]
        exact Lib.hid h
      clear HX4 HB4 HH a0 a1 a2 a3 a4 a5 a6 a7 a8 hz2
      go_wp2_with fail
      go_roundw
      case rel => exact ⟨k + 1, A4, c4, by omega, by go_num, rfl, H4.out⟩
      case measure => simp [intOf]; omega
    · obtain rfl : k = N := by omega
      obtain ⟨g, hA, hg1, hg2⟩ := own_form (H.held.own 0 _ rfl) (show 0 < k by omega)
      simp only at hA
      subst hA
      rw [dl_start] at H
      obtain ⟨q1, q2, q3, q4⟩ := H.dcell ht
      have H2 := H.dput t 0
      have hB0 : Bf (linkOf true M hd rv X) k t (nupd (fun _ => k) t 0) := Bf.start
      have HH2 := Lib.hid H2; have HB0 := Lib.hid hB0
      obtain ⟨a0, a1, a2, a3, a4, a5, a6, a7, a8⟩ := C2.at9
      have hz2 := C2.lt
      clear H H2 hB0 C2 hg1 hg2
      go_wp2_with fail
      clear q1 q2 q3 a0 a1 a2 a3 a4 a5 a6 a7 a8 hz2
      go_loopw [9] (fun s9 wr => ∃ (more : Bool) (d : Nat → Nat), s9 = .bool more ∧ Bf (linkOf true M hd rv X) k t d ∧ (more = false → ∀ a, a < M → opn X a = true → d (tlB true hd rv a) ≤ d (hlB true hd rv a) + 1) ∧ Hx w1 wr w1.heap.size [⟨3, some ⟨g, 0, none⟩, k, c, nvs (tab k d)⟩])
        (fun s9 wr => match s9 with | .bool true => sigD (rdN wr g) k + 1 | _ => 0)
      case atStart => exact ⟨true, _, rfl, HB0.out, (fun h => by cases h), HH2.out⟩
      case round =>
        clear HH2 HB0
        obtain ⟨more, d, rfl, hB, hst, H⟩ := hrel
        obtain ⟨W0, hW0⟩ := world_name H.bel
        subst hW0
        cases more
        case false =>
          have hD := Bf.dist HG.out hB (hst rfl)
          have HD := Lib.hid hD; have HH := Lib.hid H
          clear hB hst H hD
          go_wp2_with fail
          go_ret
          exact ⟨_, k, _, _, rfl, HH.out.dints, by omega, ⟨d, HD.out, rfl⟩, below_step HB1.out HH.out.bel⟩
        case true =>
          clear hst
          have hmu := H.dsum
          have HMU := Lib.hid hmu; have HB := Lib.hid hB; have HH := Lib.hid H
          clear hmu hB H
          go_wp2_with fail
          go_loopw [9, 10] (fun s9 s10 wr => ∃ (more : Bool) (d' : Nat → Nat) (u : Nat), u ≤ k ∧ s9 = .bool more ∧ s10 = .int .i64 u ∧ Bf (linkOf true M hd rv X) k t d' ∧ sigD d' k ≤ sigD d k ∧ (more = true → sigD d' k < sigD d k) ∧ (more = false → ∀ a, a < fst u → opn X a = true → d' (tlB true hd rv a) ≤ d' (hlB true hd rv a) + 1) ∧
            Hx w1 wr w1.heap.size [⟨3, some ⟨g, 0, none⟩, k, c, nvs (tab k d')⟩]) (fun _ s _ => k - (intOf s).toNat)
          case atStart => exact ⟨false, d, 0, Nat.zero_le _, rfl, rfl, HB.out, Nat.le_refl _, (fun h => by cases h), (fun _ a ha => by rw [HG.out.f0] at ha; omega), HH.out⟩
          case round =>
            clear HB HH
            obtain ⟨more, d1, u, hu, rfl, rfl, hB, hs1', hs2, hst, H⟩ := hrel
            obtain ⟨W2, hW2⟩ := world_name H.bel
            subst hW2
            have C3 := HC1.out.below H.bel HC1.out.lt
            by_cases hul : u < k
            · have G3 := HG1.out.below H.bel
              obtain ⟨bF, oF, hAF⟩ := G3.iF.adr (by omega)
              dsimp only at hAF
              subst hAF
              obtain ⟨hbF, cf⟩ := tab_cell G3.iF (k := u) (by omega)
              have hzz := H.bel.size
              have hmono := HG.out.mono u hul
              obtain ⟨a0, a1, a2, a3, a4, a5, a6, a7, a8⟩ := C3.at9
              have hz3 := C3.lt
              have HB := Lib.hid hB; have HST := Lib.hid hst; have HH := Lib.hid H; have HS2 := Lib.hid hs2; have HS1 := Lib.hid hs1'
              clear hB hst H hs2 hs1' C3 G3
              go_wp2_with fail
              clear a0 a1 a2 a3 a4 a5 a6 a7 a8 hz3 cf hzz
              go_loopw [9, 11] (fun s9 s11 wr => ∃ (more : Bool) (d' : Nat → Nat) (a : Nat), fst u ≤ a ∧ a ≤ fst (u + 1) ∧ s9 = .bool more ∧ s11 = .int .i64 a ∧ Bf (linkOf true M hd rv X) k t d' ∧ sigD d' k ≤ sigD d k ∧ (more = true → sigD d' k < sigD d k) ∧ (more = false → ∀ a', a' < a → opn X a' = true → d' (tlB true hd rv a') ≤ d' (hlB true hd rv a') + 1) ∧
                Hx w1 wr w1.heap.size [⟨3, some ⟨g, 0, none⟩, k, c, nvs (tab k d')⟩]) (fun _ s _ => fst (u + 1) - (intOf s).toNat)
              case atStart => exact ⟨more, d1, fst u, Nat.le_refl _, hmono, rfl, rfl, HB.out, HS1.out, HS2.out, HST.out, HH.out⟩
              case round =>
                clear HB HST HH HS2 HS1
                obtain ⟨more2, d2, a, ha1, ha2, rfl, rfl, hB, hs1', hs2, hst, H⟩ := hrel
                obtain ⟨W3, hW3⟩ := world_name H.bel
                subst hW3
                have C4 := HC1.out.below H.bel HC1.out.lt
                have G4 := HG1.out.below H.bel
                have X4 := HX1.out.below H.bel
                obtain ⟨hbF4, cf1⟩ := tab_cell G4.iF (k := u + 1) (by omega)
                have hzz := H.bel.size
                have hwu : IntKind.i64.wrap ((u : Int) + 1) = (u : Int) + 1 := by rw [IntKind.wrap_i64]; omega
                by_cases hal : a < fst (u + 1)
                · have hfl := HG.out.fle (v := u + 1) (by omega)
                  have haM : a < M := by omega
                  have hah := HG.out.hdl a haM
                  have htl := HG.out.tail u a hul ha1 hal
                  obtain ⟨bH, oH, hAH⟩ := G4.iH.adr (by omega)
                  dsimp only at hAH
                  subst hAH
                  obtain ⟨hbH, ch⟩ := tab_cell G4.iH haM
                  obtain ⟨bX, oX, hAX⟩ := X4.adr (by omega)
                  subst hAX
                  obtain ⟨x, hx⟩ : ∃ x, X[a]? = some x := ⟨_, List.getElem?_eq_getElem (by rw [hXl.out]; exact haM)⟩
                  obtain ⟨hbX, cx⟩ := X4.cel hx
                  have hop := opn_at hx
                  obtain ⟨ch1, ch2, -, -⟩ := H.dcell hah
                  obtain ⟨cu1, cu2, hgl, -⟩ := H.dcell hul
                  have hlh := hB.le _ hah
                  have hlu := hB.le _ hul
                  have hlk := fun ho => arc_link (b := true) (X := X) HG.out haM ho
                  have htlB : tlB true hd rv a = u := by exact htl
                  have hhlB : hlB true hd rv a = (hd a) := by rfl
                  rw [htlB, hhlB] at hlk
                  obtain ⟨a0, a1, a2, a3, a4, a5, a6, a7, a8⟩ := C4.at9
                  have hz4 := C4.lt
                  have e1 : IntKind.i64.wrap ((d2 (hd a) : Int) + 1) = (d2 (hd a) : Int) + 1 := by rw [IntKind.wrap_i64]; omega
                  by_cases hpos : 0 < x
                  · have ho : opn X a = true := by rw [hop]; exact decide_eq_true hpos
                    have f1 : decide (0 < x) = true := decide_eq_true hpos
                    have f2 : decide (x ≤ 0) = false := decide_eq_false (by omega)
                    by_cases hrl : d2 (hd a) + 1 < d2 u
                    · have hB2 := hB.relax hul hah (hlk ho) hrl
                      have hsg := sigD_upd (d := d2) (x := d2 (hd a) + 1) hul
                      have f3 : decide ((d2 (hd a) : Int) + 1 < (d2 u : Int)) = true := decide_eq_true (by omega)
                      have HB2 := Lib.hid hB2; have HH := Lib.hid H
                      have HSG : Hid (sigD (nupd d2 u (d2 (hd a) + 1)) k < sigD d k) := Lib.hid (by omega)
                      clear hB2 hB hs2 hst H C4 G4 X4 hx hop ho hsg hlk
                      go_wp2_with fail
                      go_quiet (fail)
                      have H5 := HH.out.drew nq
                      clear a0 a1 a2 a3 a4 a5 a6 a7 a8 hz4 ch cx cf1 hbX hbH hbF4 ch1 ch2 cu1 cu2 hgl
                      generalize W3.drewN nq = w5 at *
                      have C5 := HC1.out.below H5.bel HC1.out.lt
                      obtain ⟨a0, a1, a2, a3, a4, a5, a6, a7, a8⟩ := C5.at9
                      have hz5 := C5.lt
                      have hzz5 := H5.bel.size
                      obtain ⟨hbH, ch⟩ := tab_cell (HG1.out.below H5.bel).iH haM
                      obtain ⟨ch1, ch2, -, -⟩ := H5.dcell hah
                      obtain ⟨cu1, cu2, hgl, -⟩ := H5.dcell hul
                      have H6 := H5.dput u (d2 (hd a) + 1)
                      have HH6 := Lib.hid H6
                      clear C5 H5 H6
                      go_wp2_with fail
                      go_roundw
                      case rel => exact ⟨true, nupd d2 u (d2 (hd a) + 1), a + 1, by omega, by omega, rfl, by go_num, HB2.out, Nat.le_of_lt HSG.out, fun _ => HSG.out, (fun h => by cases h), HH6.out⟩
                      case measure => simp [intOf]; omega
                    · have f3 : decide ((d2 (hd a) : Int) + 1 < (d2 u : Int)) = false := decide_eq_false (by omega)
                      have hst2 : more2 = false → ∀ a', a' < a + 1 → opn X a' = true → d2 (tlB true hd rv a') ≤ d2 (hlB true hd rv a') + 1 := fun h a' ha' ho' => by
                        by_cases e : a' = a
                        · rw [e, htlB, hhlB]; omega
                        · exact hst h a' (by omega) ho'
                      have HB := Lib.hid hB; have HH := Lib.hid H; have HST := Lib.hid hst2; have HS1 := Lib.hid hs1'; have HS2 := Lib.hid hs2
                      clear hst2 hB hs2 hs1' hst H C4 G4 X4 hx hop ho hlk
                      go_wp2_with fail
                      go_quiet (fail)
                      go_wp2_with fail
                      go_roundw
                      case rel => exact ⟨more2, d2, a + 1, by omega, by omega, rfl, by go_num, HB.out, HS1.out, HS2.out, HST.out, HH.out.drew _⟩
                      case measure => simp [intOf]; omega
                  · have ho : opn X a = false := by rw [hop]; exact decide_eq_false hpos
                    have f1 : decide (0 < x) = false := decide_eq_false hpos
                    have f2 : decide (x ≤ 0) = true := decide_eq_true (by omega)
                    have hst2 : more2 = false → ∀ a', a' < a + 1 → opn X a' = true → d2 (tlB true hd rv a') ≤ d2 (hlB true hd rv a') + 1 := fun h a' ha' ho' => by
                      by_cases e : a' = a
                      · rw [e, ho] at ho'; cases ho'
                      · exact hst h a' (by omega) ho'
                    have HB := Lib.hid hB; have HH := Lib.hid H; have HST := Lib.hid hst2; have HS1 := Lib.hid hs1'; have HS2 := Lib.hid hs2
                    clear hst2 hB hs2 hs1' hst H C4 G4 X4 hx hop ho hlk
                    go_wp2_with fail
                    go_quiet (fail)
                    go_wp2_with fail
                    go_roundw
                    case rel => exact ⟨more2, d2, a + 1, by omega, by omega, rfl, by go_num, HB.out, HS1.out, HS2.out, HST.out, HH.out.drew _⟩
                    case measure => simp [intOf]; omega
                · obtain rfl : a = fst (u + 1) := by omega
                  obtain ⟨a0, a1, a2, a3, a4, a5, a6, a7, a8⟩ := C4.at9
                  have hz4 := C4.lt
                  have HB := Lib.hid hB; have HH := Lib.hid H; have HST := Lib.hid hst; have HS1 := Lib.hid hs1'; have HS2 := Lib.hid hs2
                  clear hB hs2 hs1' hst H C4 G4 X4
                  go_wp2_with fail
                  go_roundw
                  case rel => exact ⟨more2, d2, u + 1, by omega, rfl, by go_num, HB.out, HS1.out, HS2.out, HST.out, HH.out⟩
                  case measure => simp [intOf]; omega
            · obtain rfl : u = k := by omega
              obtain ⟨a0, a1, a2, a3, a4, a5, a6, a7, a8⟩ := C3.at9
              have hz3 := C3.lt
              have hmu1 := H.dsum
              rw [HG.out.fN] at hst
              have HB := Lib.hid hB; have HH := Lib.hid H; have HST := Lib.hid hst; have HS2 := Lib.hid hs2; have HMU1 := Lib.hid hmu1
              clear hB hs2 hs1' hst H C3 hmu1
              go_wp2_with fail
              go_roundw
              case rel => exact ⟨more, d1, rfl, HB.out, HST.out, HH.out⟩
              case measure =>
                have e1 := HMU.out
                have e2 := HMU1.out
                have e3 := HS2.out
                cases more
                · simp
                · have := e3 rfl
                  simp only
                  omega

set_option maxHeartbeats 16000000 in
theorem rfrom_good (N M : Nat) (S T : Int) (K : CsrS) (fst hd rv : Nat → Nat) (AX : Option Addr) (cX : Nat) (X : List Int) (t : Nat) (w : World) (hG : Grid N M fst hd rv) (hI : GridIn w w.heap.size N M K fst hd rv) (hX : Ints w w.heap.size AX M X) (hM : M ≤ 100000000) (hN : N ≤ 4096) (ht : t < N) :
    Calls Try.prog 17 #[csrW N M S T K, .slice AX M cX, .int .i64 (t : Int)] w (RetList (fun l => ∃ d, IsDist (linkOf false M hd rv X) N t d ∧ l = tab N fun v => (d v : Int)) w) := by
  have HG := Lib.hid hG
  have hXl := Lib.hid hX.len
  obtain ⟨AF, cF, AH, cH, AR, cR, AC, cC, AA, cA, AB, cB⟩ := K
  dsimp only [csrW]
  have C1 : Blk (w.alloc (.cells #[.int .i64 (N : Int), .int .i64 S, .int .i64 T, .slice AF (N + 1) cF, .slice AH M cH, .slice AR M cR, .slice AC M cC, .slice AA M cA, .slice AB M cB] 29)) w.heap.size 29 #[.int .i64 (N : Int), .int .i64 S, .int .i64 T, .slice AF (N + 1) cF, .slice AH M cH, .slice AR M cR, .slice AC M cC, .slice AA M cA, .slice AB M cB] := Blk.new rfl
  have G1 := hI.onAlloc (.cells #[.int .i64 (N : Int), .int .i64 S, .int .i64 T, .slice AF (N + 1) cF, .slice AH M cH, .slice AR M cR, .slice AC M cC, .slice AA M cA, .slice AB M cB] 29)
  have X1 := hX.onAlloc (.cells #[.int .i64 (N : Int), .int .i64 S, .int .i64 T, .slice AF (N + 1) cF, .slice AH M cH, .slice AR M cR, .slice AC M cC, .slice AA M cA, .slice AB M cB] 29)
  have Bw1 : Below w.heap.size w (w.alloc (.cells #[.int .i64 (N : Int), .int .i64 S, .int .i64 T, .slice AF (N + 1) cF, .slice AH M cH, .slice AR M cR, .slice AC M cC, .slice AA M cA, .slice AB M cB] 29)) := below_alloc _
  have hs1 : w.heap.size < (w.alloc (.cells #[.int .i64 (N : Int), .int .i64 S, .int .i64 T, .slice AF (N + 1) cF, .slice AH M cH, .slice AR M cR, .slice AC M cC, .slice AA M cA, .slice AB M cB] 29)).heap.size := C1.lt
  have g1 : decide ((t : Int) < 0) = false := decide_eq_false (by omega)
  have g2 : decide (N ≤ t) = false := decide_eq_false (by omega)
  clear hG hI hX
  go_enter Try.func17, Try.ntmps17
  go_wp2_with fail
  generalize w.alloc (.cells #[.int .i64 (N : Int), .int .i64 S, .int .i64 T, .slice AF (N + 1) cF, .slice AH M cH, .slice AR M cR, .slice AC M cC, .slice AA M cA, .slice AB M cB] 29) = w1 at *
  have HC1 := Lib.hid C1; have HG1 := Lib.hid G1; have HX1 := Lib.hid X1; have HB1 := Lib.hid Bw1
  have X0 : Hx w1 w1 w1.heap.size [⟨3, none, 0, 0, nvs (List.replicate 0 N)⟩] := (Hx.start rfl).nil 3
  have hX0 := Lib.hid X0
  clear C1 G1 X1 Bw1 X0 g1 g2
  go_loopw [7, 8] (fun s7 s8 wr => ∃ (k : Nat) (A : Option Addr) (c : Nat), k ≤ N ∧ s8 = .int .i64 k ∧ s7 = .slice A k c ∧ Hx w1 wr w1.heap.size [⟨3, A, k, c, nvs (List.replicate k N)⟩]) (fun _ s _ => N - (intOf s).toNat)
  case atStart => exact ⟨0, none, 0, Nat.zero_le _, rfl, rfl, hX0.out⟩
  case round =>
    clear hX0
    obtain ⟨k, A, c, hk, rfl, rfl, H⟩ := hrel
    have C2 := HC1.out.below H.bel HC1.out.lt
    by_cases hlt : k < N
    · obtain ⟨a0, a1, a2, a3, a4, a5, a6, a7, a8⟩ := C2.at9
      have hz2 := C2.lt
      have HH := Lib.hid H
      clear H C2
      go_wp2_with (at_builtin; refine wp_appH HH.out rfl (.tmp 34) (.tmp 37) _ _ _ rfl one_int.wide 0 k c A _ (.int .i64 (N : Int)) rfl rfl rfl rfl (by omega) (by simp) ?_)
      intro A4 c4 w4 HX4 HB4
      have H4 : Hid (Hx w1 w4 w1.heap.size [⟨3, A4, k + 1, c4, nvs (List.replicate (k + 1) N)⟩]) := by
        have h := HX4.out
        unfold nvs
        rw [List.replicate_succ', List.map_append, List.map_replicate]
        exact Lib.hid h
      clear HX4 HB4 HH a0 a1 a2 a3 a4 a5 a6 a7 a8 hz2
      go_wp2_with fail
      go_roundw
      case rel => exact ⟨k + 1, A4, c4, by omega, by go_num, rfl, H4.out⟩
      case measure => simp [intOf]; omega
    · obtain rfl : k = N := by omega
      obtain ⟨g, hA, hg1, hg2⟩ := own_form (H.held.own 0 _ rfl) (show 0 < k by omega)
      simp only at hA
      subst hA
      rw [dl_start] at H
      obtain ⟨q1, q2, q3, q4⟩ := H.dcell ht
      have H2 := H.dput t 0
      have hB0 : Bf (linkOf false M hd rv X) k t (nupd (fun _ => k) t 0) := Bf.start
      have HH2 := Lib.hid H2; have HB0 := Lib.hid hB0
      obtain ⟨a0, a1, a2, a3, a4, a5, a6, a7, a8⟩ := C2.at9
      have hz2 := C2.lt
      clear H H2 hB0 C2 hg1 hg2
      go_wp2_with fail
      clear q1 q2 q3 a0 a1 a2 a3 a4 a5 a6 a7 a8 hz2
      go_loopw [9] (fun s9 wr => ∃ (more : Bool) (d : Nat → Nat), s9 = .bool more ∧ Bf (linkOf false M hd rv X) k t d ∧ (more = false → ∀ a, a < M → opn X a = true → d (tlB false hd rv a) ≤ d (hlB false hd rv a) + 1) ∧ Hx w1 wr w1.heap.size [⟨3, some ⟨g, 0, none⟩, k, c, nvs (tab k d)⟩])
        (fun s9 wr => match s9 with | .bool true => sigD (rdN wr g) k + 1 | _ => 0)
      case atStart => exact ⟨true, _, rfl, HB0.out, (fun h => by cases h), HH2.out⟩
      case round =>
        clear HH2 HB0
        obtain ⟨more, d, rfl, hB, hst, H⟩ := hrel
        obtain ⟨W0, hW0⟩ := world_name H.bel
        subst hW0
        cases more
        case false =>
          have hD := Bf.dist HG.out hB (hst rfl)
          have HD := Lib.hid hD; have HH := Lib.hid H
          clear hB hst H hD
          go_wp2_with fail
          go_ret
          exact ⟨_, k, _, _, rfl, HH.out.dints, by omega, ⟨d, HD.out, rfl⟩, below_step HB1.out HH.out.bel⟩
        case true =>
          clear hst
          have hmu := H.dsum
          have HMU := Lib.hid hmu; have HB := Lib.hid hB; have HH := Lib.hid H
          clear hmu hB H
          go_wp2_with fail
          go_loopw [9, 10] (fun s9 s10 wr => ∃ (more : Bool) (d' : Nat → Nat) (u : Nat), u ≤ k ∧ s9 = .bool more ∧ s10 = .int .i64 u ∧ Bf (linkOf false M hd rv X) k t d' ∧ sigD d' k ≤ sigD d k ∧ (more = true → sigD d' k < sigD d k) ∧ (more = false → ∀ a, a < fst u → opn X a = true → d' (tlB false hd rv a) ≤ d' (hlB false hd rv a) + 1) ∧
            Hx w1 wr w1.heap.size [⟨3, some ⟨g, 0, none⟩, k, c, nvs (tab k d')⟩]) (fun _ s _ => k - (intOf s).toNat)
          case atStart => exact ⟨false, d, 0, Nat.zero_le _, rfl, rfl, HB.out, Nat.le_refl _, (fun h => by cases h), (fun _ a ha => by rw [HG.out.f0] at ha; omega), HH.out⟩
          case round =>
            clear HB HH
            obtain ⟨more, d1, u, hu, rfl, rfl, hB, hs1', hs2, hst, H⟩ := hrel
            obtain ⟨W2, hW2⟩ := world_name H.bel
            subst hW2
            have C3 := HC1.out.below H.bel HC1.out.lt
            by_cases hul : u < k
            · have G3 := HG1.out.below H.bel
              obtain ⟨bF, oF, hAF⟩ := G3.iF.adr (by omega)
              dsimp only at hAF
              subst hAF
              obtain ⟨hbF, cf⟩ := tab_cell G3.iF (k := u) (by omega)
              have hzz := H.bel.size
              have hmono := HG.out.mono u hul
              obtain ⟨a0, a1, a2, a3, a4, a5, a6, a7, a8⟩ := C3.at9
              have hz3 := C3.lt
              have HB := Lib.hid hB; have HST := Lib.hid hst; have HH := Lib.hid H; have HS2 := Lib.hid hs2; have HS1 := Lib.hid hs1'
              clear hB hst H hs2 hs1' C3 G3
              go_wp2_with fail
              clear a0 a1 a2 a3 a4 a5 a6 a7 a8 hz3 cf hzz
              go_loopw [9, 11] (fun s9 s11 wr => ∃ (more : Bool) (d' : Nat → Nat) (a : Nat), fst u ≤ a ∧ a ≤ fst (u + 1) ∧ s9 = .bool more ∧ s11 = .int .i64 a ∧ Bf (linkOf false M hd rv X) k t d' ∧ sigD d' k ≤ sigD d k ∧ (more = true → sigD d' k < sigD d k) ∧ (more = false → ∀ a', a' < a → opn X a' = true → d' (tlB false hd rv a') ≤ d' (hlB false hd rv a') + 1) ∧
                Hx w1 wr w1.heap.size [⟨3, some ⟨g, 0, none⟩, k, c, nvs (tab k d')⟩]) (fun _ s _ => fst (u + 1) - (intOf s).toNat)
              case atStart => exact ⟨more, d1, fst u, Nat.le_refl _, hmono, rfl, rfl, HB.out, HS1.out, HS2.out, HST.out, HH.out⟩
              case round =>
                clear HB HST HH HS2 HS1
                obtain ⟨more2, d2, a, ha1, ha2, rfl, rfl, hB, hs1', hs2, hst, H⟩ := hrel
                obtain ⟨W3, hW3⟩ := world_name H.bel
                subst hW3
                have C4 := HC1.out.below H.bel HC1.out.lt
                have G4 := HG1.out.below H.bel
                have X4 := HX1.out.below H.bel
                obtain ⟨hbF4, cf1⟩ := tab_cell G4.iF (k := u + 1) (by omega)
                have hzz := H.bel.size
                have hwu : IntKind.i64.wrap ((u : Int) + 1) = (u : Int) + 1 := by rw [IntKind.wrap_i64]; omega
                by_cases hal : a < fst (u + 1)
                · have hfl := HG.out.fle (v := u + 1) (by omega)
                  have haM : a < M := by omega
                  have hah := HG.out.hdl a haM
                  have htl := HG.out.tail u a hul ha1 hal
                  obtain ⟨bH, oH, hAH⟩ := G4.iH.adr (by omega)
                  dsimp only at hAH
                  subst hAH
                  obtain ⟨hbH, ch⟩ := tab_cell G4.iH haM
                  obtain ⟨bX, oX, hAX⟩ := X4.adr (by omega)
                  subst hAX
                  obtain ⟨x, hx⟩ : ∃ x, X[a]? = some x := ⟨_, List.getElem?_eq_getElem (by rw [hXl.out]; exact haM)⟩
                  obtain ⟨hbX, cx⟩ := X4.cel hx
                  have hop := opn_at hx
                  obtain ⟨ch1, ch2, -, -⟩ := H.dcell hah
                  obtain ⟨cu1, cu2, hgl, -⟩ := H.dcell hul
                  have hlh := hB.le _ hah
                  have hlu := hB.le _ hul
                  have hlk := fun ho => arc_link (b := false) (X := X) HG.out haM ho
                  have htlB : tlB false hd rv a = (hd a) := by rfl
                  have hhlB : hlB false hd rv a = u := by exact htl
                  rw [htlB, hhlB] at hlk
                  obtain ⟨a0, a1, a2, a3, a4, a5, a6, a7, a8⟩ := C4.at9
                  have hz4 := C4.lt
                  have e1 : IntKind.i64.wrap ((d2 u : Int) + 1) = (d2 u : Int) + 1 := by rw [IntKind.wrap_i64]; omega
                  by_cases hpos : 0 < x
                  · have ho : opn X a = true := by rw [hop]; exact decide_eq_true hpos
                    have f1 : decide (0 < x) = true := decide_eq_true hpos
                    have f2 : decide (x ≤ 0) = false := decide_eq_false (by omega)
                    by_cases hrl : d2 u + 1 < d2 (hd a)
                    · have hB2 := hB.relax hah hul (hlk ho) hrl
                      have hsg := sigD_upd (d := d2) (x := d2 u + 1) hah
                      have f3 : decide ((d2 u : Int) + 1 < (d2 (hd a) : Int)) = true := decide_eq_true (by omega)
                      have HB2 := Lib.hid hB2; have HH := Lib.hid H
                      have HSG : Hid (sigD (nupd d2 (hd a) (d2 u + 1)) k < sigD d k) := Lib.hid (by omega)
                      clear hB2 hB hs2 hst H C4 G4 X4 hx hop ho hsg hlk
                      go_wp2_with fail
                      go_quiet (fail)
                      have H5 := HH.out.drew nq
                      clear a0 a1 a2 a3 a4 a5 a6 a7 a8 hz4 ch cx cf1 hbX hbH hbF4 ch1 ch2 cu1 cu2 hgl
                      generalize W3.drewN nq = w5 at *
                      have C5 := HC1.out.below H5.bel HC1.out.lt
                      obtain ⟨a0, a1, a2, a3, a4, a5, a6, a7, a8⟩ := C5.at9
                      have hz5 := C5.lt
                      have hzz5 := H5.bel.size
                      obtain ⟨hbH, ch⟩ := tab_cell (HG1.out.below H5.bel).iH haM
                      obtain ⟨ch1, ch2, -, -⟩ := H5.dcell hah
                      obtain ⟨cu1, cu2, hgl, -⟩ := H5.dcell hul
                      have HH5 := Lib.hid H5
                      clear C5 H5
                      go_wp2_with fail
                      go_still_tail 12, (by kernel_rfl)
                      change wpList _ _ _ _ _ w5.drew
                      have H7 := HH5.out.on (Below.refl _ _).drew
                      clear a0 a1 a2 a3 a4 a5 a6 a7 a8 hz5 hzz5 hbH ch ch1 ch2 cu1 cu2 hgl HH5
                      generalize w5.drew = w7 at *
                      obtain ⟨ch1, ch2, hgl, -⟩ := H7.dcell hah
                      have H6 := H7.dput (hd a) (d2 u + 1)
                      have HH6 := Lib.hid H6
                      clear H7 H6
                      go_wp2_with fail
                      go_roundw
                      case rel => exact ⟨true, nupd d2 (hd a) (d2 u + 1), a + 1, by omega, by omega, rfl, by go_num, HB2.out, Nat.le_of_lt HSG.out, fun _ => HSG.out, (fun h => by cases h), HH6.out⟩
                      case measure => simp [intOf]; omega
                    · have f3 : decide ((d2 u : Int) + 1 < (d2 (hd a) : Int)) = false := decide_eq_false (by omega)
                      have hst2 : more2 = false → ∀ a', a' < a + 1 → opn X a' = true → d2 (tlB false hd rv a') ≤ d2 (hlB false hd rv a') + 1 := fun h a' ha' ho' => by
                        by_cases e : a' = a
                        · rw [e, htlB, hhlB]; omega
                        · exact hst h a' (by omega) ho'
                      have HB := Lib.hid hB; have HH := Lib.hid H; have HST := Lib.hid hst2; have HS1 := Lib.hid hs1'; have HS2 := Lib.hid hs2
                      clear hst2 hB hs2 hs1' hst H C4 G4 X4 hx hop ho hlk
                      go_wp2_with fail
                      go_quiet (fail)
                      go_wp2_with fail
                      go_roundw
                      case rel => exact ⟨more2, d2, a + 1, by omega, by omega, rfl, by go_num, HB.out, HS1.out, HS2.out, HST.out, HH.out.drew _⟩
                      case measure => simp [intOf]; omega
                  · have ho : opn X a = false := by rw [hop]; exact decide_eq_false hpos
                    have f1 : decide (0 < x) = false := decide_eq_false hpos
                    have f2 : decide (x ≤ 0) = true := decide_eq_true (by omega)
                    have hst2 : more2 = false → ∀ a', a' < a + 1 → opn X a' = true → d2 (tlB false hd rv a') ≤ d2 (hlB false hd rv a') + 1 := fun h a' ha' ho' => by
                      by_cases e : a' = a
                      · rw [e, ho] at ho'; cases ho'
                      · exact hst h a' (by omega) ho'
                    have HB := Lib.hid hB; have HH := Lib.hid H; have HST := Lib.hid hst2; have HS1 := Lib.hid hs1'; have HS2 := Lib.hid hs2
                    clear hst2 hB hs2 hs1' hst H C4 G4 X4 hx hop ho hlk
                    go_wp2_with fail
                    go_quiet (fail)
                    go_wp2_with fail
                    go_roundw
                    case rel => exact ⟨more2, d2, a + 1, by omega, by omega, rfl, by go_num, HB.out, HS1.out, HS2.out, HST.out, HH.out.drew _⟩
                    case measure => simp [intOf]; omega
                · obtain rfl : a = fst (u + 1) := by omega
                  obtain ⟨a0, a1, a2, a3, a4, a5, a6, a7, a8⟩ := C4.at9
                  have hz4 := C4.lt
                  have HB := Lib.hid hB; have HH := Lib.hid H; have HST := Lib.hid hst; have HS1 := Lib.hid hs1'; have HS2 := Lib.hid hs2
                  clear hB hs2 hs1' hst H C4 G4 X4
                  go_wp2_with fail
                  go_roundw
                  case rel => exact ⟨more2, d2, u + 1, by omega, rfl, by go_num, HB.out, HS1.out, HS2.out, HST.out, HH.out⟩
                  case measure => simp [intOf]; omega
            · obtain rfl : u = k := by omega
              obtain ⟨a0, a1, a2, a3, a4, a5, a6, a7, a8⟩ := C3.at9
              have hz3 := C3.lt
              have hmu1 := H.dsum
              rw [HG.out.fN] at hst
              have HB := Lib.hid hB; have HH := Lib.hid H; have HST := Lib.hid hst; have HS2 := Lib.hid hs2; have HMU1 := Lib.hid hmu1
              clear hB hs2 hs1' hst H C3 hmu1
              go_wp2_with fail
              go_roundw
              case rel => exact ⟨more, d1, rfl, HB.out, HST.out, HH.out⟩
              case measure =>
                have e1 := HMU.out
                have e2 := HMU1.out
                have e3 := HS2.out
                cases more
                · simp
                · have := e3 rfl
                  simp only
                  omega

end Go.Proofs.Ytdbfngamplkjeaa
