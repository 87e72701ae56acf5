/- CellsNone, its walk: banks that are none, and cells that are none, have nothing; what is told of all is nobody else's. -/
import Derived.Test.YtpmhajpjjihndaaAwa10
namespace Go.Proofs.Ytpmhajpjjihndaa
open Go.RowKit
set_option maxRecDepth 100000

/-- What stands in a bank's place has no such cell. -/
inductive Deaf (w : World) (p : Value) (i : Int) : Prop
  | none (h : NoBank w p)
  | out {b g n : Nat} {L : List Int} (h : BankAt w b g n L) (hp : p = .pointer (some ⟨b, 0, none⟩)) (hi : ¬ (0 ≤ i ∧ i < (n : Int)))
section
variable {w : World} {p : Value} {i : Int}
theorem store_deaf (h : Deaf w p i) (x : Int) : Calls Try.prog 14 #[p, .int .i64 i, .int .i64 x] w fun e w' => e = .returned (.tuple #[]) ∧ w' = w := by
  cases h with
  | none h => exact store_none h i x
  | out h hp hi =>
    subst hp
    have := store_bank h i x
    rw [if_neg hi] at this
    exact this
theorem load_deaf (h : Deaf w p i) : Calls Try.prog 13 #[p, .int .i64 i] w fun e w' => e = .returned (.int .i64 0) ∧ w' = w := by
  cases h with
  | none h => exact load_none h i
  | out h hp hi =>
    subst hp
    have := load_bank h i
    rw [cellV_out h.len hi] at this
    exact this
theorem add_deaf (h : Deaf w p i) (x : Int) : Calls Try.prog 16 #[p, .int .i64 i, .int .i64 x] w fun e w' => e = .returned (.int .i64 0) ∧ w' = w := by
  cases h with
  | none h => exact add_none h i x
  | out h hp hi =>
    subst hp
    refine (add_bank h i x).mono ?_
    intro e w' hew
    rw [if_neg hi] at hew
    injection hew with h1 h2
    exact ⟨h1, h2⟩
theorem cas_deaf (h : Deaf w p i) (o x : Int) : Calls Try.prog 18 #[p, .int .i64 i, .int .i64 o, .int .i64 x] w fun e w' => e = .returned (.bool false) ∧ w' = w := by
  cases h with
  | none h => exact cas_none h i o x
  | out h hp hi =>
    subst hp
    have := cas_bank h i o x
    rw [if_neg (fun c => hi c.1), decide_eq_false (p := _ ∧ _) (fun c => hi c.1)] at this
    exact this
end

/-- The three banks of the law, in their slice. -/
structure Thr (w : World) (s bb b g : Nat) : Prop where
  row : Blk w s 23 #[.pointer none, .pointer (some ⟨bb, 0, none⟩), .pointer (some ⟨b, 0, none⟩)]
  blank : Blk w bb 58 #[.pointer none, .slice none 0 0]
  bank : BankAt w b g 3 [0, 0, 0]
theorem Thr.below {w w' : World} {s bb b g : Nat} (h : Thr w s bb b g) (hB : Below w.heap.size w w') : Thr w' s bb b g :=
  ⟨h.row.below hB h.row.lt, h.blank.below hB h.blank.lt, h.bank.below hB h.bank.obj.lt h.bank.row.lt⟩

set_option maxHeartbeats 4000000 in
theorem cnone_walk (i v x : Int) (w : World) :
    Calls Try.prog 8 #[.int .i64 i, .int .i64 v, .int .i64 x] w fun e w' => e = .returned (.bool true) ∧ Below w.heap.size w w' := by
  go_enter Try.func8, Try.ntmps8
  go_wp2_with (go_at_call 9; refine (new_bank (n := 3) _ (by omega)).mono ?_; rintro e w1 ⟨b, g, rfl, D1, hb, hg, B1⟩)
  obtain ⟨w2, hw2⟩ : ∃ w2, (w1.alloc (.cells #[.pointer none, .slice none 0 0] 58)).alloc (.cells #[.pointer none, .pointer (some ⟨w1.heap.size, 0, none⟩), .pointer (some ⟨b, 0, none⟩)] 23) = w2 := ⟨_, rfl⟩
  have B2 : Below w.heap.size w w2 := by rw [← hw2]; exact (B1.alloc B1.size _).alloc (by have := B1.size; simp; omega) _
  have T2 : Thr w2 (w1.heap.size + 1) w1.heap.size b g := by
    rw [← hw2]
    exact ⟨Blk.new (by simp), (Blk.new rfl).alloc _, (D1.alloc _).alloc _⟩
  simp only [hw2]
  clear hw2
  generalize w1.heap.size = bb at T2
  clear D1 B1
  have HR : Hid (∀ W, Thr W (bb + 1) bb b g → W.cell? ⟨bb + 1, 0, none⟩ = some (.pointer none) ∧ W.cell? ⟨bb + 1, 1, none⟩ = some (.pointer (some ⟨bb, 0, none⟩)) ∧ W.cell? ⟨bb + 1, 2, none⟩ = some (.pointer (some ⟨b, 0, none⟩))) := Lib.hid fun W h => ⟨h.row.cell 0, h.row.cell 1, h.row.cell 2⟩
  go_loopw [9, 10, 11, 24] (fun _ _ _ c wr => ∃ k : Nat, k ≤ 3 ∧ c = .int .i64 (k : Int) ∧ Thr wr (bb + 1) bb b g ∧ Below w.heap.size w wr) (fun _ _ _ c _ => 3 - (intOf c).toNat)
  case atStart => exact ⟨0, by omega, rfl, T2, B2⟩
  case round =>
    obtain ⟨k, hk, rfl, hT, hB⟩ := hrel
    have HT := Lib.hid hT
    by_cases h3 : k < 3
    · obtain ⟨r0, r1, r2⟩ := HR.out _ hT
      clear hT
      obtain ⟨p, hp, hnb⟩ : ∃ p, wr.cell? ⟨bb + 1, k, none⟩ = some (.pointer p) ∧ (k < 2 → NoBank wr (.pointer p)) := by
        match k, h3 with
        | 0, _ => exact ⟨_, r0, fun _ => .nil⟩
        | 1, _ => exact ⟨_, r1, fun _ => .blank HT.out.blank⟩
        | 2, _ => exact ⟨_, r2, fun h => by omega⟩
      have hp2 : k = 2 → p = some ⟨b, 0, none⟩ := fun h => by subst h; rw [r2] at hp; injection hp with hp; injection hp with hp; exact hp.symm
      clear r0 r1 r2
      have hk3 : (0 : Int) ≤ (k : Int) ∧ (k : Int) < 3 := by omega
      by_cases h2 : k = 2
      · obtain rfl := hp2 h2
        subst h2
        clear hnb hp2 h3 hk hk3
        by_cases i0 : 0 ≤ i
        · by_cases i3 : i < 3
          · have hs : IntKind.i64.wrap (i + 3) = i + 3 := wrap_small (by omega) (by omega)
            have DEAF : Deaf wr (.pointer (some ⟨b, 0, none⟩)) (i + 3) := .out HT.out.bank rfl (by omega)
            go_wp2_with
              (first
                | (go_at_call 14; (with_reducible refine (store_deaf DEAF _).mono ?_); rintro e w9 ⟨rfl, hw9⟩; rw [hw9]; clear hw9 w9)
                | (go_at_call 13; (with_reducible refine (load_deaf DEAF).mono ?_); rintro e w9 ⟨rfl, hw9⟩; rw [hw9]; clear hw9 w9)
                | (go_at_call 16; (with_reducible refine (add_deaf DEAF _).mono ?_); rintro e w9 ⟨rfl, hw9⟩; rw [hw9]; clear hw9 w9)
                | (go_at_call 18; (with_reducible refine (cas_deaf DEAF _ _).mono ?_); rintro e w9 ⟨rfl, hw9⟩; rw [hw9]; clear hw9 w9))
            go_roundw
            case rel => exact ⟨3, by omega, by go_num, HT.out, hB⟩
            case measure => simp [intOf]
          · have DEAF : Deaf wr (.pointer (some ⟨b, 0, none⟩)) i := .out HT.out.bank rfl (by omega)
            go_wp2_with
              (first
                | (go_at_call 14; (with_reducible refine (store_deaf DEAF _).mono ?_); rintro e w9 ⟨rfl, hw9⟩; rw [hw9]; clear hw9 w9)
                | (go_at_call 13; (with_reducible refine (load_deaf DEAF).mono ?_); rintro e w9 ⟨rfl, hw9⟩; rw [hw9]; clear hw9 w9)
                | (go_at_call 16; (with_reducible refine (add_deaf DEAF _).mono ?_); rintro e w9 ⟨rfl, hw9⟩; rw [hw9]; clear hw9 w9)
                | (go_at_call 18; (with_reducible refine (cas_deaf DEAF _ _).mono ?_); rintro e w9 ⟨rfl, hw9⟩; rw [hw9]; clear hw9 w9))
            go_roundw
            case rel => exact ⟨3, by omega, by go_num, HT.out, hB⟩
            case measure => simp [intOf]
        · have DEAF : Deaf wr (.pointer (some ⟨b, 0, none⟩)) i := .out HT.out.bank rfl (by omega)
          go_wp2_with
            (first
              | (go_at_call 14; (with_reducible refine (store_deaf DEAF _).mono ?_); rintro e w9 ⟨rfl, hw9⟩; rw [hw9]; clear hw9 w9)
              | (go_at_call 13; (with_reducible refine (load_deaf DEAF).mono ?_); rintro e w9 ⟨rfl, hw9⟩; rw [hw9]; clear hw9 w9)
              | (go_at_call 16; (with_reducible refine (add_deaf DEAF _).mono ?_); rintro e w9 ⟨rfl, hw9⟩; rw [hw9]; clear hw9 w9)
              | (go_at_call 18; (with_reducible refine (cas_deaf DEAF _ _).mono ?_); rintro e w9 ⟨rfl, hw9⟩; rw [hw9]; clear hw9 w9))
          go_roundw
          case rel => exact ⟨3, by omega, by go_num, HT.out, hB⟩
          case measure => simp [intOf]
      · have NB := hnb (by omega)
        have DEAF : Deaf wr (.pointer p) i := .none NB
        have hn2 : ¬ (k : Int) = 2 := by omega
        have hl2 : (k : Int) < 2 := by omega
        go_wp2_with
          (first
            | (go_at_call 14; (with_reducible refine (store_deaf DEAF _).mono ?_); rintro e w9 ⟨rfl, hw9⟩; rw [hw9]; clear hw9 w9)
            | (go_at_call 13; (with_reducible refine (load_deaf DEAF).mono ?_); rintro e w9 ⟨rfl, hw9⟩; rw [hw9]; clear hw9 w9)
            | (go_at_call 16; (with_reducible refine (add_deaf DEAF _).mono ?_); rintro e w9 ⟨rfl, hw9⟩; rw [hw9]; clear hw9 w9)
            | (go_at_call 18; (with_reducible refine (cas_deaf DEAF _ _).mono ?_); rintro e w9 ⟨rfl, hw9⟩; rw [hw9]; clear hw9 w9)
            | (go_at_call 11; (with_reducible refine (len_none NB).mono ?_); rintro e w9 ⟨rfl, hw9⟩; rw [hw9]; clear hw9 w9)
            | (go_at_call 19; (with_reducible refine (all_none NB).mono ?_); rintro e wa ⟨rfl, hba⟩))
        go_roundw
        case rel => exact ⟨k + 1, by omega, by go_num, HT.out.below hba, hB.trans (hba.mono hB.size)⟩
        case measure => simp [intOf]; omega
    · have hk3 : k = 3 := by omega
      subst hk3
      clear HT HR T2 B2
      have D4 := hT.bank
      have hgw : w.heap.size ≤ g := hg
      go_wp2_with fail
      go_at_call 14
      refine (store_put D4 1 v).mono ?_
      rintro e w5 ⟨rfl, D5, W5⟩
      have B5 := W5.below hB hgw
      clear D4 W5 hT hB
      go_wp2_with fail
      go_at_call 19
      refine (all_bank D5).mono ?_
      rintro e w6 ⟨a, rfl, A6, ha, hB6⟩
      have D6 := D5.below hB6 D5.obj.lt D5.row.lt
      have B6 := B5.trans (hB6.mono B5.size)
      have hab : b ≠ a := by have := D5.obj.lt; omega
      have hag : g ≠ a := by have := D5.row.lt; omega
      have haw : w.heap.size ≤ a := by have := B5.size; omega
      have c1 : w6.cell? ⟨a, 1, none⟩ = some (.int .i64 v) := A6.iat rfl
      have f1 := A6.frozen 1
      clear D5 B5 hB6 ha
      have D7 : ∀ x : Value, BankAt (w6.setCell ⟨a, 1, none⟩ x) b g 3 (putV [0, 0, 0] 1 v) := fun x => D6.far hab hag _
      have hl0 := fun x => load_bank (D7 x) 0
      have hl1 := fun x => load_bank (D7 x) 1
      have hl2 := fun x => load_bank (D7 x) 2
      have e0 : cellV (putV [0, 0, 0] 1 v) 0 = 0 := rfl
      have e1 : cellV (putV [0, 0, 0] 1 v) 1 = v := rfl
      have e2 : cellV (putV [0, 0, 0] 1 v) 2 = 0 := rfl
      rw [e0] at hl0
      rw [e1] at hl1
      rw [e2] at hl2
      clear e0 e1 e2
      go_wp2_with (first
        | (go_at_call 13; (with_reducible refine (hl0 _).mono ?_); rintro e w9 ⟨rfl, hw9⟩; rw [hw9]; clear hw9 w9)
        | (go_at_call 13; (with_reducible refine (hl1 _).mono ?_); rintro e w9 ⟨rfl, hw9⟩; rw [hw9]; clear hw9 w9)
        | (go_at_call 13; (with_reducible refine (hl2 _).mono ?_); rintro e w9 ⟨rfl, hw9⟩; rw [hw9]; clear hw9 w9)
        | (go_at_call 10; refine (awake10_is _).mono ?_; rintro e w10 ⟨rfl, hB10⟩))
      go_ret
      have B7 : Below w.heap.size w (w6.setCell ⟨a, 1, none⟩ (.int .i64 (wrap64 (v + 1)))) := B6.setCell haw _
      exact ⟨rfl, B7.trans (hB10.mono B7.size)⟩
end Go.Proofs.Ytpmhajpjjihndaa
