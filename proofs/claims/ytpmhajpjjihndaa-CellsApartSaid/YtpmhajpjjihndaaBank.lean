/- Layer 10: a bank's object in memory; New, Len, Load, Store, Add, CAS, All of it, and of what is no bank, or no cell. -/
import Derived.Test.YtpmhajpjjihndaaRows
import Derived.Test.YtpmhajpjjihndaaGround
import Derived.WalkKit
import Derived.LaidEqlPtr
import Derived.Laws.LoneSync
namespace Go.Proofs.Ytpmhajpjjihndaa
open Go.RowKit
set_option maxRecDepth 100000

/-- A bank: its object in block b holds its own address; its n cells lie in block g. -/
structure BankAt (w : World) (b g n : Nat) (L : List Int) : Prop where
  obj : Blk w b 58 #[.pointer (some ⟨b, 0, none⟩), .slice (some ⟨g, 0, none⟩) n n]
  row : Blk w g 71 (ivs L)
  len : L.length = n
  max : n ≤ 524288
section
variable {w w' : World} {b g n : Nat} {L : List Int}
theorem BankAt.ne (h : BankAt w b g n L) : b ≠ g := h.obj.ne h.row (by decide)
theorem BankAt.alloc (h : BankAt w b g n L) (o : Obj) : BankAt (w.alloc o) b g n L := ⟨h.obj.alloc o, h.row.alloc o, h.len, h.max⟩
theorem BankAt.far (h : BankAt w b g n L) {p : Addr} (h1 : b ≠ p.block) (h2 : g ≠ p.block) (u : Value) : BankAt (w.setCell p u) b g n L := ⟨h.obj.far h1 u, h.row.far h2 u, h.len, h.max⟩
theorem BankAt.below {B : Nat} (h : BankAt w b g n L) (hb : Below B w w') (h1 : b < B) (h2 : g < B) : BankAt w' b g n L := ⟨h.obj.below hb h1, h.row.below hb h2, h.len, h.max⟩
theorem BankAt.drewN (h : BankAt w b g n L) (k : Nat) : BankAt (w.drewN k) b g n L := ⟨h.obj, h.row, h.len, h.max⟩
theorem BankAt.drew (h : BankAt w b g n L) : BankAt w.drew b g n L := ⟨h.obj, h.row, h.len, h.max⟩
theorem BankAt.put (h : BankAt w b g n L) (i : Nat) (x : Int) : BankAt (w.setCell ⟨g, i, none⟩ (.int .i64 x)) b g n (L.set i x) :=
  ⟨h.obj.far h.ne _, h.row.iset i x, by rw [List.length_set]; exact h.len, h.max⟩
end

/-- The number in a cell; 0 of what is none. -/
def cellV (L : List Int) (i : Int) : Int := if 0 ≤ i then L[i.toNat]?.getD 0 else 0

section
variable (w : World)
theorem run_neq_ptr_same {P : Program} {tp te : TypeId} {j : TypeInfo} (a : Addr) (hp : P.underlying tp = some (.pointer te)) (hte : P.info? te = some j) :
    (binOp .neq tp (.pointer (some a)) (.pointer (some a))).run P w = .ok (.bool false) w := by
  have h : ∀ d : Nat, (Op.equalIn (d + 1) tp (.pointer (some a)) (.pointer (some a))).run P w = .ok true w := fun d => by
    simp [Op.equalIn, run_underlying hp, sizeOf, typeInfo, hte, run_sameAddr_same]
  simp only [binOp]
  simp [Op.equal, Op.maxDepth, h 9999]
theorem run_neq_nil_ptr {P : Program} {tp te : TypeId} (a : Addr) (hp : P.underlying tp = some (.pointer te)) :
    (binOp .neq tp (.pointer none) (.pointer (some a))).run P w = .ok (.bool true) w := by
  have h : ∀ d : Nat, (Op.equalIn (d + 1) tp (.pointer none) (.pointer (some a))).run P w = .ok false w := fun d => by
    simp [Op.equalIn, run_underlying hp]
  simp only [binOp]
  simp [Op.equal, Op.maxDepth, h 9999]
end
theorem bank_info : (Try.prog.info? 58).isSome = true := by kernel_rfl
theorem self_ne (a : Addr) (W : World) : (binOp .neq 23 (.pointer (some a)) (.pointer (some a))).run Try.prog W = .ok (.bool false) W := by
  obtain ⟨j, hj⟩ := Option.isSome_iff_exists.1 bank_info
  exact run_neq_ptr_same W a Try.underlying23 hj
theorem none_ne (a : Addr) (W : World) : (binOp .neq 23 (.pointer none) (.pointer (some a))).run Try.prog W = .ok (.bool true) W :=
  run_neq_nil_ptr W a Try.underlying23

theorem own_bank {w : World} {b g n : Nat} {L : List Int} (h : BankAt w b g n L) :
    Calls Try.prog 29 #[.pointer (some ⟨b, 0, none⟩)] w fun e w' => e = .returned (.slice (some ⟨g, 0, none⟩) n n) ∧ w' = w := by
  have hs := self_ne ⟨b, 0, none⟩
  have c0 := h.obj.cell 0
  have c1 := h.obj.cell 1
  simp only [List.getElem?_toArray, List.getElem?_cons_zero, List.getElem?_cons_succ] at c0 c1
  go_enter Try.func29, Try.ntmps29
  go_wp2
  go_ret
  exact ⟨rfl, rfl⟩

/-- What may stand in a bank's place and has no cells: nil, and one that New did not answer. -/
inductive NoBank (w : World) : Value → Prop
  | nil : NoBank w (.pointer none)
  | blank {b : Nat} (h : Blk w b 58 #[.pointer none, .slice none 0 0]) : NoBank w (.pointer (some ⟨b, 0, none⟩))
theorem own_none {w : World} {p : Value} (h : NoBank w p) : Calls Try.prog 29 #[p] w fun e w' => e = .returned (.slice none 0 0) ∧ w' = w := by
  cases h with
  | nil =>
    go_enter Try.func29, Try.ntmps29
    go_wp2
    go_ret
    exact ⟨rfl, rfl⟩
  | @blank b h =>
    have hs := none_ne ⟨b, 0, none⟩
    have c0 := h.cell 0
    have c1 := h.cell 1
    simp only [List.getElem?_toArray, List.getElem?_cons_zero, List.getElem?_cons_succ] at c0 c1
    go_enter Try.func29, Try.ntmps29
    go_wp2
    go_ret
    exact ⟨rfl, rfl⟩

theorem at_bank {w : World} {b g n : Nat} {L : List Int} (h : BankAt w b g n L) (i : Int) :
    Calls Try.prog 30 #[.pointer (some ⟨b, 0, none⟩), .int .i64 i] w fun e w' =>
      e = .returned (.pointer (if 0 ≤ i ∧ i < (n : Int) then some ⟨g, i.toNat, none⟩ else none)) ∧ w' = w := by
  by_cases h0 : i < 0
  · rw [if_neg (by omega)]
    go_enter Try.func30, Try.ntmps30
    go_wp2_with (go_at_call 29; refine (own_bank h).mono ?_; rintro e w' ⟨rfl, rfl⟩)
    go_ret
    exact ⟨rfl, rfl⟩
  · obtain ⟨k, rfl⟩ := Int.eq_ofNat_of_zero_le (Int.not_lt.1 h0)
    by_cases h1 : (n : Int) ≤ (k : Int)
    · rw [if_neg (by omega)]
      go_enter Try.func30, Try.ntmps30
      go_wp2_with (go_at_call 29; refine (own_bank h).mono ?_; rintro e w' ⟨rfl, rfl⟩)
      go_ret
      exact ⟨rfl, rfl⟩
    · rw [if_pos (by omega)]
      have hb : 0 ≤ (k : Int) ∧ (k : Int) < (n : Int) := ⟨by omega, by omega⟩
      go_enter Try.func30, Try.ntmps30
      go_wp2_with (go_at_call 29; refine (own_bank h).mono ?_; rintro e w' ⟨rfl, rfl⟩)
      go_ret
      exact ⟨rfl, rfl⟩
theorem at_none {w : World} {p : Value} (h : NoBank w p) (i : Int) : Calls Try.prog 30 #[p, .int .i64 i] w fun e w' => e = .returned (.pointer none) ∧ w' = w := by
  by_cases h0 : i < 0
  · go_enter Try.func30, Try.ntmps30
    go_wp2_with (go_at_call 29; refine (own_none h).mono ?_; rintro e w' ⟨rfl, rfl⟩)
    go_ret
    exact ⟨rfl, rfl⟩
  · have h1 : (0 : Int) ≤ i := by omega
    go_enter Try.func30, Try.ntmps30
    go_wp2_with (go_at_call 29; refine (own_none h).mono ?_; rintro e w' ⟨rfl, rfl⟩)
    go_ret
    exact ⟨rfl, rfl⟩

/-! The atomic accesses. -/
theorem aload_is {w : World} {a : Addr} {x : Int} (h : w.cell? a = some (.int .i64 x)) (hs : a.spot = none) :
    Calls Try.prog 31 #[.pointer (some a)] w fun e w' => e = .returned (.int .i64 x) ∧ w' = w := by
  have hl := run_call_load (P := Try.prog) Try.func40 (by kernel_rfl) (by kernel_rfl) (by kernel_rfl) .i64 (by kernel_rfl) h
  obtain ⟨b, off, sp⟩ := a
  subst hs
  go_enter Try.func31, Try.ntmps31
  go_wp2
  go_ret
  exact ⟨rfl, rfl⟩
theorem astore_is {w : World} {a : Addr} {u : Value} (x : Int) (h : w.cell? a = some u) (hz : w.frozen? a = false) (hs : a.spot = none) :
    Calls Try.prog 32 #[.pointer (some a), .int .i64 x] w fun e w' => e = .returned (.tuple #[]) ∧ w' = w.setCell a (.int .i64 x) := by
  have hl := run_call_store (P := Try.prog) Try.func41 (by kernel_rfl) (by kernel_rfl) (by kernel_rfl) (by kernel_rfl) (k := .i64) (y := x) h hz
  obtain ⟨b, off, sp⟩ := a
  subst hs
  go_enter Try.func32, Try.ntmps32
  go_wp2
  first | go_end0 | refine bodyPost_ret (v := .tuple #[]) (results_none rfl _ _ _) rfl ?_
  exact ⟨rfl, rfl⟩
theorem aadd_is {w : World} {a : Addr} {x : Int} (d : Int) (h : w.cell? a = some (.int .i64 x)) (hz : w.frozen? a = false) (hs : a.spot = none) :
    Calls Try.prog 33 #[.pointer (some a), .int .i64 d] w fun e w' => e = .returned (.int .i64 (wrap64 (x + d))) ∧ w' = w.setCell a (.int .i64 (wrap64 (x + d))) := by
  have hl := run_call_add (P := Try.prog) Try.func42 (by kernel_rfl) (by kernel_rfl) (by kernel_rfl) .i64 (by kernel_rfl) (y := d) (s := wrap64 (x + d)) h hz (by simp [Op.intArith, IntWalk.i64_left])
  obtain ⟨b, off, sp⟩ := a
  subst hs
  go_enter Try.func33, Try.ntmps33
  go_wp2
  go_ret
  exact ⟨rfl, rfl⟩
theorem acas_is {w : World} {a : Addr} {x : Int} (old v : Int) (h : w.cell? a = some (.int .i64 x)) (hz : w.frozen? a = false) (hs : a.spot = none) :
    Calls Try.prog 34 #[.pointer (some a), .int .i64 old, .int .i64 v] w fun e w' => e = .returned (.bool (decide (x = old))) ∧ w' = if x = old then w.setCell a (.int .i64 v) else w := by
  obtain ⟨b, off, sp⟩ := a
  subst hs
  by_cases hx : x = old
  · subst hx
    have hl := run_call_cas_hit (P := Try.prog) Try.func43 (by kernel_rfl) (by kernel_rfl) (by kernel_rfl) .i64 (by kernel_rfl) (y := v) h hz
    go_enter Try.func34, Try.ntmps34
    go_wp2
    go_ret
    simp
  · have hl := run_call_cas_miss (P := Try.prog) Try.func43 (by kernel_rfl) (by kernel_rfl) (by kernel_rfl) .i64 (by kernel_rfl) (o := old) (y := v) h hz hx
    go_enter Try.func34, Try.ntmps34
    go_wp2
    go_ret
    simp

/-! A bank's functions. -/
theorem cell_bank {w : World} {b g n : Nat} {L : List Int} (h : BankAt w b g n L) {i : Nat} (hi : i < n) : w.cell? ⟨g, i, none⟩ = some (.int .i64 (cellV L i)) := by
  have hl : i < L.length := by rw [h.len]; exact hi
  refine h.row.iat ?_
  simp [cellV, List.getElem?_eq_getElem hl]
theorem cellV_out {L : List Int} {n : Nat} {i : Int} (hl : L.length = n) (h : ¬ (0 ≤ i ∧ i < (n : Int))) : cellV L i = 0 := by
  unfold cellV
  split
  · rw [List.getElem?_eq_none (by omega)]; rfl
  · rfl

/-- The numbers behind a store. -/
def putV (L : List Int) (i : Int) (x : Int) : List Int := if 0 ≤ i then L.set i.toNat x else L
theorem putV_len (L : List Int) (i x : Int) : (putV L i x).length = L.length := by unfold putV; split <;> simp
theorem putV_out {L : List Int} {n : Nat} {i : Int} (hl : L.length = n) (h : ¬ (0 ≤ i ∧ i < (n : Int))) (x : Int) : putV L i x = L := by
  unfold putV
  split
  · exact List.set_eq_of_length_le (by omega)
  · rfl

theorem load_bank {w : World} {b g n : Nat} {L : List Int} (h : BankAt w b g n L) (i : Int) :
    Calls Try.prog 13 #[.pointer (some ⟨b, 0, none⟩), .int .i64 i] w fun e w' => e = .returned (.int .i64 (cellV L i)) ∧ w' = w := by
  by_cases hi : 0 ≤ i ∧ i < (n : Int)
  · obtain ⟨k, rfl⟩ := Int.eq_ofNat_of_zero_le hi.1
    have hc := cell_bank h (i := k) (by omega)
    go_enter Try.func13, Try.ntmps13
    go_wp2_with (first | (go_at_call 30; refine (at_bank h _).mono ?_; rintro e w' ⟨rfl, rfl⟩; rw [if_pos hi, Int.toNat_natCast]) | (go_at_call 31; refine (aload_is hc rfl).mono ?_; rintro e w' ⟨rfl, rfl⟩))
    go_ret
    exact ⟨rfl, rfl⟩
  · rw [cellV_out h.len hi]
    go_enter Try.func13, Try.ntmps13
    go_wp2_with (go_at_call 30; refine (at_bank h _).mono ?_; rintro e w' ⟨rfl, rfl⟩; rw [if_neg hi])
    go_ret
    exact ⟨rfl, rfl⟩
theorem load_none {w : World} {p : Value} (h : NoBank w p) (i : Int) : Calls Try.prog 13 #[p, .int .i64 i] w fun e w' => e = .returned (.int .i64 0) ∧ w' = w := by
  go_enter Try.func13, Try.ntmps13
  go_wp2_with (go_at_call 30; refine (at_none h _).mono ?_; rintro e w' ⟨rfl, rfl⟩)
  go_ret
  exact ⟨rfl, rfl⟩

theorem store_bank {w : World} {b g n : Nat} {L : List Int} (h : BankAt w b g n L) (i x : Int) :
    Calls Try.prog 14 #[.pointer (some ⟨b, 0, none⟩), .int .i64 i, .int .i64 x] w fun e w' => e = .returned (.tuple #[]) ∧
      w' = if 0 ≤ i ∧ i < (n : Int) then w.setCell ⟨g, i.toNat, none⟩ (.int .i64 x) else w := by
  by_cases hi : 0 ≤ i ∧ i < (n : Int)
  · rw [if_pos hi]
    obtain ⟨k, rfl⟩ := Int.eq_ofNat_of_zero_le hi.1
    have hc := cell_bank h (i := k) (by omega)
    have hf := h.row.frozen k
    go_enter Try.func14, Try.ntmps14
    go_wp2_with (first | (go_at_call 30; refine (at_bank h _).mono ?_; rintro e w' ⟨rfl, rfl⟩; rw [if_pos hi, Int.toNat_natCast]) | (go_at_call 32; refine (astore_is _ hc hf rfl).mono ?_; rintro e w' ⟨rfl, rfl⟩))
    first | go_end0 | refine bodyPost_ret (v := .tuple #[]) (results_none rfl _ _ _) rfl ?_
    exact ⟨rfl, rfl⟩
  · rw [if_neg hi]
    go_enter Try.func14, Try.ntmps14
    go_wp2_with (go_at_call 30; refine (at_bank h _).mono ?_; rintro e w' ⟨rfl, rfl⟩; rw [if_neg hi])
    first | go_end0 | refine bodyPost_ret (v := .tuple #[]) (results_none rfl _ _ _) rfl ?_
    exact ⟨rfl, rfl⟩
theorem store_none {w : World} {p : Value} (h : NoBank w p) (i x : Int) : Calls Try.prog 14 #[p, .int .i64 i, .int .i64 x] w fun e w' => e = .returned (.tuple #[]) ∧ w' = w := by
  go_enter Try.func14, Try.ntmps14
  go_wp2_with (go_at_call 30; refine (at_none h _).mono ?_; rintro e w' ⟨rfl, rfl⟩)
  first | go_end0 | refine bodyPost_ret (v := .tuple #[]) (results_none rfl _ _ _) rfl ?_
  exact ⟨rfl, rfl⟩

theorem add_bank {w : World} {b g n : Nat} {L : List Int} (h : BankAt w b g n L) (i x : Int) :
    Calls Try.prog 16 #[.pointer (some ⟨b, 0, none⟩), .int .i64 i, .int .i64 x] w fun e w' =>
      (e, w') = if 0 ≤ i ∧ i < (n : Int) then (.returned (.int .i64 (wrap64 (cellV L i + x))), w.setCell ⟨g, i.toNat, none⟩ (.int .i64 (wrap64 (cellV L i + x)))) else (.returned (.int .i64 0), w) := by
  by_cases hi : 0 ≤ i ∧ i < (n : Int)
  · rw [if_pos hi]
    obtain ⟨k, rfl⟩ := Int.eq_ofNat_of_zero_le hi.1
    have hc := cell_bank h (i := k) (by omega)
    have hf := h.row.frozen k
    go_enter Try.func16, Try.ntmps16
    go_wp2_with (first | (go_at_call 30; refine (at_bank h _).mono ?_; rintro e w' ⟨rfl, rfl⟩; rw [if_pos hi, Int.toNat_natCast]) | (go_at_call 33; refine (aadd_is _ hc hf rfl).mono ?_; rintro e w' ⟨rfl, rfl⟩))
    go_ret
    rfl
  · rw [if_neg hi]
    go_enter Try.func16, Try.ntmps16
    go_wp2_with (go_at_call 30; refine (at_bank h _).mono ?_; rintro e w' ⟨rfl, rfl⟩; rw [if_neg hi])
    go_ret
    rfl
theorem add_none {w : World} {p : Value} (h : NoBank w p) (i x : Int) : Calls Try.prog 16 #[p, .int .i64 i, .int .i64 x] w fun e w' => e = .returned (.int .i64 0) ∧ w' = w := by
  go_enter Try.func16, Try.ntmps16
  go_wp2_with (go_at_call 30; refine (at_none h _).mono ?_; rintro e w' ⟨rfl, rfl⟩)
  go_ret
  exact ⟨rfl, rfl⟩

theorem cas_bank {w : World} {b g n : Nat} {L : List Int} (h : BankAt w b g n L) (i old x : Int) :
    Calls Try.prog 18 #[.pointer (some ⟨b, 0, none⟩), .int .i64 i, .int .i64 old, .int .i64 x] w fun e w' =>
      e = .returned (.bool (decide ((0 ≤ i ∧ i < (n : Int)) ∧ cellV L i = old))) ∧ w' = if (0 ≤ i ∧ i < (n : Int)) ∧ cellV L i = old then w.setCell ⟨g, i.toNat, none⟩ (.int .i64 x) else w := by
  by_cases hi : 0 ≤ i ∧ i < (n : Int)
  · obtain ⟨k, rfl⟩ := Int.eq_ofNat_of_zero_le hi.1
    have hc := cell_bank h (i := k) (by omega)
    have hf := h.row.frozen k
    by_cases hx : cellV L k = old
    · rw [if_pos ⟨hi, hx⟩, decide_eq_true (p := _ ∧ _) ⟨hi, hx⟩]
      go_enter Try.func18, Try.ntmps18
      go_wp2_with (first | (go_at_call 30; refine (at_bank h _).mono ?_; rintro e w' ⟨rfl, rfl⟩; rw [if_pos hi, Int.toNat_natCast]) | (go_at_call 34; refine (acas_is old _ hc hf rfl).mono ?_; rintro e w' ⟨rfl, rfl⟩; rw [if_pos hx, decide_eq_true hx]))
      go_ret
      exact ⟨rfl, rfl⟩
    · rw [if_neg (fun c => hx c.2), decide_eq_false (p := _ ∧ _) (fun c => hx c.2)]
      go_enter Try.func18, Try.ntmps18
      go_wp2_with (first | (go_at_call 30; refine (at_bank h _).mono ?_; rintro e w' ⟨rfl, rfl⟩; rw [if_pos hi, Int.toNat_natCast]) | (go_at_call 34; refine (acas_is old _ hc hf rfl).mono ?_; rintro e w' ⟨rfl, rfl⟩; rw [if_neg hx, decide_eq_false hx]))
      go_ret
      exact ⟨rfl, rfl⟩
  · rw [if_neg (fun c => hi c.1), decide_eq_false (p := _ ∧ _) (fun c => hi c.1)]
    go_enter Try.func18, Try.ntmps18
    go_wp2_with (go_at_call 30; refine (at_bank h _).mono ?_; rintro e w' ⟨rfl, rfl⟩; rw [if_neg hi])
    go_ret
    exact ⟨rfl, rfl⟩
theorem cas_none {w : World} {p : Value} (h : NoBank w p) (i old x : Int) : Calls Try.prog 18 #[p, .int .i64 i, .int .i64 old, .int .i64 x] w fun e w' => e = .returned (.bool false) ∧ w' = w := by
  go_enter Try.func18, Try.ntmps18
  go_wp2_with (go_at_call 30; refine (at_none h _).mono ?_; rintro e w' ⟨rfl, rfl⟩)
  go_ret
  exact ⟨rfl, rfl⟩

theorem len_bank {w : World} {b g n : Nat} {L : List Int} (h : BankAt w b g n L) :
    Calls Try.prog 11 #[.pointer (some ⟨b, 0, none⟩)] w fun e w' => e = .returned (.int .i64 (n : Int)) ∧ w' = w := by
  go_enter Try.func11, Try.ntmps11
  go_wp2_with (go_at_call 29; refine (own_bank h).mono ?_; rintro e w' ⟨rfl, rfl⟩)
  go_ret
  exact ⟨rfl, rfl⟩
theorem len_none {w : World} {p : Value} (h : NoBank w p) : Calls Try.prog 11 #[p] w fun e w' => e = .returned (.int .i64 0) ∧ w' = w := by
  go_enter Try.func11, Try.ntmps11
  go_wp2_with (go_at_call 29; refine (own_none h).mono ?_; rintro e w' ⟨rfl, rfl⟩)
  go_ret
  exact ⟨rfl, rfl⟩

/-! New; All. -/
theorem long_info : (Try.prog.info? 2).map (fun i => (i.zero, i.size, i.bytes)) = some (some (.int .i64 0), 1, 8) := by kernel_rfl
theorem atom_info : (Try.prog.info? 71).map (fun i => (i.zero.map (·.cells), i.size, i.bytes)) = some (some #[.int .i64 0], 1, 8) := by kernel_rfl
theorem atoms_made (n : Nat) : madeCells #[Value.int .i64 0] (n * 1) = ivs (List.replicate n 0) := by
  apply Array.ext'
  rw [toList_madeCells_one]
  simp [ivs]
theorem new_bank (w : World) {n : Nat} (hn : n ≤ 524288) :
    Calls Try.prog 9 #[.int .i64 (n : Int)] w fun e w' => ∃ b g, e = .returned (.tuple #[.pointer (some ⟨b, 0, none⟩), .int .i64 0]) ∧ BankAt w' b g n (List.replicate n 0) ∧ w.heap.size ≤ b ∧ w.heap.size ≤ g ∧ Below w.heap.size w w' := by
  obtain ⟨i0, z, hi, hz, hzc, hs, hb⟩ : ∃ i z, Try.prog.info? 71 = some i ∧ i.zero = some z ∧ z.cells = #[.int .i64 0] ∧ i.size = 1 ∧ i.bytes = 8 := by
    have h := atom_info
    revert h
    cases Try.prog.info? 71 with
    | none => intro h; cases h
    | some i =>
      intro h
      simp only [Option.map_some, Option.some.injEq, Prod.mk.injEq] at h
      obtain ⟨z, hz, hc⟩ := Option.map_eq_some_iff.1 h.1
      exact ⟨i, z, rfl, hz, hc, h.2.1, h.2.2⟩
  have hml := fun W => run_make_lit (P := Try.prog) 56 71 i0 z Try.underlying56 hi hz n (by rw [hb]; omega) (by omega) W
  simp only [hzc, hs, atoms_made] at hml
  have h0 : ¬ (n : Int) < 0 := by omega
  have h1 : ¬ (524288 : Int) < (n : Int) := by omega
  go_enter Try.func9, Try.ntmps9
  go_wp2
  refine bodyPost_ret (v := .tuple #[.pointer (some ⟨w.heap.size + 1, 0, none⟩), .int .i64 0]) (by simp [results, Try.results9, go_sem]) rfl ?_
  exact ⟨_, rfl, _, ⟨Blk.new (by simp), (Blk.new rfl).alloc _, by simp, hn⟩, by omega, Nat.le_refl _, ((Below.refl _ w).alloc (Nat.le_refl _) _).alloc (by simp) _⟩
theorem new_bad (w : World) {n : Int} (hn : ¬ (0 ≤ n ∧ n ≤ 524288)) :
    Calls Try.prog 9 #[.int .i64 n] w fun e w' => e = .returned (.tuple #[.pointer none, .int .i64 2]) ∧ w' = w := by
  by_cases h0 : n < 0
  · go_enter Try.func9, Try.ntmps9
    go_wp2
    refine bodyPost_ret (v := .tuple #[.pointer none, .int .i64 2]) (by simp [results, Try.results9, go_sem]) rfl ?_
    exact ⟨rfl, rfl⟩
  · have h1 : (524288 : Int) < n := by omega
    go_enter Try.func9, Try.ntmps9
    go_wp2
    refine bodyPost_ret (v := .tuple #[.pointer none, .int .i64 2]) (by simp [results, Try.results9, go_sem]) rfl ?_
    exact ⟨rfl, rfl⟩

theorem all_bank {w : World} {b g n : Nat} {L : List Int} (h : BankAt w b g n L) :
    Calls Try.prog 19 #[.pointer (some ⟨b, 0, none⟩)] w fun e w' => ∃ a, e = .returned (.slice (some ⟨a, 0, none⟩) n n) ∧ Blk w' a 2 (ivs L) ∧ a = w.heap.size ∧ Below w.heap.size w w' := by
  obtain ⟨i1, hi, hz0, hz1, hz2⟩ := info_parts long_info
  have hm := h.max
  have hml := fun W => run_make_lit (P := Try.prog) 29 2 i1 _ Try.underlying29 hi hz0 n (by rw [hz2]; omega) (by omega) W
  simp only [hz1, ivs_made] at hml
  go_enter Try.func19, Try.ntmps19
  go_wp2_with (go_at_call 29; refine (own_bank h).mono ?_; rintro e w' ⟨rfl, hw'⟩; rw [hw']; clear hw' w')
  obtain ⟨w1, hw1⟩ : ∃ w1, w.alloc (.cells (ivs (List.replicate n 0)) 2) = w1 := ⟨_, rfl⟩
  have S1 : w1.heap.size = w.heap.size + 1 := by rw [← hw1]; simp
  have A1 : Blk w1 w.heap.size 2 (ivs (List.replicate n 0)) := by rw [← hw1]; exact Blk.new rfl
  have B1 : Below w.heap.size w w1 := by rw [← hw1]; exact (Below.refl _ w).alloc (Nat.le_refl _) _
  simp only [hw1]
  clear hw1
  have lb := h.obj.lt
  have lg := h.row.lt
  go_loopw [5, 13] (fun _ i wr => ∃ k : Nat, k ≤ n ∧ i = .int .i64 k ∧ Blk wr w.heap.size 2 (ivs (L.take k ++ List.replicate (n - k) 0)) ∧ Below w.heap.size w wr) (fun _ i _ => n - (intOf i).toNat)
  case atStart => exact ⟨0, Nat.zero_le _, rfl, by simpa using A1, B1⟩
  case round =>
    obtain ⟨k, hk, rfl, hA, hB⟩ := hrel
    by_cases hlt : k < n
    · have hb := h.below hB lb lg
      have hc := cell_bank hb hlt
      have hx : L[k]? = some (cellV L k) := by
        have : k < L.length := by rw [h.len]; exact hlt
        simp [cellV, List.getElem?_eq_getElem this]
      have hf := hA.frozen k
      have ho : (ivs (L.take k ++ List.replicate (n - k) 0))[k]? = some (.int .i64 0) := ivs_at (by
        have hl : (L.take k).length = k := by have := h.len; simp; omega
        rw [List.getElem?_append_right (by omega), hl, Nat.sub_self, List.getElem?_replicate, if_pos (by omega)])
      have hoc := (hA.cell k).trans ho
      go_wp2_with (go_at_call 31; refine (aload_is hc rfl).mono ?_; rintro e w' ⟨rfl, hw'⟩; rw [hw']; clear hw' w')
      go_roundw
      case rel =>
        refine ⟨k + 1, hlt, by go_num, ?_, hB.setCell (Nat.le_refl _) _⟩
        have := hA.iset k (cellV L k)
        have e : (L.take k ++ List.replicate (n - k) 0).set k (cellV L k) = L.take (k + 1) ++ List.replicate (n - (k + 1)) 0 := by
          rw [take_at hx, List.set_append_right _ _ (by simp; omega)]
          have hk' : n - k = (n - (k + 1)) + 1 := by omega
          have hl : (L.take k).length = k := by have := h.len; simp; omega
          rw [hl, Nat.sub_self, hk', List.replicate_succ]
          simp
        rw [e] at this
        exact this
      case measure => simp [intOf]; omega
    · go_wp2
      go_ret
      have hkn : k = n := by omega
      subst hkn
      refine ⟨_, rfl, ?_, rfl, hB⟩
      have : L.take k = L := List.take_of_length_le (by have := h.len; omega)
      simpa [this] using hA
theorem all_none {w : World} {p : Value} (h : NoBank w p) : Calls Try.prog 19 #[p] w fun e w' => e = .returned (.slice (some ⟨w.heap.size, 0, none⟩) 0 0) ∧ Below w.heap.size w w' := by
  obtain ⟨i1, hi, hz0, hz1, hz2⟩ := info_parts long_info
  have hml := fun W => run_make_lit (P := Try.prog) 29 2 i1 _ Try.underlying29 hi hz0 0 (by rw [hz2]; omega) (by omega) W
  simp only [hz1, ivs_made, List.replicate_zero, Int.natCast_zero] at hml
  go_enter Try.func19, Try.ntmps19
  go_wp2_with (go_at_call 29; refine (own_none h).mono ?_; rintro e w' ⟨rfl, hw'⟩; rw [hw']; clear hw' w')
  obtain ⟨w1, hw1⟩ : ∃ w1, w.alloc (.cells (ivs []) 2) = w1 := ⟨_, rfl⟩
  have B1 : Below w.heap.size w w1 := by rw [← hw1]; exact (Below.refl _ w).alloc (Nat.le_refl _) _
  simp only [hw1]
  clear hw1
  go_loopw [5, 13] (fun _ i wr => i = .int .i64 0 ∧ wr = w1) (fun _ _ _ => 0)
  case atStart => exact ⟨rfl, rfl⟩
  case round =>
    obtain ⟨rfl, rfl⟩ := hrel
    go_wp2
    go_ret
    exact ⟨rfl, B1⟩

end Go.Proofs.Ytpmhajpjjihndaa
