/- Layer 5: nearer, Way. -/
import Derived.Test.YtanifbofjecpmaaLab
namespace Go.Proofs.Ytanifbofjecpmaa
open Go.RowKit
set_option maxRecDepth 100000

/-- The first open residual arc of v that leads nearer. -/
structure Near (fst hd : Nat → Nat) (X : List Int) (d : Nat → Nat) (v a : Nat) : Prop where
  lo : fst v ≤ a
  hi : a < fst (v + 1)
  op : opn X a = true
  dd : d (hd a) + 1 = d v
  least : ∀ a', fst v ≤ a' → a' < a → opn X a' = true → d (hd a') + 1 ≠ d v
/-- Such residual arcs one behind the other. -/
def WayOf (fst hd : Nat → Nat) (X : List Int) (d : Nat → Nat) : Nat → List Nat → Nat → Prop
  | v, [], u => v = u
  | v, a :: r, u => Near fst hd X d v a ∧ WayOf fst hd X d (hd a) r u
section
variable {fst hd rv : Nat → Nat} {X : List Int} {d : Nat → Nat} {v u a b N M t : Nat} {W W' : List Nat}
theorem Near.same (h : Near fst hd X d v a) (h' : Near fst hd X d v b) : a = b := by
  rcases Nat.lt_trichotomy a b with hl | hl | hl
  · exact absurd h.dd (h'.least a h.lo hl h.op)
  · exact hl
  · exact absurd h'.dd (h.least b h'.lo hl h'.op)
theorem WayOf.snoc : ∀ {W : List Nat} {v : Nat} (_ : WayOf fst hd X d v W u) (_ : Near fst hd X d u a), WayOf fst hd X d v (W ++ [a]) (hd a)
  | [], v, h, hn => by
    have e : v = u := h
    subst e
    exact ⟨hn, rfl⟩
  | _ :: _, _, h, hn => ⟨h.1, WayOf.snoc h.2 hn⟩
theorem WayOf.len : ∀ {W : List Nat} {v : Nat} (_ : WayOf fst hd X d v W u), d v = d u + W.length
  | [], v, h => by
    have e : v = u := h
    subst e; simp
  | b :: r, v, h => by
    have h1 := WayOf.len h.2
    have h2 := h.1.dd
    simp only [List.length_cons]
    omega
theorem WayOf.same : ∀ {W W' : List Nat} {v u u' : Nat} (_ : WayOf fst hd X d v W u) (_ : WayOf fst hd X d v W' u') (_ : W.length = W'.length), W = W'
  | [], [], _, _, _, _, _, _ => rfl
  | a :: r, b :: r', _, _, _, h, h', hl => by
    have e := h.1.same h'.1
    subst e
    rw [WayOf.same h.2 h'.2 (by simpa using hl)]
/-- From where there is a way one leads nearer. -/
theorem near_ex (hG : Grid N M fst hd rv) (hD : IsDist (Lk M hd rv fun a => opn X (rv a)) N t d) (hv : v < N) (h1 : d v < N) (h2 : v ≠ t) : ∃ a, fst v ≤ a ∧ a < fst (v + 1) ∧ opn X a = true ∧ d (hd a) + 1 = d v := by
  obtain ⟨u, hu, hR, he⟩ := hD.near v hv h1 h2
  have hk : Lk M hd rv (opn X) v u := (lk_flip hG (q := fun a => opn X (rv a)) (fun _ _ => rfl)).1 hR
  obtain ⟨_, _, a, g1, g2, g3, g4⟩ := lk_row hG hk
  exact ⟨a, g1, g2, g4, by rw [g3]; omega⟩
end


def lenV : Value → Nat
  | .slice _ n _ => n
  | _ => 0

/-- A shortest way is answered, if there is one. -/
def RetWay (N t s : Nat) (fst hd rv : Nat → Nat) (M : Nat) (X : List Int) (w : World) (e : Ending) (w' : World) : Prop :=
  ∃ (A : Option Addr) (n c : Nat) (W : List Nat) (d : Nat → Nat) (b : Bool), e = .returned (.tuple #[.slice A n c, .bool b]) ∧ IsDist (Lk M hd rv fun a => opn X (rv a)) N t d ∧ b = decide (d s < N) ∧ Ints w' w'.heap.size A n (W.map fun a : Nat => (a : Int)) ∧
    (d s = N → W = []) ∧ (d s < N → WayOf fst hd X d s W t) ∧ Below w.heap.size w w'


end Go.Proofs.Ytanifbofjecpmaa
