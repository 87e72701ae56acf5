/- A function's statement by its number: whether the order of the text serves every order, asked once. -/
import Derived.Test.YtnhfdmfciddmaaaGround
namespace Go.Proofs.Ytnhfdmfciddmaaa

/-- A statement of a function, by its number. -/
def findR (n : Nat) : Code → Option (Array Oper)
  | .region i ops _ => if i = n then some ops else none
  | .seq a b => match findR n a with
    | some o => some o
    | none => findR n b
  | .cond _ a b => match findR n a with
    | some o => some o
    | none => findR n b
  | .loop a => findR n a
  | .block _ a => findR n a
  | _ => none
def lexAt (f : Func) (n : Nat) : Bool := match f.body.bind (findR n) with
  | some ops => Region.lexB .any ops
  | none => false
theorem lex_of {f : Func} {n : Nat} (hl : lexAt f n = true) {ops : Array Oper} (h : f.body.bind (findR n) = some ops) : Region.lexB .any ops = true := by
  unfold lexAt at hl
  rw [h] at hl
  exact hl

end Go.Proofs.Ytnhfdmfciddmaaa
