/-
  No cell of these rows narrows 'for every input' (looked for: loops, veiled, ifaces, maps, wideKeys, modest, calm, conditions, laid).
  DERIVED. THE GIVEN ROWS OF THIS SEAT. 4 by the template 'for every input the law returns true; each argument reads behind the call as it read before'; 0 by the template 'total and deterministic' (their statements: YtbmndghgmndgmaaTotals.lean).
  GIVEN WITH THE SEED: the statements are not yours to turn. If you find one false, say at which input.
  Laid BY PROGRAM, IN A SANDBOX (cutbox-rows.mjs): the forced cells as the released guide's own fill.sh prints them over the translation 8a0cf2df34078524… (all of the seat's roots in one cut). By AI agents, Wed Nov 11 2026. No macro, syntax, notation, axiom, sorry.
-/
import Derived.Test.YtbmndghgmndgmaaChecked
import GoSem.Claim
import GoSem.ClaimJoined
import GoSem.ClaimMapViews
import Derived.JoinedTies
import Derived.KernelRfl
namespace Go.Proofs.Ytbmndghgmndgmaa
/- THE CELL 'sum', in the pinned program and in every row, IS THE sha256 OF THE DUMP (.gsa) THAT YtbmndghgmndgmaaProg.lean LOADS. Nothing in Lean hashes anything: it is a label: what it is worth is what the hold of that sum in a sandbox is worth. -/
noncomputable def Try.pinned : Pinned := { name := "ytbmndghgmndgmaa", sum := "8a0cf2df34078524c68fe38de74855833142ef23d61d450ffb127886656427cb", checked := Try.checked }
namespace Rows
def none {H : Type} : Left H := { results := [], args := [] }

/-- 'acequialaw02.CsrPairs': WHATEVER THE INPUT: true; the input reads as it did. -/
def csrPairsSpec : ChangeSpec := { name := "csrPairs", fn := fun _ => fun
  | [d] => { results := [.lit (.bool true)], args := [d] }
  | _ => none }
def csrPairsRow : OpenClaim := { program := "ytbmndghgmndgmaa", sum := "8a0cf2df34078524c68fe38de74855833142ef23d61d450ffb127886656427cb", func := "acequia/acequialaw02.CsrPairs", spec := "csrPairs", unfollowed := true, recurses := true, apart := false }
def CsrPairsSaid : Prop := csrPairsRow.holds Try.pinned (OpenSpec.ofChange csrPairsSpec)

/-- ITS FALSE NEIGHBOUR: 'it returns false'. Refute it at one input. -/
def csrPairsWrong : ChangeSpec := { name := "csrPairs", fn := fun _ => fun
  | [d] => { results := [.lit (.bool false)], args := [d] }
  | _ => none }
def CsrPairsWrongFalsely : Prop := csrPairsRow.holds Try.pinned (OpenSpec.ofChange csrPairsWrong)

/-- 'acequialaw02.CsrRows': WHATEVER THE INPUT: true; the input reads as it did. -/
def csrRowsSpec : ChangeSpec := { name := "csrRows", fn := fun _ => fun
  | [d] => { results := [.lit (.bool true)], args := [d] }
  | _ => none }
def csrRowsRow : OpenClaim := { program := "ytbmndghgmndgmaa", sum := "8a0cf2df34078524c68fe38de74855833142ef23d61d450ffb127886656427cb", func := "acequia/acequialaw02.CsrRows", spec := "csrRows", unfollowed := true, recurses := true, apart := false }
def CsrRowsSaid : Prop := csrRowsRow.holds Try.pinned (OpenSpec.ofChange csrRowsSpec)

/-- ITS FALSE NEIGHBOUR: 'it returns false'. Refute it at one input. -/
def csrRowsWrong : ChangeSpec := { name := "csrRows", fn := fun _ => fun
  | [d] => { results := [.lit (.bool false)], args := [d] }
  | _ => none }
def CsrRowsWrongFalsely : Prop := csrRowsRow.holds Try.pinned (OpenSpec.ofChange csrRowsWrong)

/-- 'acequialaw02.CsrBack': WHATEVER THE INPUT: true; the input reads as it did. -/
def csrBackSpec : ChangeSpec := { name := "csrBack", fn := fun _ => fun
  | [d1, d2, d3, d4] => { results := [.lit (.bool true)], args := [d1, d2, d3, d4] }
  | _ => none }
def csrBackRow : OpenClaim := { program := "ytbmndghgmndgmaa", sum := "8a0cf2df34078524c68fe38de74855833142ef23d61d450ffb127886656427cb", func := "acequia/acequialaw02.CsrBack", spec := "csrBack", unfollowed := true, recurses := true, apart := false }
def CsrBackSaid : Prop := csrBackRow.holds Try.pinned (OpenSpec.ofChange csrBackSpec)

/-- ITS FALSE NEIGHBOUR: 'it returns false'. Refute it at one input. -/
def csrBackWrong : ChangeSpec := { name := "csrBack", fn := fun _ => fun
  | [d1, d2, d3, d4] => { results := [.lit (.bool false)], args := [d1, d2, d3, d4] }
  | _ => none }
def CsrBackWrongFalsely : Prop := csrBackRow.holds Try.pinned (OpenSpec.ofChange csrBackWrong)

/-- 'acequialaw02.CsrTurns': WHATEVER THE INPUT: true; the input reads as it did. -/
def csrTurnsSpec : ChangeSpec := { name := "csrTurns", fn := fun _ => fun
  | [d1, d2] => { results := [.lit (.bool true)], args := [d1, d2] }
  | _ => none }
def csrTurnsRow : OpenClaim := { program := "ytbmndghgmndgmaa", sum := "8a0cf2df34078524c68fe38de74855833142ef23d61d450ffb127886656427cb", func := "acequia/acequialaw02.CsrTurns", spec := "csrTurns", unfollowed := true, recurses := true, apart := false }
def CsrTurnsSaid : Prop := csrTurnsRow.holds Try.pinned (OpenSpec.ofChange csrTurnsSpec)

/-- ITS FALSE NEIGHBOUR: 'it returns false'. Refute it at one input. -/
def csrTurnsWrong : ChangeSpec := { name := "csrTurns", fn := fun _ => fun
  | [d1, d2] => { results := [.lit (.bool false)], args := [d1, d2] }
  | _ => none }
def CsrTurnsWrongFalsely : Prop := csrTurnsRow.holds Try.pinned (OpenSpec.ofChange csrTurnsWrong)

/- THE SECOND FORM. 'bulk': how many values and letters a reading holds, each counted each time it is reached (what is shared counts as often as it is met; a slice's spare places count too). A statement '..UptoSaid' is the law's where the arguments, and the package variables that the reading takes, are together of bulk at most 1048576: NARROWER than '..Said'. Prove '..Said' where nothing that the law and all that it calls make is longer than what came in: it says more and counts as full. Else prove '..UptoSaid'. A law counts once. -/
mutual
def uptoBulk {H : Type} : DataW H → Nat
  | .lit (.string bytes) => bytes.length + 1
  | .lit _ => 1
  | .nil => 1
  | .ptr d => uptoBulk d + 1
  | .slice elems spare => uptoBulkAll elems + uptoBulkAll spare + 1
  | .agg parts => uptoBulkAll parts + 1
  | .iface _ d => uptoBulk d + 1
  | .map entries => uptoBulkEntries entries + 1
  | .held _ => 1
def uptoBulkAll {H : Type} : List (DataW H) → Nat
  | [] => 0
  | d :: r => uptoBulk d + uptoBulkAll r
def uptoBulkEntries {H : Type} : List (Lit × DataW H) → Nat
  | [] => 0
  | x :: r => uptoBulkEntry x + uptoBulkEntries r
def uptoBulkEntry {H : Type} : Lit × DataW H → Nat
  | (.string bytes, d) => bytes.length + uptoBulk d + 1
  | (_, d) => uptoBulk d + 1
 end
def uptoSmall : (H : Type) → List (DataW H) → Bool := fun _ ds => decide (uptoBulkAll ds ≤ 1048576)
def OpenSpec.upto (s : _root_.Go.ChangeSpec) : _root_.Go.OpenSpec := { _root_.Go.OpenSpec.ofChange s with cond := some uptoSmall }

/-- 'acequialaw02.CsrPairs', WHERE WHAT IT READS IS OF BULK AT MOST 1048576: true; the input reads as it did. -/
def csrPairsUptoRow : OpenClaim := { program := "ytbmndghgmndgmaa", sum := "8a0cf2df34078524c68fe38de74855833142ef23d61d450ffb127886656427cb", func := "acequia/acequialaw02.CsrPairs", spec := "csrPairs", unfollowed := true, recurses := true, apart := false, narrowed := true }
def CsrPairsUptoSaid : Prop := csrPairsUptoRow.holds Try.pinned (OpenSpec.upto csrPairsSpec)

/-- 'acequialaw02.CsrRows', WHERE WHAT IT READS IS OF BULK AT MOST 1048576: true; the input reads as it did. -/
def csrRowsUptoRow : OpenClaim := { program := "ytbmndghgmndgmaa", sum := "8a0cf2df34078524c68fe38de74855833142ef23d61d450ffb127886656427cb", func := "acequia/acequialaw02.CsrRows", spec := "csrRows", unfollowed := true, recurses := true, apart := false, narrowed := true }
def CsrRowsUptoSaid : Prop := csrRowsUptoRow.holds Try.pinned (OpenSpec.upto csrRowsSpec)

/-- 'acequialaw02.CsrBack', WHERE WHAT IT READS IS OF BULK AT MOST 1048576: true; the input reads as it did. -/
def csrBackUptoRow : OpenClaim := { program := "ytbmndghgmndgmaa", sum := "8a0cf2df34078524c68fe38de74855833142ef23d61d450ffb127886656427cb", func := "acequia/acequialaw02.CsrBack", spec := "csrBack", unfollowed := true, recurses := true, apart := false, narrowed := true }
def CsrBackUptoSaid : Prop := csrBackUptoRow.holds Try.pinned (OpenSpec.upto csrBackSpec)

/-- 'acequialaw02.CsrTurns', WHERE WHAT IT READS IS OF BULK AT MOST 1048576: true; the input reads as it did. -/
def csrTurnsUptoRow : OpenClaim := { program := "ytbmndghgmndgmaa", sum := "8a0cf2df34078524c68fe38de74855833142ef23d61d450ffb127886656427cb", func := "acequia/acequialaw02.CsrTurns", spec := "csrTurns", unfollowed := true, recurses := true, apart := false, narrowed := true }
def CsrTurnsUptoSaid : Prop := csrTurnsUptoRow.holds Try.pinned (OpenSpec.upto csrTurnsSpec)

end Rows
end Go.Proofs.Ytbmndghgmndgmaa
