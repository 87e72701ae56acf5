/-
  No cell of these rows narrows 'for every input' (looked for: loops, veiled, ifaces, maps, wideKeys, modest, calm, conditions, laid).
  DERIVED. THE GIVEN ROWS OF THIS SEAT. 5 by the template 'for every input the law returns true; each argument reads behind the call as it read before'; 0 by the template 'total and deterministic' (their statements: YtnhfdmfciddmaaaTotals.lean).
  GIVEN WITH THE SEED: the statements are not yours to turn. If you find one false, say at which input.
  Laid BY PROGRAM, IN A SANDBOX (cutbox-rows.mjs): the forced cells as the released guide's own fill.sh prints them over the translation 5b793afad59fa922… (all of the seat's roots in one cut). By AI agents, Wed Nov 11 2026. No macro, syntax, notation, axiom, sorry.
-/
import Derived.Test.YtnhfdmfciddmaaaChecked
import GoSem.Claim
import GoSem.ClaimJoined
import GoSem.ClaimMapViews
import Derived.JoinedTies
import Derived.KernelRfl
namespace Go.Proofs.Ytnhfdmfciddmaaa
/- THE CELL 'sum', in the pinned program and in every row, IS THE sha256 OF THE DUMP (.gsa) THAT YtnhfdmfciddmaaaProg.lean LOADS. Nothing in Lean hashes anything: it is a label: what it is worth is what the hold of that sum in a sandbox is worth. -/
noncomputable def Try.pinned : Pinned := { name := "ytnhfdmfciddmaaa", sum := "5b793afad59fa922643ec388af499eb08dcc6cf2003ef293c84ccdd1fbaf111e", checked := Try.checked }
namespace Rows
def none {H : Type} : Left H := { results := [], args := [] }

/-- 'acequialaw06.LabelTells': WHATEVER THE INPUT: true; the input reads as it did. -/
def labelTellsSpec : ChangeSpec := { name := "labelTells", fn := fun _ => fun
  | [d1, d2, d3, d4, d5] => { results := [.lit (.bool true)], args := [d1, d2, d3, d4, d5] }
  | _ => none }
def labelTellsRow : OpenClaim := { program := "ytnhfdmfciddmaaa", sum := "5b793afad59fa922643ec388af499eb08dcc6cf2003ef293c84ccdd1fbaf111e", func := "acequia/acequialaw06.LabelTells", spec := "labelTells", unfollowed := true, recurses := true, apart := false }
def LabelTellsSaid : Prop := labelTellsRow.holds Try.pinned (OpenSpec.ofChange labelTellsSpec)

/-- ITS FALSE NEIGHBOUR: 'it returns false'. Refute it at one input. -/
def labelTellsWrong : ChangeSpec := { name := "labelTells", fn := fun _ => fun
  | [d1, d2, d3, d4, d5] => { results := [.lit (.bool false)], args := [d1, d2, d3, d4, d5] }
  | _ => none }
def LabelTellsWrongFalsely : Prop := labelTellsRow.holds Try.pinned (OpenSpec.ofChange labelTellsWrong)

/-- 'acequialaw06.LabelDist': WHATEVER THE INPUT: true; the input reads as it did. -/
def labelDistSpec : ChangeSpec := { name := "labelDist", fn := fun _ => fun
  | [d1, d2, d3] => { results := [.lit (.bool true)], args := [d1, d2, d3] }
  | _ => none }
def labelDistRow : OpenClaim := { program := "ytnhfdmfciddmaaa", sum := "5b793afad59fa922643ec388af499eb08dcc6cf2003ef293c84ccdd1fbaf111e", func := "acequia/acequialaw06.LabelDist", spec := "labelDist", unfollowed := true, recurses := true, apart := false }
def LabelDistSaid : Prop := labelDistRow.holds Try.pinned (OpenSpec.ofChange labelDistSpec)

/-- ITS FALSE NEIGHBOUR: 'it returns false'. Refute it at one input. -/
def labelDistWrong : ChangeSpec := { name := "labelDist", fn := fun _ => fun
  | [d1, d2, d3] => { results := [.lit (.bool false)], args := [d1, d2, d3] }
  | _ => none }
def LabelDistWrongFalsely : Prop := labelDistRow.holds Try.pinned (OpenSpec.ofChange labelDistWrong)

/-- 'acequialaw06.LabelRaise': WHATEVER THE INPUT: true; the input reads as it did. -/
def labelRaiseSpec : ChangeSpec := { name := "labelRaise", fn := fun _ => fun
  | [d1, d2, d3, d4] => { results := [.lit (.bool true)], args := [d1, d2, d3, d4] }
  | _ => none }
def labelRaiseRow : OpenClaim := { program := "ytnhfdmfciddmaaa", sum := "5b793afad59fa922643ec388af499eb08dcc6cf2003ef293c84ccdd1fbaf111e", func := "acequia/acequialaw06.LabelRaise", spec := "labelRaise", unfollowed := true, recurses := true, apart := false }
def LabelRaiseSaid : Prop := labelRaiseRow.holds Try.pinned (OpenSpec.ofChange labelRaiseSpec)

/-- ITS FALSE NEIGHBOUR: 'it returns false'. Refute it at one input. -/
def labelRaiseWrong : ChangeSpec := { name := "labelRaise", fn := fun _ => fun
  | [d1, d2, d3, d4] => { results := [.lit (.bool false)], args := [d1, d2, d3, d4] }
  | _ => none }
def LabelRaiseWrongFalsely : Prop := labelRaiseRow.holds Try.pinned (OpenSpec.ofChange labelRaiseWrong)

/-- 'acequialaw06.LabelArcs': WHATEVER THE INPUT: true; the input reads as it did. -/
def labelArcsSpec : ChangeSpec := { name := "labelArcs", fn := fun _ => fun
  | [d1, d2, d3, d4] => { results := [.lit (.bool true)], args := [d1, d2, d3, d4] }
  | _ => none }
def labelArcsRow : OpenClaim := { program := "ytnhfdmfciddmaaa", sum := "5b793afad59fa922643ec388af499eb08dcc6cf2003ef293c84ccdd1fbaf111e", func := "acequia/acequialaw06.LabelArcs", spec := "labelArcs", unfollowed := true, recurses := true, apart := false }
def LabelArcsSaid : Prop := labelArcsRow.holds Try.pinned (OpenSpec.ofChange labelArcsSpec)

/-- ITS FALSE NEIGHBOUR: 'it returns false'. Refute it at one input. -/
def labelArcsWrong : ChangeSpec := { name := "labelArcs", fn := fun _ => fun
  | [d1, d2, d3, d4] => { results := [.lit (.bool false)], args := [d1, d2, d3, d4] }
  | _ => none }
def LabelArcsWrongFalsely : Prop := labelArcsRow.holds Try.pinned (OpenSpec.ofChange labelArcsWrong)

/-- 'acequialaw06.LabelLess': WHATEVER THE INPUT: true; the input reads as it did. -/
def labelLessSpec : ChangeSpec := { name := "labelLess", fn := fun _ => fun
  | [d1, d2, d3, d4] => { results := [.lit (.bool true)], args := [d1, d2, d3, d4] }
  | _ => none }
def labelLessRow : OpenClaim := { program := "ytnhfdmfciddmaaa", sum := "5b793afad59fa922643ec388af499eb08dcc6cf2003ef293c84ccdd1fbaf111e", func := "acequia/acequialaw06.LabelLess", spec := "labelLess", unfollowed := true, recurses := true, apart := false }
def LabelLessSaid : Prop := labelLessRow.holds Try.pinned (OpenSpec.ofChange labelLessSpec)

/-- ITS FALSE NEIGHBOUR: 'it returns false'. Refute it at one input. -/
def labelLessWrong : ChangeSpec := { name := "labelLess", fn := fun _ => fun
  | [d1, d2, d3, d4] => { results := [.lit (.bool false)], args := [d1, d2, d3, d4] }
  | _ => none }
def LabelLessWrongFalsely : Prop := labelLessRow.holds Try.pinned (OpenSpec.ofChange labelLessWrong)

/- THE SECOND FORM. 'bulk': how many values and letters a reading holds, each counted each time it is reached (what is shared counts as often as it is met; a slice's spare places count too). A statement '..UptoSaid' is the law's where the arguments, and the package variables that the reading takes, are together of bulk at most 1048576: NARROWER than '..Said'. Prove '..Said' where nothing that the law and all that it calls make is longer than what came in: it says more and counts as full. Else prove '..UptoSaid'. A law counts once. -/
mutual
def uptoBulk {H : Type} : DataW H → Nat
  | .lit (.string bytes) => bytes.length + 1
  | .lit _ => 1
  | .nil => 1
  | .ptr d => uptoBulk d + 1
  | .slice elems spare => uptoBulkAll elems + uptoBulkAll spare + 1
  | .agg parts => uptoBulkAll parts + 1
  | .iface _ d => uptoBulk d + 1
  | .map entries => uptoBulkEntries entries + 1
  | .held _ => 1
def uptoBulkAll {H : Type} : List (DataW H) → Nat
  | [] => 0
  | d :: r => uptoBulk d + uptoBulkAll r
def uptoBulkEntries {H : Type} : List (Lit × DataW H) → Nat
  | [] => 0
  | x :: r => uptoBulkEntry x + uptoBulkEntries r
def uptoBulkEntry {H : Type} : Lit × DataW H → Nat
  | (.string bytes, d) => bytes.length + uptoBulk d + 1
  | (_, d) => uptoBulk d + 1
 end
def uptoSmall : (H : Type) → List (DataW H) → Bool := fun _ ds => decide (uptoBulkAll ds ≤ 1048576)
def OpenSpec.upto (s : _root_.Go.ChangeSpec) : _root_.Go.OpenSpec := { _root_.Go.OpenSpec.ofChange s with cond := some uptoSmall }

/-- 'acequialaw06.LabelTells', WHERE WHAT IT READS IS OF BULK AT MOST 1048576: true; the input reads as it did. -/
def labelTellsUptoRow : OpenClaim := { program := "ytnhfdmfciddmaaa", sum := "5b793afad59fa922643ec388af499eb08dcc6cf2003ef293c84ccdd1fbaf111e", func := "acequia/acequialaw06.LabelTells", spec := "labelTells", unfollowed := true, recurses := true, apart := false, narrowed := true }
def LabelTellsUptoSaid : Prop := labelTellsUptoRow.holds Try.pinned (OpenSpec.upto labelTellsSpec)

/-- 'acequialaw06.LabelDist', WHERE WHAT IT READS IS OF BULK AT MOST 1048576: true; the input reads as it did. -/
def labelDistUptoRow : OpenClaim := { program := "ytnhfdmfciddmaaa", sum := "5b793afad59fa922643ec388af499eb08dcc6cf2003ef293c84ccdd1fbaf111e", func := "acequia/acequialaw06.LabelDist", spec := "labelDist", unfollowed := true, recurses := true, apart := false, narrowed := true }
def LabelDistUptoSaid : Prop := labelDistUptoRow.holds Try.pinned (OpenSpec.upto labelDistSpec)

/-- 'acequialaw06.LabelRaise', WHERE WHAT IT READS IS OF BULK AT MOST 1048576: true; the input reads as it did. -/
def labelRaiseUptoRow : OpenClaim := { program := "ytnhfdmfciddmaaa", sum := "5b793afad59fa922643ec388af499eb08dcc6cf2003ef293c84ccdd1fbaf111e", func := "acequia/acequialaw06.LabelRaise", spec := "labelRaise", unfollowed := true, recurses := true, apart := false, narrowed := true }
def LabelRaiseUptoSaid : Prop := labelRaiseUptoRow.holds Try.pinned (OpenSpec.upto labelRaiseSpec)

/-- 'acequialaw06.LabelArcs', WHERE WHAT IT READS IS OF BULK AT MOST 1048576: true; the input reads as it did. -/
def labelArcsUptoRow : OpenClaim := { program := "ytnhfdmfciddmaaa", sum := "5b793afad59fa922643ec388af499eb08dcc6cf2003ef293c84ccdd1fbaf111e", func := "acequia/acequialaw06.LabelArcs", spec := "labelArcs", unfollowed := true, recurses := true, apart := false, narrowed := true }
def LabelArcsUptoSaid : Prop := labelArcsUptoRow.holds Try.pinned (OpenSpec.upto labelArcsSpec)

/-- 'acequialaw06.LabelLess', WHERE WHAT IT READS IS OF BULK AT MOST 1048576: true; the input reads as it did. -/
def labelLessUptoRow : OpenClaim := { program := "ytnhfdmfciddmaaa", sum := "5b793afad59fa922643ec388af499eb08dcc6cf2003ef293c84ccdd1fbaf111e", func := "acequia/acequialaw06.LabelLess", spec := "labelLess", unfollowed := true, recurses := true, apart := false, narrowed := true }
def LabelLessUptoSaid : Prop := labelLessUptoRow.holds Try.pinned (OpenSpec.upto labelLessSpec)

end Rows
end Go.Proofs.Ytnhfdmfciddmaaa
