/-
  No cell of these rows narrows 'for every input' (looked for: loops, veiled, ifaces, maps, wideKeys, modest, calm, conditions, laid).
  DERIVED. THE GIVEN ROWS OF THIS SEAT. 5 by the template 'for every input the law returns true; each argument reads behind the call as it read before'; 0 by the template 'total and deterministic' (their statements: YthpmappcfgiggaaTotals.lean).
  GIVEN WITH THE SEED: the statements are not yours to turn. If you find one false, say at which input.
  Laid BY PROGRAM, IN A SANDBOX (cutbox-rows.mjs): the forced cells as the released guide's own fill.sh prints them over the translation ba4f9135da71a61e… (all of the seat's roots in one cut). By AI agents, Wed Nov 11 2026. No macro, syntax, notation, axiom, sorry.
-/
import Derived.Test.YthpmappcfgiggaaChecked
import GoSem.Claim
import GoSem.ClaimJoined
import GoSem.ClaimMapViews
import Derived.JoinedTies
import Derived.KernelRfl
namespace Go.Proofs.Ythpmappcfgiggaa
/- THE CELL 'sum', in the pinned program and in every row, IS THE sha256 OF THE DUMP (.gsa) THAT YthpmappcfgiggaaProg.lean LOADS. Nothing in Lean hashes anything: it is a label: what it is worth is what the hold of that sum in a sandbox is worth. -/
noncomputable def Try.pinned : Pinned := { name := "ythpmappcfgiggaa", sum := "ba4f9135da71a61ea9f39953cad0c301a545068c2557e192f7cf0c7dbe2ee794", checked := Try.checked }
namespace Rows
def none {H : Type} : Left H := { results := [], args := [] }

/-- 'acequialaw04.CutAcross': WHATEVER THE INPUT: true; the input reads as it did. -/
def cutAcrossSpec : ChangeSpec := { name := "cutAcross", fn := fun _ => fun
  | [d1, d2, d3] => { results := [.lit (.bool true)], args := [d1, d2, d3] }
  | _ => none }
def cutAcrossRow : OpenClaim := { program := "ythpmappcfgiggaa", sum := "ba4f9135da71a61ea9f39953cad0c301a545068c2557e192f7cf0c7dbe2ee794", func := "acequia/acequialaw04.CutAcross", spec := "cutAcross", unfollowed := true, recurses := true, apart := false }
def CutAcrossSaid : Prop := cutAcrossRow.holds Try.pinned (OpenSpec.ofChange cutAcrossSpec)

/-- ITS FALSE NEIGHBOUR: 'it returns false'. Refute it at one input. -/
def cutAcrossWrong : ChangeSpec := { name := "cutAcross", fn := fun _ => fun
  | [d1, d2, d3] => { results := [.lit (.bool false)], args := [d1, d2, d3] }
  | _ => none }
def CutAcrossWrongFalsely : Prop := cutAcrossRow.holds Try.pinned (OpenSpec.ofChange cutAcrossWrong)

/-- 'acequialaw04.CutGreatest': WHATEVER THE INPUT: true; the input reads as it did. -/
def cutGreatestSpec : ChangeSpec := { name := "cutGreatest", fn := fun _ => fun
  | [d1, d2] => { results := [.lit (.bool true)], args := [d1, d2] }
  | _ => none }
def cutGreatestRow : OpenClaim := { program := "ythpmappcfgiggaa", sum := "ba4f9135da71a61ea9f39953cad0c301a545068c2557e192f7cf0c7dbe2ee794", func := "acequia/acequialaw04.CutGreatest", spec := "cutGreatest", unfollowed := true, recurses := true, apart := false }
def CutGreatestSaid : Prop := cutGreatestRow.holds Try.pinned (OpenSpec.ofChange cutGreatestSpec)

/-- ITS FALSE NEIGHBOUR: 'it returns false'. Refute it at one input. -/
def cutGreatestWrong : ChangeSpec := { name := "cutGreatest", fn := fun _ => fun
  | [d1, d2] => { results := [.lit (.bool false)], args := [d1, d2] }
  | _ => none }
def CutGreatestWrongFalsely : Prop := cutGreatestRow.holds Try.pinned (OpenSpec.ofChange cutGreatestWrong)

/-- 'acequialaw04.CutReach': WHATEVER THE INPUT: true; the input reads as it did. -/
def cutReachSpec : ChangeSpec := { name := "cutReach", fn := fun _ => fun
  | [d1, d2] => { results := [.lit (.bool true)], args := [d1, d2] }
  | _ => none }
def cutReachRow : OpenClaim := { program := "ythpmappcfgiggaa", sum := "ba4f9135da71a61ea9f39953cad0c301a545068c2557e192f7cf0c7dbe2ee794", func := "acequia/acequialaw04.CutReach", spec := "cutReach", unfollowed := true, recurses := true, apart := false }
def CutReachSaid : Prop := cutReachRow.holds Try.pinned (OpenSpec.ofChange cutReachSpec)

/-- ITS FALSE NEIGHBOUR: 'it returns false'. Refute it at one input. -/
def cutReachWrong : ChangeSpec := { name := "cutReach", fn := fun _ => fun
  | [d1, d2] => { results := [.lit (.bool false)], args := [d1, d2] }
  | _ => none }
def CutReachWrongFalsely : Prop := cutReachRow.holds Try.pinned (OpenSpec.ofChange cutReachWrong)

/-- 'acequialaw04.CutPairs': WHATEVER THE INPUT: true; the input reads as it did. -/
def cutPairsSpec : ChangeSpec := { name := "cutPairs", fn := fun _ => fun
  | [d1, d2, d3] => { results := [.lit (.bool true)], args := [d1, d2, d3] }
  | _ => none }
def cutPairsRow : OpenClaim := { program := "ythpmappcfgiggaa", sum := "ba4f9135da71a61ea9f39953cad0c301a545068c2557e192f7cf0c7dbe2ee794", func := "acequia/acequialaw04.CutPairs", spec := "cutPairs", unfollowed := true, recurses := true, apart := false }
def CutPairsSaid : Prop := cutPairsRow.holds Try.pinned (OpenSpec.ofChange cutPairsSpec)

/-- ITS FALSE NEIGHBOUR: 'it returns false'. Refute it at one input. -/
def cutPairsWrong : ChangeSpec := { name := "cutPairs", fn := fun _ => fun
  | [d1, d2, d3] => { results := [.lit (.bool false)], args := [d1, d2, d3] }
  | _ => none }
def CutPairsWrongFalsely : Prop := cutPairsRow.holds Try.pinned (OpenSpec.ofChange cutPairsWrong)

/-- 'acequialaw04.CutSides': WHATEVER THE INPUT: true; the input reads as it did. -/
def cutSidesSpec : ChangeSpec := { name := "cutSides", fn := fun _ => fun
  | [d1, d2, d3] => { results := [.lit (.bool true)], args := [d1, d2, d3] }
  | _ => none }
def cutSidesRow : OpenClaim := { program := "ythpmappcfgiggaa", sum := "ba4f9135da71a61ea9f39953cad0c301a545068c2557e192f7cf0c7dbe2ee794", func := "acequia/acequialaw04.CutSides", spec := "cutSides", unfollowed := true, recurses := true, apart := false }
def CutSidesSaid : Prop := cutSidesRow.holds Try.pinned (OpenSpec.ofChange cutSidesSpec)

/-- ITS FALSE NEIGHBOUR: 'it returns false'. Refute it at one input. -/
def cutSidesWrong : ChangeSpec := { name := "cutSides", fn := fun _ => fun
  | [d1, d2, d3] => { results := [.lit (.bool false)], args := [d1, d2, d3] }
  | _ => none }
def CutSidesWrongFalsely : Prop := cutSidesRow.holds Try.pinned (OpenSpec.ofChange cutSidesWrong)

/- THE SECOND FORM. 'bulk': how many values and letters a reading holds, each counted each time it is reached (what is shared counts as often as it is met; a slice's spare places count too). A statement '..UptoSaid' is the law's where the arguments, and the package variables that the reading takes, are together of bulk at most 1048576: NARROWER than '..Said'. Prove '..Said' where nothing that the law and all that it calls make is longer than what came in: it says more and counts as full. Else prove '..UptoSaid'. A law counts once. -/
mutual
def uptoBulk {H : Type} : DataW H → Nat
  | .lit (.string bytes) => bytes.length + 1
  | .lit _ => 1
  | .nil => 1
  | .ptr d => uptoBulk d + 1
  | .slice elems spare => uptoBulkAll elems + uptoBulkAll spare + 1
  | .agg parts => uptoBulkAll parts + 1
  | .iface _ d => uptoBulk d + 1
  | .map entries => uptoBulkEntries entries + 1
  | .held _ => 1
def uptoBulkAll {H : Type} : List (DataW H) → Nat
  | [] => 0
  | d :: r => uptoBulk d + uptoBulkAll r
def uptoBulkEntries {H : Type} : List (Lit × DataW H) → Nat
  | [] => 0
  | x :: r => uptoBulkEntry x + uptoBulkEntries r
def uptoBulkEntry {H : Type} : Lit × DataW H → Nat
  | (.string bytes, d) => bytes.length + uptoBulk d + 1
  | (_, d) => uptoBulk d + 1
 end
def uptoSmall : (H : Type) → List (DataW H) → Bool := fun _ ds => decide (uptoBulkAll ds ≤ 1048576)
def OpenSpec.upto (s : _root_.Go.ChangeSpec) : _root_.Go.OpenSpec := { _root_.Go.OpenSpec.ofChange s with cond := some uptoSmall }

/-- 'acequialaw04.CutAcross', WHERE WHAT IT READS IS OF BULK AT MOST 1048576: true; the input reads as it did. -/
def cutAcrossUptoRow : OpenClaim := { program := "ythpmappcfgiggaa", sum := "ba4f9135da71a61ea9f39953cad0c301a545068c2557e192f7cf0c7dbe2ee794", func := "acequia/acequialaw04.CutAcross", spec := "cutAcross", unfollowed := true, recurses := true, apart := false, narrowed := true }
def CutAcrossUptoSaid : Prop := cutAcrossUptoRow.holds Try.pinned (OpenSpec.upto cutAcrossSpec)

/-- 'acequialaw04.CutGreatest', WHERE WHAT IT READS IS OF BULK AT MOST 1048576: true; the input reads as it did. -/
def cutGreatestUptoRow : OpenClaim := { program := "ythpmappcfgiggaa", sum := "ba4f9135da71a61ea9f39953cad0c301a545068c2557e192f7cf0c7dbe2ee794", func := "acequia/acequialaw04.CutGreatest", spec := "cutGreatest", unfollowed := true, recurses := true, apart := false, narrowed := true }
def CutGreatestUptoSaid : Prop := cutGreatestUptoRow.holds Try.pinned (OpenSpec.upto cutGreatestSpec)

/-- 'acequialaw04.CutReach', WHERE WHAT IT READS IS OF BULK AT MOST 1048576: true; the input reads as it did. -/
def cutReachUptoRow : OpenClaim := { program := "ythpmappcfgiggaa", sum := "ba4f9135da71a61ea9f39953cad0c301a545068c2557e192f7cf0c7dbe2ee794", func := "acequia/acequialaw04.CutReach", spec := "cutReach", unfollowed := true, recurses := true, apart := false, narrowed := true }
def CutReachUptoSaid : Prop := cutReachUptoRow.holds Try.pinned (OpenSpec.upto cutReachSpec)

/-- 'acequialaw04.CutPairs', WHERE WHAT IT READS IS OF BULK AT MOST 1048576: true; the input reads as it did. -/
def cutPairsUptoRow : OpenClaim := { program := "ythpmappcfgiggaa", sum := "ba4f9135da71a61ea9f39953cad0c301a545068c2557e192f7cf0c7dbe2ee794", func := "acequia/acequialaw04.CutPairs", spec := "cutPairs", unfollowed := true, recurses := true, apart := false, narrowed := true }
def CutPairsUptoSaid : Prop := cutPairsUptoRow.holds Try.pinned (OpenSpec.upto cutPairsSpec)

/-- 'acequialaw04.CutSides', WHERE WHAT IT READS IS OF BULK AT MOST 1048576: true; the input reads as it did. -/
def cutSidesUptoRow : OpenClaim := { program := "ythpmappcfgiggaa", sum := "ba4f9135da71a61ea9f39953cad0c301a545068c2557e192f7cf0c7dbe2ee794", func := "acequia/acequialaw04.CutSides", spec := "cutSides", unfollowed := true, recurses := true, apart := false, narrowed := true }
def CutSidesUptoSaid : Prop := cutSidesUptoRow.holds Try.pinned (OpenSpec.upto cutSidesSpec)

end Rows
end Go.Proofs.Ythpmappcfgiggaa
