/-
  No cell of these rows narrows 'for every input' (looked for: loops, veiled, ifaces, maps, wideKeys, modest, calm, conditions, laid).
  DERIVED. THE GIVEN ROWS OF THIS SEAT. 6 by the template 'for every input the law returns true; each argument reads behind the call as it read before'; 0 by the template 'total and deterministic' (their statements: YtgjokddcaadjdaaTotals.lean).
  GIVEN WITH THE SEED: the statements are not yours to turn. If you find one false, say at which input.
  Laid BY PROGRAM, IN A SANDBOX (cutbox-rows.mjs): the forced cells as the released guide's own fill.sh prints them over the translation 64c8dc3f5383c7f4… (all of the seat's roots in one cut). By AI agents, Wed Nov 11 2026. No macro, syntax, notation, axiom, sorry.
-/
import Derived.Test.YtgjokddcaadjdaaChecked
import GoSem.Claim
import GoSem.ClaimJoined
import GoSem.ClaimMapViews
import Derived.JoinedTies
import Derived.KernelRfl
namespace Go.Proofs.Ytgjokddcaadjdaa
/- THE CELL 'sum', in the pinned program and in every row, IS THE sha256 OF THE DUMP (.gsa) THAT YtgjokddcaadjdaaProg.lean LOADS. Nothing in Lean hashes anything: it is a label: what it is worth is what the hold of that sum in a sandbox is worth. -/
noncomputable def Try.pinned : Pinned := { name := "ytgjokddcaadjdaa", sum := "64c8dc3f5383c7f4cff84ebc694aa2164acb7a9e205f7899c4117e22dc59ca12", checked := Try.checked }
namespace Rows
def none {H : Type} : Left H := { results := [], args := [] }

/-- 'acequialaw07.PreTells': WHATEVER THE INPUT: true; the input reads as it did. -/
def preTellsSpec : ChangeSpec := { name := "preTells", fn := fun _ => fun
  | [d1, d2, d3, d4, d5] => { results := [.lit (.bool true)], args := [d1, d2, d3, d4, d5] }
  | _ => none }
def preTellsRow : OpenClaim := { program := "ytgjokddcaadjdaa", sum := "64c8dc3f5383c7f4cff84ebc694aa2164acb7a9e205f7899c4117e22dc59ca12", func := "acequia/acequialaw07.PreTells", spec := "preTells", unfollowed := true, recurses := true, apart := false }
def PreTellsSaid : Prop := preTellsRow.holds Try.pinned (OpenSpec.ofChange preTellsSpec)

/-- ITS FALSE NEIGHBOUR: 'it returns false'. Refute it at one input. -/
def preTellsWrong : ChangeSpec := { name := "preTells", fn := fun _ => fun
  | [d1, d2, d3, d4, d5] => { results := [.lit (.bool false)], args := [d1, d2, d3, d4, d5] }
  | _ => none }
def PreTellsWrongFalsely : Prop := preTellsRow.holds Try.pinned (OpenSpec.ofChange preTellsWrong)

/-- 'acequialaw07.PreKeeps': WHATEVER THE INPUT: true; the input reads as it did. -/
def preKeepsSpec : ChangeSpec := { name := "preKeeps", fn := fun _ => fun
  | [d1, d2] => { results := [.lit (.bool true)], args := [d1, d2] }
  | _ => none }
def preKeepsRow : OpenClaim := { program := "ytgjokddcaadjdaa", sum := "64c8dc3f5383c7f4cff84ebc694aa2164acb7a9e205f7899c4117e22dc59ca12", func := "acequia/acequialaw07.PreKeeps", spec := "preKeeps", unfollowed := true, recurses := true, apart := false }
def PreKeepsSaid : Prop := preKeepsRow.holds Try.pinned (OpenSpec.ofChange preKeepsSpec)

/-- ITS FALSE NEIGHBOUR: 'it returns false'. Refute it at one input. -/
def preKeepsWrong : ChangeSpec := { name := "preKeeps", fn := fun _ => fun
  | [d1, d2] => { results := [.lit (.bool false)], args := [d1, d2] }
  | _ => none }
def PreKeepsWrongFalsely : Prop := preKeepsRow.holds Try.pinned (OpenSpec.ofChange preKeepsWrong)

/-- 'acequialaw07.PreMoves': WHATEVER THE INPUT: true; the input reads as it did. -/
def preMovesSpec : ChangeSpec := { name := "preMoves", fn := fun _ => fun
  | [d1, d2] => { results := [.lit (.bool true)], args := [d1, d2] }
  | _ => none }
def preMovesRow : OpenClaim := { program := "ytgjokddcaadjdaa", sum := "64c8dc3f5383c7f4cff84ebc694aa2164acb7a9e205f7899c4117e22dc59ca12", func := "acequia/acequialaw07.PreMoves", spec := "preMoves", unfollowed := true, recurses := true, apart := false }
def PreMovesSaid : Prop := preMovesRow.holds Try.pinned (OpenSpec.ofChange preMovesSpec)

/-- ITS FALSE NEIGHBOUR: 'it returns false'. Refute it at one input. -/
def preMovesWrong : ChangeSpec := { name := "preMoves", fn := fun _ => fun
  | [d1, d2] => { results := [.lit (.bool false)], args := [d1, d2] }
  | _ => none }
def PreMovesWrongFalsely : Prop := preMovesRow.holds Try.pinned (OpenSpec.ofChange preMovesWrong)

/-- 'acequialaw07.PreRises': WHATEVER THE INPUT: true; the input reads as it did. -/
def preRisesSpec : ChangeSpec := { name := "preRises", fn := fun _ => fun
  | [d1, d2] => { results := [.lit (.bool true)], args := [d1, d2] }
  | _ => none }
def preRisesRow : OpenClaim := { program := "ytgjokddcaadjdaa", sum := "64c8dc3f5383c7f4cff84ebc694aa2164acb7a9e205f7899c4117e22dc59ca12", func := "acequia/acequialaw07.PreRises", spec := "preRises", unfollowed := true, recurses := true, apart := false }
def PreRisesSaid : Prop := preRisesRow.holds Try.pinned (OpenSpec.ofChange preRisesSpec)

/-- ITS FALSE NEIGHBOUR: 'it returns false'. Refute it at one input. -/
def preRisesWrong : ChangeSpec := { name := "preRises", fn := fun _ => fun
  | [d1, d2] => { results := [.lit (.bool false)], args := [d1, d2] }
  | _ => none }
def PreRisesWrongFalsely : Prop := preRisesRow.holds Try.pinned (OpenSpec.ofChange preRisesWrong)

/-- 'acequialaw07.PreEnds': WHATEVER THE INPUT: true; the input reads as it did. -/
def preEndsSpec : ChangeSpec := { name := "preEnds", fn := fun _ => fun
  | [d1, d2] => { results := [.lit (.bool true)], args := [d1, d2] }
  | _ => none }
def preEndsRow : OpenClaim := { program := "ytgjokddcaadjdaa", sum := "64c8dc3f5383c7f4cff84ebc694aa2164acb7a9e205f7899c4117e22dc59ca12", func := "acequia/acequialaw07.PreEnds", spec := "preEnds", unfollowed := true, recurses := true, apart := false }
def PreEndsSaid : Prop := preEndsRow.holds Try.pinned (OpenSpec.ofChange preEndsSpec)

/-- ITS FALSE NEIGHBOUR: 'it returns false'. Refute it at one input. -/
def preEndsWrong : ChangeSpec := { name := "preEnds", fn := fun _ => fun
  | [d1, d2] => { results := [.lit (.bool false)], args := [d1, d2] }
  | _ => none }
def PreEndsWrongFalsely : Prop := preEndsRow.holds Try.pinned (OpenSpec.ofChange preEndsWrong)

/-- 'acequialaw07.PreWrong': WHATEVER THE INPUT: true; the input reads as it did. -/
def preWrongSpec : ChangeSpec := { name := "preWrong", fn := fun _ => fun
  | [d1, d2, d3, d4] => { results := [.lit (.bool true)], args := [d1, d2, d3, d4] }
  | _ => none }
def preWrongRow : OpenClaim := { program := "ytgjokddcaadjdaa", sum := "64c8dc3f5383c7f4cff84ebc694aa2164acb7a9e205f7899c4117e22dc59ca12", func := "acequia/acequialaw07.PreWrong", spec := "preWrong", unfollowed := true, recurses := true, apart := false }
def PreWrongSaid : Prop := preWrongRow.holds Try.pinned (OpenSpec.ofChange preWrongSpec)

/-- ITS FALSE NEIGHBOUR: 'it returns false'. Refute it at one input. -/
def preWrongWrong : ChangeSpec := { name := "preWrong", fn := fun _ => fun
  | [d1, d2, d3, d4] => { results := [.lit (.bool false)], args := [d1, d2, d3, d4] }
  | _ => none }
def PreWrongWrongFalsely : Prop := preWrongRow.holds Try.pinned (OpenSpec.ofChange preWrongWrong)

/- THE SECOND FORM. 'bulk': how many values and letters a reading holds, each counted each time it is reached (what is shared counts as often as it is met; a slice's spare places count too). A statement '..UptoSaid' is the law's where the arguments, and the package variables that the reading takes, are together of bulk at most 1048576: NARROWER than '..Said'. Prove '..Said' where nothing that the law and all that it calls make is longer than what came in: it says more and counts as full. Else prove '..UptoSaid'. A law counts once. -/
mutual
def uptoBulk {H : Type} : DataW H → Nat
  | .lit (.string bytes) => bytes.length + 1
  | .lit _ => 1
  | .nil => 1
  | .ptr d => uptoBulk d + 1
  | .slice elems spare => uptoBulkAll elems + uptoBulkAll spare + 1
  | .agg parts => uptoBulkAll parts + 1
  | .iface _ d => uptoBulk d + 1
  | .map entries => uptoBulkEntries entries + 1
  | .held _ => 1
def uptoBulkAll {H : Type} : List (DataW H) → Nat
  | [] => 0
  | d :: r => uptoBulk d + uptoBulkAll r
def uptoBulkEntries {H : Type} : List (Lit × DataW H) → Nat
  | [] => 0
  | x :: r => uptoBulkEntry x + uptoBulkEntries r
def uptoBulkEntry {H : Type} : Lit × DataW H → Nat
  | (.string bytes, d) => bytes.length + uptoBulk d + 1
  | (_, d) => uptoBulk d + 1
 end
def uptoSmall : (H : Type) → List (DataW H) → Bool := fun _ ds => decide (uptoBulkAll ds ≤ 1048576)
def OpenSpec.upto (s : _root_.Go.ChangeSpec) : _root_.Go.OpenSpec := { _root_.Go.OpenSpec.ofChange s with cond := some uptoSmall }

/-- 'acequialaw07.PreTells', WHERE WHAT IT READS IS OF BULK AT MOST 1048576: true; the input reads as it did. -/
def preTellsUptoRow : OpenClaim := { program := "ytgjokddcaadjdaa", sum := "64c8dc3f5383c7f4cff84ebc694aa2164acb7a9e205f7899c4117e22dc59ca12", func := "acequia/acequialaw07.PreTells", spec := "preTells", unfollowed := true, recurses := true, apart := false, narrowed := true }
def PreTellsUptoSaid : Prop := preTellsUptoRow.holds Try.pinned (OpenSpec.upto preTellsSpec)

/-- 'acequialaw07.PreKeeps', WHERE WHAT IT READS IS OF BULK AT MOST 1048576: true; the input reads as it did. -/
def preKeepsUptoRow : OpenClaim := { program := "ytgjokddcaadjdaa", sum := "64c8dc3f5383c7f4cff84ebc694aa2164acb7a9e205f7899c4117e22dc59ca12", func := "acequia/acequialaw07.PreKeeps", spec := "preKeeps", unfollowed := true, recurses := true, apart := false, narrowed := true }
def PreKeepsUptoSaid : Prop := preKeepsUptoRow.holds Try.pinned (OpenSpec.upto preKeepsSpec)

/-- 'acequialaw07.PreMoves', WHERE WHAT IT READS IS OF BULK AT MOST 1048576: true; the input reads as it did. -/
def preMovesUptoRow : OpenClaim := { program := "ytgjokddcaadjdaa", sum := "64c8dc3f5383c7f4cff84ebc694aa2164acb7a9e205f7899c4117e22dc59ca12", func := "acequia/acequialaw07.PreMoves", spec := "preMoves", unfollowed := true, recurses := true, apart := false, narrowed := true }
def PreMovesUptoSaid : Prop := preMovesUptoRow.holds Try.pinned (OpenSpec.upto preMovesSpec)

/-- 'acequialaw07.PreRises', WHERE WHAT IT READS IS OF BULK AT MOST 1048576: true; the input reads as it did. -/
def preRisesUptoRow : OpenClaim := { program := "ytgjokddcaadjdaa", sum := "64c8dc3f5383c7f4cff84ebc694aa2164acb7a9e205f7899c4117e22dc59ca12", func := "acequia/acequialaw07.PreRises", spec := "preRises", unfollowed := true, recurses := true, apart := false, narrowed := true }
def PreRisesUptoSaid : Prop := preRisesUptoRow.holds Try.pinned (OpenSpec.upto preRisesSpec)

/-- 'acequialaw07.PreEnds', WHERE WHAT IT READS IS OF BULK AT MOST 1048576: true; the input reads as it did. -/
def preEndsUptoRow : OpenClaim := { program := "ytgjokddcaadjdaa", sum := "64c8dc3f5383c7f4cff84ebc694aa2164acb7a9e205f7899c4117e22dc59ca12", func := "acequia/acequialaw07.PreEnds", spec := "preEnds", unfollowed := true, recurses := true, apart := false, narrowed := true }
def PreEndsUptoSaid : Prop := preEndsUptoRow.holds Try.pinned (OpenSpec.upto preEndsSpec)

/-- 'acequialaw07.PreWrong', WHERE WHAT IT READS IS OF BULK AT MOST 1048576: true; the input reads as it did. -/
def preWrongUptoRow : OpenClaim := { program := "ytgjokddcaadjdaa", sum := "64c8dc3f5383c7f4cff84ebc694aa2164acb7a9e205f7899c4117e22dc59ca12", func := "acequia/acequialaw07.PreWrong", spec := "preWrong", unfollowed := true, recurses := true, apart := false, narrowed := true }
def PreWrongUptoSaid : Prop := preWrongUptoRow.holds Try.pinned (OpenSpec.upto preWrongSpec)

end Rows
end Go.Proofs.Ytgjokddcaadjdaa
