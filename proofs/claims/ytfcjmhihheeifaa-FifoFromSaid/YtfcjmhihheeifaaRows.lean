/-
  No cell of these rows narrows 'for every input' (looked for: loops, veiled, ifaces, maps, wideKeys, modest, calm, conditions, laid).
  DERIVED. THE GIVEN ROWS OF THIS SEAT. 6 by the template 'for every input the law returns true; each argument reads behind the call as it read before'; 0 by the template 'total and deterministic' (their statements: YtfcjmhihheeifaaTotals.lean).
  GIVEN WITH THE SEED: the statements are not yours to turn. If you find one false, say at which input.
  Laid BY PROGRAM, IN A SANDBOX (cutbox-rows.mjs): the forced cells as the released guide's own fill.sh prints them over the translation fcd636be66d25293… (all of the seat's roots in one cut). By AI agents, Wed Nov 11 2026. No macro, syntax, notation, axiom, sorry.
-/
import Derived.Test.YtfcjmhihheeifaaChecked
import GoSem.Claim
import GoSem.ClaimJoined
import GoSem.ClaimMapViews
import Derived.JoinedTies
import Derived.KernelRfl
namespace Go.Proofs.Ytfcjmhihheeifaa
/- THE CELL 'sum', in the pinned program and in every row, IS THE sha256 OF THE DUMP (.gsa) THAT YtfcjmhihheeifaaProg.lean LOADS. Nothing in Lean hashes anything: it is a label: what it is worth is what the hold of that sum in a sandbox is worth. -/
noncomputable def Try.pinned : Pinned := { name := "ytfcjmhihheeifaa", sum := "fcd636be66d25293bfa08396374e241a95b26b51fb1e11abf7033e67cf8351c9", checked := Try.checked }
namespace Rows
def none {H : Type} : Left H := { results := [], args := [] }

/-- 'acequialaw08.FifoGreatest': WHATEVER THE INPUT: true; the input reads as it did. -/
def fifoGreatestSpec : ChangeSpec := { name := "fifoGreatest", fn := fun _ => fun
  | [d1, d2, d3] => { results := [.lit (.bool true)], args := [d1, d2, d3] }
  | _ => none }
def fifoGreatestRow : OpenClaim := { program := "ytfcjmhihheeifaa", sum := "fcd636be66d25293bfa08396374e241a95b26b51fb1e11abf7033e67cf8351c9", func := "acequia/acequialaw08.FifoGreatest", spec := "fifoGreatest", unfollowed := true, recurses := true, plainKeys := false, apart := false }
def FifoGreatestSaid : Prop := fifoGreatestRow.holds Try.pinned (OpenSpec.ofChange fifoGreatestSpec)

/-- ITS FALSE NEIGHBOUR: 'it returns false'. Refute it at one input. -/
def fifoGreatestWrong : ChangeSpec := { name := "fifoGreatest", fn := fun _ => fun
  | [d1, d2, d3] => { results := [.lit (.bool false)], args := [d1, d2, d3] }
  | _ => none }
def FifoGreatestWrongFalsely : Prop := fifoGreatestRow.holds Try.pinned (OpenSpec.ofChange fifoGreatestWrong)

/-- 'acequialaw08.FifoBound': WHATEVER THE INPUT: true; the input reads as it did. -/
def fifoBoundSpec : ChangeSpec := { name := "fifoBound", fn := fun _ => fun
  | [d] => { results := [.lit (.bool true)], args := [d] }
  | _ => none }
def fifoBoundRow : OpenClaim := { program := "ytfcjmhihheeifaa", sum := "fcd636be66d25293bfa08396374e241a95b26b51fb1e11abf7033e67cf8351c9", func := "acequia/acequialaw08.FifoBound", spec := "fifoBound", unfollowed := true, recurses := true, plainKeys := false, apart := false }
def FifoBoundSaid : Prop := fifoBoundRow.holds Try.pinned (OpenSpec.ofChange fifoBoundSpec)

/-- ITS FALSE NEIGHBOUR: 'it returns false'. Refute it at one input. -/
def fifoBoundWrong : ChangeSpec := { name := "fifoBound", fn := fun _ => fun
  | [d] => { results := [.lit (.bool false)], args := [d] }
  | _ => none }
def FifoBoundWrongFalsely : Prop := fifoBoundRow.holds Try.pinned (OpenSpec.ofChange fifoBoundWrong)

/-- 'acequialaw08.FifoSame': WHATEVER THE INPUT: true; the input reads as it did. -/
def fifoSameSpec : ChangeSpec := { name := "fifoSame", fn := fun _ => fun
  | [d1, d2] => { results := [.lit (.bool true)], args := [d1, d2] }
  | _ => none }
def fifoSameRow : OpenClaim := { program := "ytfcjmhihheeifaa", sum := "fcd636be66d25293bfa08396374e241a95b26b51fb1e11abf7033e67cf8351c9", func := "acequia/acequialaw08.FifoSame", spec := "fifoSame", unfollowed := true, recurses := true, plainKeys := false, apart := false }
def FifoSameSaid : Prop := fifoSameRow.holds Try.pinned (OpenSpec.ofChange fifoSameSpec)

/-- ITS FALSE NEIGHBOUR: 'it returns false'. Refute it at one input. -/
def fifoSameWrong : ChangeSpec := { name := "fifoSame", fn := fun _ => fun
  | [d1, d2] => { results := [.lit (.bool false)], args := [d1, d2] }
  | _ => none }
def FifoSameWrongFalsely : Prop := fifoSameRow.holds Try.pinned (OpenSpec.ofChange fifoSameWrong)

/-- 'acequialaw08.FifoMore': WHATEVER THE INPUT: true; the input reads as it did. -/
def fifoMoreSpec : ChangeSpec := { name := "fifoMore", fn := fun _ => fun
  | [d1, d2, d3] => { results := [.lit (.bool true)], args := [d1, d2, d3] }
  | _ => none }
def fifoMoreRow : OpenClaim := { program := "ytfcjmhihheeifaa", sum := "fcd636be66d25293bfa08396374e241a95b26b51fb1e11abf7033e67cf8351c9", func := "acequia/acequialaw08.FifoMore", spec := "fifoMore", unfollowed := true, recurses := true, plainKeys := false, apart := false }
def FifoMoreSaid : Prop := fifoMoreRow.holds Try.pinned (OpenSpec.ofChange fifoMoreSpec)

/-- ITS FALSE NEIGHBOUR: 'it returns false'. Refute it at one input. -/
def fifoMoreWrong : ChangeSpec := { name := "fifoMore", fn := fun _ => fun
  | [d1, d2, d3] => { results := [.lit (.bool false)], args := [d1, d2, d3] }
  | _ => none }
def FifoMoreWrongFalsely : Prop := fifoMoreRow.holds Try.pinned (OpenSpec.ofChange fifoMoreWrong)

/-- 'acequialaw08.FifoFrom': WHATEVER THE INPUT: true; the input reads as it did. -/
def fifoFromSpec : ChangeSpec := { name := "fifoFrom", fn := fun _ => fun
  | [d1, d2] => { results := [.lit (.bool true)], args := [d1, d2] }
  | _ => none }
def fifoFromRow : OpenClaim := { program := "ytfcjmhihheeifaa", sum := "fcd636be66d25293bfa08396374e241a95b26b51fb1e11abf7033e67cf8351c9", func := "acequia/acequialaw08.FifoFrom", spec := "fifoFrom", unfollowed := true, recurses := true, plainKeys := false, apart := false }
def FifoFromSaid : Prop := fifoFromRow.holds Try.pinned (OpenSpec.ofChange fifoFromSpec)

/-- ITS FALSE NEIGHBOUR: 'it returns false'. Refute it at one input. -/
def fifoFromWrong : ChangeSpec := { name := "fifoFrom", fn := fun _ => fun
  | [d1, d2] => { results := [.lit (.bool false)], args := [d1, d2] }
  | _ => none }
def FifoFromWrongFalsely : Prop := fifoFromRow.holds Try.pinned (OpenSpec.ofChange fifoFromWrong)

/-- 'acequialaw08.FifoGreat': WHATEVER THE INPUT: true; the input reads as it did. -/
def fifoGreatSpec : ChangeSpec := { name := "fifoGreat", fn := fun _ => fun
  | [d1, d2] => { results := [.lit (.bool true)], args := [d1, d2] }
  | _ => none }
def fifoGreatRow : OpenClaim := { program := "ytfcjmhihheeifaa", sum := "fcd636be66d25293bfa08396374e241a95b26b51fb1e11abf7033e67cf8351c9", func := "acequia/acequialaw08.FifoGreat", spec := "fifoGreat", unfollowed := true, recurses := true, plainKeys := false, apart := false }
def FifoGreatSaid : Prop := fifoGreatRow.holds Try.pinned (OpenSpec.ofChange fifoGreatSpec)

/-- ITS FALSE NEIGHBOUR: 'it returns false'. Refute it at one input. -/
def fifoGreatWrong : ChangeSpec := { name := "fifoGreat", fn := fun _ => fun
  | [d1, d2] => { results := [.lit (.bool false)], args := [d1, d2] }
  | _ => none }
def FifoGreatWrongFalsely : Prop := fifoGreatRow.holds Try.pinned (OpenSpec.ofChange fifoGreatWrong)

/- THE SECOND FORM. 'bulk': how many values and letters a reading holds, each counted each time it is reached (what is shared counts as often as it is met; a slice's spare places count too). A statement '..UptoSaid' is the law's where the arguments, and the package variables that the reading takes, are together of bulk at most 1048576: NARROWER than '..Said'. Prove '..Said' where nothing that the law and all that it calls make is longer than what came in: it says more and counts as full. Else prove '..UptoSaid'. A law counts once. -/
mutual
def uptoBulk {H : Type} : DataW H → Nat
  | .lit (.string bytes) => bytes.length + 1
  | .lit _ => 1
  | .nil => 1
  | .ptr d => uptoBulk d + 1
  | .slice elems spare => uptoBulkAll elems + uptoBulkAll spare + 1
  | .agg parts => uptoBulkAll parts + 1
  | .iface _ d => uptoBulk d + 1
  | .map entries => uptoBulkEntries entries + 1
  | .held _ => 1
def uptoBulkAll {H : Type} : List (DataW H) → Nat
  | [] => 0
  | d :: r => uptoBulk d + uptoBulkAll r
def uptoBulkEntries {H : Type} : List (Lit × DataW H) → Nat
  | [] => 0
  | x :: r => uptoBulkEntry x + uptoBulkEntries r
def uptoBulkEntry {H : Type} : Lit × DataW H → Nat
  | (.string bytes, d) => bytes.length + uptoBulk d + 1
  | (_, d) => uptoBulk d + 1
 end
def uptoSmall : (H : Type) → List (DataW H) → Bool := fun _ ds => decide (uptoBulkAll ds ≤ 1048576)
def OpenSpec.upto (s : _root_.Go.ChangeSpec) : _root_.Go.OpenSpec := { _root_.Go.OpenSpec.ofChange s with cond := some uptoSmall }

/-- 'acequialaw08.FifoGreatest', WHERE WHAT IT READS IS OF BULK AT MOST 1048576: true; the input reads as it did. -/
def fifoGreatestUptoRow : OpenClaim := { program := "ytfcjmhihheeifaa", sum := "fcd636be66d25293bfa08396374e241a95b26b51fb1e11abf7033e67cf8351c9", func := "acequia/acequialaw08.FifoGreatest", spec := "fifoGreatest", unfollowed := true, recurses := true, plainKeys := false, apart := false, narrowed := true }
def FifoGreatestUptoSaid : Prop := fifoGreatestUptoRow.holds Try.pinned (OpenSpec.upto fifoGreatestSpec)

/-- 'acequialaw08.FifoBound', WHERE WHAT IT READS IS OF BULK AT MOST 1048576: true; the input reads as it did. -/
def fifoBoundUptoRow : OpenClaim := { program := "ytfcjmhihheeifaa", sum := "fcd636be66d25293bfa08396374e241a95b26b51fb1e11abf7033e67cf8351c9", func := "acequia/acequialaw08.FifoBound", spec := "fifoBound", unfollowed := true, recurses := true, plainKeys := false, apart := false, narrowed := true }
def FifoBoundUptoSaid : Prop := fifoBoundUptoRow.holds Try.pinned (OpenSpec.upto fifoBoundSpec)

/-- 'acequialaw08.FifoSame', WHERE WHAT IT READS IS OF BULK AT MOST 1048576: true; the input reads as it did. -/
def fifoSameUptoRow : OpenClaim := { program := "ytfcjmhihheeifaa", sum := "fcd636be66d25293bfa08396374e241a95b26b51fb1e11abf7033e67cf8351c9", func := "acequia/acequialaw08.FifoSame", spec := "fifoSame", unfollowed := true, recurses := true, plainKeys := false, apart := false, narrowed := true }
def FifoSameUptoSaid : Prop := fifoSameUptoRow.holds Try.pinned (OpenSpec.upto fifoSameSpec)

/-- 'acequialaw08.FifoMore', WHERE WHAT IT READS IS OF BULK AT MOST 1048576: true; the input reads as it did. -/
def fifoMoreUptoRow : OpenClaim := { program := "ytfcjmhihheeifaa", sum := "fcd636be66d25293bfa08396374e241a95b26b51fb1e11abf7033e67cf8351c9", func := "acequia/acequialaw08.FifoMore", spec := "fifoMore", unfollowed := true, recurses := true, plainKeys := false, apart := false, narrowed := true }
def FifoMoreUptoSaid : Prop := fifoMoreUptoRow.holds Try.pinned (OpenSpec.upto fifoMoreSpec)

/-- 'acequialaw08.FifoFrom', WHERE WHAT IT READS IS OF BULK AT MOST 1048576: true; the input reads as it did. -/
def fifoFromUptoRow : OpenClaim := { program := "ytfcjmhihheeifaa", sum := "fcd636be66d25293bfa08396374e241a95b26b51fb1e11abf7033e67cf8351c9", func := "acequia/acequialaw08.FifoFrom", spec := "fifoFrom", unfollowed := true, recurses := true, plainKeys := false, apart := false, narrowed := true }
def FifoFromUptoSaid : Prop := fifoFromUptoRow.holds Try.pinned (OpenSpec.upto fifoFromSpec)

/-- 'acequialaw08.FifoGreat', WHERE WHAT IT READS IS OF BULK AT MOST 1048576: true; the input reads as it did. -/
def fifoGreatUptoRow : OpenClaim := { program := "ytfcjmhihheeifaa", sum := "fcd636be66d25293bfa08396374e241a95b26b51fb1e11abf7033e67cf8351c9", func := "acequia/acequialaw08.FifoGreat", spec := "fifoGreat", unfollowed := true, recurses := true, plainKeys := false, apart := false, narrowed := true }
def FifoGreatUptoSaid : Prop := fifoGreatUptoRow.holds Try.pinned (OpenSpec.upto fifoGreatSpec)

end Rows
end Go.Proofs.Ytfcjmhihheeifaa
