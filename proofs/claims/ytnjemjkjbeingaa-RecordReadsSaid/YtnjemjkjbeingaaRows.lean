/-
  No cell of these rows narrows 'for every input' (looked for: loops, veiled, ifaces, maps, wideKeys, modest, calm, conditions, laid).
  DERIVED. THE GIVEN ROWS OF THIS SEAT. 6 by the template 'for every input the law returns true; each argument reads behind the call as it read before'; 0 by the template 'total and deterministic' (their statements: YtnjemjkjbeingaaTotals.lean).
  GIVEN WITH THE SEED: the statements are not yours to turn. If you find one false, say at which input.
  Laid BY PROGRAM, IN A SANDBOX (cutbox-rows.mjs): the forced cells as the released guide's own fill.sh prints them over the translation d16977bbac10a8b8… (all of the seat's roots in one cut). By AI agents, Wed Nov 11 2026. No macro, syntax, notation, axiom, sorry.
-/
import Derived.Test.YtnjemjkjbeingaaChecked
import GoSem.Claim
import GoSem.ClaimJoined
import GoSem.ClaimMapViews
import Derived.JoinedTies
import Derived.KernelRfl
namespace Go.Proofs.Ytnjemjkjbeingaa
/- THE CELL 'sum', in the pinned program and in every row, IS THE sha256 OF THE DUMP (.gsa) THAT YtnjemjkjbeingaaProg.lean LOADS. Nothing in Lean hashes anything: it is a label: what it is worth is what the hold of that sum in a sandbox is worth. -/
noncomputable def Try.pinned : Pinned := { name := "ytnjemjkjbeingaa", sum := "d16977bbac10a8b8e8a40fb175a542b3886a2e2ebde75c4051b41fbe78da767b", checked := Try.checked }
namespace Rows
def none {H : Type} : Left H := { results := [], args := [] }

/-- 'spindlelaw08.RecordWrites': WHATEVER THE INPUT: true; the input reads as it did. -/
def recordWritesSpec : ChangeSpec := { name := "recordWrites", fn := fun _ => fun
  | [d1, d2, d3] => { results := [.lit (.bool true)], args := [d1, d2, d3] }
  | _ => none }
def recordWritesRow : OpenClaim := { program := "ytnjemjkjbeingaa", sum := "d16977bbac10a8b8e8a40fb175a542b3886a2e2ebde75c4051b41fbe78da767b", func := "spindle/spindlelaw08.RecordWrites", spec := "recordWrites", unfollowed := true, recurses := true, apart := false }
def RecordWritesSaid : Prop := recordWritesRow.holds Try.pinned (OpenSpec.ofChange recordWritesSpec)

/-- ITS FALSE NEIGHBOUR: 'it returns false'. Refute it at one input. -/
def recordWritesWrong : ChangeSpec := { name := "recordWrites", fn := fun _ => fun
  | [d1, d2, d3] => { results := [.lit (.bool false)], args := [d1, d2, d3] }
  | _ => none }
def RecordWritesWrongFalsely : Prop := recordWritesRow.holds Try.pinned (OpenSpec.ofChange recordWritesWrong)

/-- 'spindlelaw08.RecordReads': WHATEVER THE INPUT: true; the input reads as it did. -/
def recordReadsSpec : ChangeSpec := { name := "recordReads", fn := fun _ => fun
  | [d] => { results := [.lit (.bool true)], args := [d] }
  | _ => none }
def recordReadsRow : OpenClaim := { program := "ytnjemjkjbeingaa", sum := "d16977bbac10a8b8e8a40fb175a542b3886a2e2ebde75c4051b41fbe78da767b", func := "spindle/spindlelaw08.RecordReads", spec := "recordReads", unfollowed := true, recurses := true, apart := false }
def RecordReadsSaid : Prop := recordReadsRow.holds Try.pinned (OpenSpec.ofChange recordReadsSpec)

/-- ITS FALSE NEIGHBOUR: 'it returns false'. Refute it at one input. -/
def recordReadsWrong : ChangeSpec := { name := "recordReads", fn := fun _ => fun
  | [d] => { results := [.lit (.bool false)], args := [d] }
  | _ => none }
def RecordReadsWrongFalsely : Prop := recordReadsRow.holds Try.pinned (OpenSpec.ofChange recordReadsWrong)

/-- 'spindlelaw08.RecordEscapes': WHATEVER THE INPUT: true; the input reads as it did. -/
def recordEscapesSpec : ChangeSpec := { name := "recordEscapes", fn := fun _ => fun
  | [d1, d2] => { results := [.lit (.bool true)], args := [d1, d2] }
  | _ => none }
def recordEscapesRow : OpenClaim := { program := "ytnjemjkjbeingaa", sum := "d16977bbac10a8b8e8a40fb175a542b3886a2e2ebde75c4051b41fbe78da767b", func := "spindle/spindlelaw08.RecordEscapes", spec := "recordEscapes", unfollowed := true, recurses := true, apart := false }
def RecordEscapesSaid : Prop := recordEscapesRow.holds Try.pinned (OpenSpec.ofChange recordEscapesSpec)

/-- ITS FALSE NEIGHBOUR: 'it returns false'. Refute it at one input. -/
def recordEscapesWrong : ChangeSpec := { name := "recordEscapes", fn := fun _ => fun
  | [d1, d2] => { results := [.lit (.bool false)], args := [d1, d2] }
  | _ => none }
def RecordEscapesWrongFalsely : Prop := recordEscapesRow.holds Try.pinned (OpenSpec.ofChange recordEscapesWrong)

/-- 'spindlelaw08.RecordTurned': WHATEVER THE INPUT: true; the input reads as it did. -/
def recordTurnedSpec : ChangeSpec := { name := "recordTurned", fn := fun _ => fun
  | [d1, d2, d3, d4, d5] => { results := [.lit (.bool true)], args := [d1, d2, d3, d4, d5] }
  | _ => none }
def recordTurnedRow : OpenClaim := { program := "ytnjemjkjbeingaa", sum := "d16977bbac10a8b8e8a40fb175a542b3886a2e2ebde75c4051b41fbe78da767b", func := "spindle/spindlelaw08.RecordTurned", spec := "recordTurned", unfollowed := true, recurses := true, apart := false }
def RecordTurnedSaid : Prop := recordTurnedRow.holds Try.pinned (OpenSpec.ofChange recordTurnedSpec)

/-- ITS FALSE NEIGHBOUR: 'it returns false'. Refute it at one input. -/
def recordTurnedWrong : ChangeSpec := { name := "recordTurned", fn := fun _ => fun
  | [d1, d2, d3, d4, d5] => { results := [.lit (.bool false)], args := [d1, d2, d3, d4, d5] }
  | _ => none }
def RecordTurnedWrongFalsely : Prop := recordTurnedRow.holds Try.pinned (OpenSpec.ofChange recordTurnedWrong)

/-- 'spindlelaw08.RecordApart': WHATEVER THE INPUT: true; the input reads as it did. -/
def recordApartSpec : ChangeSpec := { name := "recordApart", fn := fun _ => fun
  | [d1, d2, d3, d4] => { results := [.lit (.bool true)], args := [d1, d2, d3, d4] }
  | _ => none }
def recordApartRow : OpenClaim := { program := "ytnjemjkjbeingaa", sum := "d16977bbac10a8b8e8a40fb175a542b3886a2e2ebde75c4051b41fbe78da767b", func := "spindle/spindlelaw08.RecordApart", spec := "recordApart", unfollowed := true, recurses := true, apart := false }
def RecordApartSaid : Prop := recordApartRow.holds Try.pinned (OpenSpec.ofChange recordApartSpec)

/-- ITS FALSE NEIGHBOUR: 'it returns false'. Refute it at one input. -/
def recordApartWrong : ChangeSpec := { name := "recordApart", fn := fun _ => fun
  | [d1, d2, d3, d4] => { results := [.lit (.bool false)], args := [d1, d2, d3, d4] }
  | _ => none }
def RecordApartWrongFalsely : Prop := recordApartRow.holds Try.pinned (OpenSpec.ofChange recordApartWrong)

/-- 'spindlelaw08.RecordLogged': WHATEVER THE INPUT: true; the input reads as it did. -/
def recordLoggedSpec : ChangeSpec := { name := "recordLogged", fn := fun _ => fun
  | [d1, d2] => { results := [.lit (.bool true)], args := [d1, d2] }
  | _ => none }
def recordLoggedRow : OpenClaim := { program := "ytnjemjkjbeingaa", sum := "d16977bbac10a8b8e8a40fb175a542b3886a2e2ebde75c4051b41fbe78da767b", func := "spindle/spindlelaw08.RecordLogged", spec := "recordLogged", unfollowed := true, recurses := true, apart := false }
def RecordLoggedSaid : Prop := recordLoggedRow.holds Try.pinned (OpenSpec.ofChange recordLoggedSpec)

/-- ITS FALSE NEIGHBOUR: 'it returns false'. Refute it at one input. -/
def recordLoggedWrong : ChangeSpec := { name := "recordLogged", fn := fun _ => fun
  | [d1, d2] => { results := [.lit (.bool false)], args := [d1, d2] }
  | _ => none }
def RecordLoggedWrongFalsely : Prop := recordLoggedRow.holds Try.pinned (OpenSpec.ofChange recordLoggedWrong)

/- THE SECOND FORM. 'bulk': how many values and letters a reading holds, each counted each time it is reached (what is shared counts as often as it is met; a slice's spare places count too). A statement '..UptoSaid' is the law's where the arguments, and the package variables that the reading takes, are together of bulk at most 1048576: NARROWER than '..Said'. Prove '..Said' where nothing that the law and all that it calls make is longer than what came in: it says more and counts as full. Else prove '..UptoSaid'. A law counts once. -/
mutual
def uptoBulk {H : Type} : DataW H → Nat
  | .lit (.string bytes) => bytes.length + 1
  | .lit _ => 1
  | .nil => 1
  | .ptr d => uptoBulk d + 1
  | .slice elems spare => uptoBulkAll elems + uptoBulkAll spare + 1
  | .agg parts => uptoBulkAll parts + 1
  | .iface _ d => uptoBulk d + 1
  | .map entries => uptoBulkEntries entries + 1
  | .held _ => 1
def uptoBulkAll {H : Type} : List (DataW H) → Nat
  | [] => 0
  | d :: r => uptoBulk d + uptoBulkAll r
def uptoBulkEntries {H : Type} : List (Lit × DataW H) → Nat
  | [] => 0
  | x :: r => uptoBulkEntry x + uptoBulkEntries r
def uptoBulkEntry {H : Type} : Lit × DataW H → Nat
  | (.string bytes, d) => bytes.length + uptoBulk d + 1
  | (_, d) => uptoBulk d + 1
 end
def uptoSmall : (H : Type) → List (DataW H) → Bool := fun _ ds => decide (uptoBulkAll ds ≤ 1048576)
def OpenSpec.upto (s : _root_.Go.ChangeSpec) : _root_.Go.OpenSpec := { _root_.Go.OpenSpec.ofChange s with cond := some uptoSmall }

/-- 'spindlelaw08.RecordWrites', WHERE WHAT IT READS IS OF BULK AT MOST 1048576: true; the input reads as it did. -/
def recordWritesUptoRow : OpenClaim := { program := "ytnjemjkjbeingaa", sum := "d16977bbac10a8b8e8a40fb175a542b3886a2e2ebde75c4051b41fbe78da767b", func := "spindle/spindlelaw08.RecordWrites", spec := "recordWrites", unfollowed := true, recurses := true, apart := false, narrowed := true }
def RecordWritesUptoSaid : Prop := recordWritesUptoRow.holds Try.pinned (OpenSpec.upto recordWritesSpec)

/-- 'spindlelaw08.RecordReads', WHERE WHAT IT READS IS OF BULK AT MOST 1048576: true; the input reads as it did. -/
def recordReadsUptoRow : OpenClaim := { program := "ytnjemjkjbeingaa", sum := "d16977bbac10a8b8e8a40fb175a542b3886a2e2ebde75c4051b41fbe78da767b", func := "spindle/spindlelaw08.RecordReads", spec := "recordReads", unfollowed := true, recurses := true, apart := false, narrowed := true }
def RecordReadsUptoSaid : Prop := recordReadsUptoRow.holds Try.pinned (OpenSpec.upto recordReadsSpec)

/-- 'spindlelaw08.RecordEscapes', WHERE WHAT IT READS IS OF BULK AT MOST 1048576: true; the input reads as it did. -/
def recordEscapesUptoRow : OpenClaim := { program := "ytnjemjkjbeingaa", sum := "d16977bbac10a8b8e8a40fb175a542b3886a2e2ebde75c4051b41fbe78da767b", func := "spindle/spindlelaw08.RecordEscapes", spec := "recordEscapes", unfollowed := true, recurses := true, apart := false, narrowed := true }
def RecordEscapesUptoSaid : Prop := recordEscapesUptoRow.holds Try.pinned (OpenSpec.upto recordEscapesSpec)

/-- 'spindlelaw08.RecordTurned', WHERE WHAT IT READS IS OF BULK AT MOST 1048576: true; the input reads as it did. -/
def recordTurnedUptoRow : OpenClaim := { program := "ytnjemjkjbeingaa", sum := "d16977bbac10a8b8e8a40fb175a542b3886a2e2ebde75c4051b41fbe78da767b", func := "spindle/spindlelaw08.RecordTurned", spec := "recordTurned", unfollowed := true, recurses := true, apart := false, narrowed := true }
def RecordTurnedUptoSaid : Prop := recordTurnedUptoRow.holds Try.pinned (OpenSpec.upto recordTurnedSpec)

/-- 'spindlelaw08.RecordApart', WHERE WHAT IT READS IS OF BULK AT MOST 1048576: true; the input reads as it did. -/
def recordApartUptoRow : OpenClaim := { program := "ytnjemjkjbeingaa", sum := "d16977bbac10a8b8e8a40fb175a542b3886a2e2ebde75c4051b41fbe78da767b", func := "spindle/spindlelaw08.RecordApart", spec := "recordApart", unfollowed := true, recurses := true, apart := false, narrowed := true }
def RecordApartUptoSaid : Prop := recordApartUptoRow.holds Try.pinned (OpenSpec.upto recordApartSpec)

/-- 'spindlelaw08.RecordLogged', WHERE WHAT IT READS IS OF BULK AT MOST 1048576: true; the input reads as it did. -/
def recordLoggedUptoRow : OpenClaim := { program := "ytnjemjkjbeingaa", sum := "d16977bbac10a8b8e8a40fb175a542b3886a2e2ebde75c4051b41fbe78da767b", func := "spindle/spindlelaw08.RecordLogged", spec := "recordLogged", unfollowed := true, recurses := true, apart := false, narrowed := true }
def RecordLoggedUptoSaid : Prop := recordLoggedUptoRow.holds Try.pinned (OpenSpec.upto recordLoggedSpec)

end Rows
end Go.Proofs.Ytnjemjkjbeingaa
