/-
  No cell of these rows narrows 'for every input' (looked for: loops, veiled, ifaces, maps, wideKeys, modest, calm, conditions, laid).
  DERIVED. THE GIVEN ROWS OF THIS SEAT. 9 by the template 'for every input the law returns true; each argument reads behind the call as it read before'; 0 by the template 'total and deterministic' (their statements: YtaciamnfkidmfaaTotals.lean).
  GIVEN WITH THE SEED: the statements are not yours to turn. If you find one false, say at which input.
  Laid BY PROGRAM, IN A SANDBOX (cutbox-rows.mjs): the forced cells as the released guide's own fill.sh prints them over the translation eda52b601e8b2d96… (all of the seat's roots in one cut). By AI agents, Wed Nov 11 2026. No macro, syntax, notation, axiom, sorry.
-/
import Derived.Test.YtaciamnfkidmfaaChecked
import GoSem.Claim
import GoSem.ClaimJoined
import GoSem.ClaimMapViews
import Derived.JoinedTies
import Derived.KernelRfl
namespace Go.Proofs.Ytaciamnfkidmfaa
/- THE CELL 'sum', in the pinned program and in every row, IS THE sha256 OF THE DUMP (.gsa) THAT YtaciamnfkidmfaaProg.lean LOADS. Nothing in Lean hashes anything: it is a label: what it is worth is what the hold of that sum in a sandbox is worth. -/
noncomputable def Try.pinned : Pinned := { name := "ytaciamnfkidmfaa", sum := "eda52b601e8b2d96f75f24b6ec6d5b34aebd7810222eb388ee909d43a8ec38f1", checked := Try.checked }
namespace Rows
def none {H : Type} : Left H := { results := [], args := [] }

/-- 'spindlelaw03.XorSums': WHATEVER THE INPUT: true; the input reads as it did. -/
def xorSumsSpec : ChangeSpec := { name := "xorSums", fn := fun _ => fun
  | [d] => { results := [.lit (.bool true)], args := [d] }
  | _ => none }
def xorSumsRow : OpenClaim := { program := "ytaciamnfkidmfaa", sum := "eda52b601e8b2d96f75f24b6ec6d5b34aebd7810222eb388ee909d43a8ec38f1", func := "spindle/spindlelaw03.XorSums", spec := "xorSums", unfollowed := true, recurses := true, apart := false }
def XorSumsSaid : Prop := xorSumsRow.holds Try.pinned (OpenSpec.ofChange xorSumsSpec)

/-- ITS FALSE NEIGHBOUR: 'it returns false'. Refute it at one input. -/
def xorSumsWrong : ChangeSpec := { name := "xorSums", fn := fun _ => fun
  | [d] => { results := [.lit (.bool false)], args := [d] }
  | _ => none }
def XorSumsWrongFalsely : Prop := xorSumsRow.holds Try.pinned (OpenSpec.ofChange xorSumsWrong)

/-- 'spindlelaw03.XorPatches': WHATEVER THE INPUT: true; the input reads as it did. -/
def xorPatchesSpec : ChangeSpec := { name := "xorPatches", fn := fun _ => fun
  | [d1, d2, d3] => { results := [.lit (.bool true)], args := [d1, d2, d3] }
  | _ => none }
def xorPatchesRow : OpenClaim := { program := "ytaciamnfkidmfaa", sum := "eda52b601e8b2d96f75f24b6ec6d5b34aebd7810222eb388ee909d43a8ec38f1", func := "spindle/spindlelaw03.XorPatches", spec := "xorPatches", unfollowed := true, recurses := true, apart := false }
def XorPatchesSaid : Prop := xorPatchesRow.holds Try.pinned (OpenSpec.ofChange xorPatchesSpec)

/-- ITS FALSE NEIGHBOUR: 'it returns false'. Refute it at one input. -/
def xorPatchesWrong : ChangeSpec := { name := "xorPatches", fn := fun _ => fun
  | [d1, d2, d3] => { results := [.lit (.bool false)], args := [d1, d2, d3] }
  | _ => none }
def XorPatchesWrongFalsely : Prop := xorPatchesRow.holds Try.pinned (OpenSpec.ofChange xorPatchesWrong)

/-- 'spindlelaw03.XorMissing': WHATEVER THE INPUT: true; the input reads as it did. -/
def xorMissingSpec : ChangeSpec := { name := "xorMissing", fn := fun _ => fun
  | [d1, d2] => { results := [.lit (.bool true)], args := [d1, d2] }
  | _ => none }
def xorMissingRow : OpenClaim := { program := "ytaciamnfkidmfaa", sum := "eda52b601e8b2d96f75f24b6ec6d5b34aebd7810222eb388ee909d43a8ec38f1", func := "spindle/spindlelaw03.XorMissing", spec := "xorMissing", unfollowed := true, recurses := true, apart := false }
def XorMissingSaid : Prop := xorMissingRow.holds Try.pinned (OpenSpec.ofChange xorMissingSpec)

/-- ITS FALSE NEIGHBOUR: 'it returns false'. Refute it at one input. -/
def xorMissingWrong : ChangeSpec := { name := "xorMissing", fn := fun _ => fun
  | [d1, d2] => { results := [.lit (.bool false)], args := [d1, d2] }
  | _ => none }
def XorMissingWrongFalsely : Prop := xorMissingRow.holds Try.pinned (OpenSpec.ofChange xorMissingWrong)

/-- 'spindlelaw03.XorFirst': WHATEVER THE INPUT: true; the input reads as it did. -/
def xorFirstSpec : ChangeSpec := { name := "xorFirst", fn := fun _ => fun
  | [d1, d2] => { results := [.lit (.bool true)], args := [d1, d2] }
  | _ => none }
def xorFirstRow : OpenClaim := { program := "ytaciamnfkidmfaa", sum := "eda52b601e8b2d96f75f24b6ec6d5b34aebd7810222eb388ee909d43a8ec38f1", func := "spindle/spindlelaw03.XorFirst", spec := "xorFirst", unfollowed := true, recurses := true, apart := false }
def XorFirstSaid : Prop := xorFirstRow.holds Try.pinned (OpenSpec.ofChange xorFirstSpec)

/-- ITS FALSE NEIGHBOUR: 'it returns false'. Refute it at one input. -/
def xorFirstWrong : ChangeSpec := { name := "xorFirst", fn := fun _ => fun
  | [d1, d2] => { results := [.lit (.bool false)], args := [d1, d2] }
  | _ => none }
def XorFirstWrongFalsely : Prop := xorFirstRow.holds Try.pinned (OpenSpec.ofChange xorFirstWrong)

/-- 'spindlelaw03.XorAdds': WHATEVER THE INPUT: true; the input reads as it did. -/
def xorAddsSpec : ChangeSpec := { name := "xorAdds", fn := fun _ => fun
  | [d1, d2] => { results := [.lit (.bool true)], args := [d1, d2] }
  | _ => none }
def xorAddsRow : OpenClaim := { program := "ytaciamnfkidmfaa", sum := "eda52b601e8b2d96f75f24b6ec6d5b34aebd7810222eb388ee909d43a8ec38f1", func := "spindle/spindlelaw03.XorAdds", spec := "xorAdds", unfollowed := true, recurses := true, apart := false }
def XorAddsSaid : Prop := xorAddsRow.holds Try.pinned (OpenSpec.ofChange xorAddsSpec)

/-- ITS FALSE NEIGHBOUR: 'it returns false'. Refute it at one input. -/
def xorAddsWrong : ChangeSpec := { name := "xorAdds", fn := fun _ => fun
  | [d1, d2] => { results := [.lit (.bool false)], args := [d1, d2] }
  | _ => none }
def XorAddsWrongFalsely : Prop := xorAddsRow.holds Try.pinned (OpenSpec.ofChange xorAddsWrong)

/-- 'spindlelaw03.XorSolves': WHATEVER THE INPUT: true; the input reads as it did. -/
def xorSolvesSpec : ChangeSpec := { name := "xorSolves", fn := fun _ => fun
  | [d1, d2, d3] => { results := [.lit (.bool true)], args := [d1, d2, d3] }
  | _ => none }
def xorSolvesRow : OpenClaim := { program := "ytaciamnfkidmfaa", sum := "eda52b601e8b2d96f75f24b6ec6d5b34aebd7810222eb388ee909d43a8ec38f1", func := "spindle/spindlelaw03.XorSolves", spec := "xorSolves", unfollowed := true, recurses := true, apart := false }
def XorSolvesSaid : Prop := xorSolvesRow.holds Try.pinned (OpenSpec.ofChange xorSolvesSpec)

/-- ITS FALSE NEIGHBOUR: 'it returns false'. Refute it at one input. -/
def xorSolvesWrong : ChangeSpec := { name := "xorSolves", fn := fun _ => fun
  | [d1, d2, d3] => { results := [.lit (.bool false)], args := [d1, d2, d3] }
  | _ => none }
def XorSolvesWrongFalsely : Prop := xorSolvesRow.holds Try.pinned (OpenSpec.ofChange xorSolvesWrong)

/-- 'spindlelaw03.XorGroup': WHATEVER THE INPUT: true; the input reads as it did. -/
def xorGroupSpec : ChangeSpec := { name := "xorGroup", fn := fun _ => fun
  | [d1, d2, d3] => { results := [.lit (.bool true)], args := [d1, d2, d3] }
  | _ => none }
def xorGroupRow : OpenClaim := { program := "ytaciamnfkidmfaa", sum := "eda52b601e8b2d96f75f24b6ec6d5b34aebd7810222eb388ee909d43a8ec38f1", func := "spindle/spindlelaw03.XorGroup", spec := "xorGroup", unfollowed := true, recurses := true, apart := false }
def XorGroupSaid : Prop := xorGroupRow.holds Try.pinned (OpenSpec.ofChange xorGroupSpec)

/-- ITS FALSE NEIGHBOUR: 'it returns false'. Refute it at one input. -/
def xorGroupWrong : ChangeSpec := { name := "xorGroup", fn := fun _ => fun
  | [d1, d2, d3] => { results := [.lit (.bool false)], args := [d1, d2, d3] }
  | _ => none }
def XorGroupWrongFalsely : Prop := xorGroupRow.holds Try.pinned (OpenSpec.ofChange xorGroupWrong)

/-- 'spindlelaw03.XorTurns': WHATEVER THE INPUT: true; the input reads as it did. -/
def xorTurnsSpec : ChangeSpec := { name := "xorTurns", fn := fun _ => fun
  | [d1, d2] => { results := [.lit (.bool true)], args := [d1, d2] }
  | _ => none }
def xorTurnsRow : OpenClaim := { program := "ytaciamnfkidmfaa", sum := "eda52b601e8b2d96f75f24b6ec6d5b34aebd7810222eb388ee909d43a8ec38f1", func := "spindle/spindlelaw03.XorTurns", spec := "xorTurns", unfollowed := true, recurses := true, apart := false }
def XorTurnsSaid : Prop := xorTurnsRow.holds Try.pinned (OpenSpec.ofChange xorTurnsSpec)

/-- ITS FALSE NEIGHBOUR: 'it returns false'. Refute it at one input. -/
def xorTurnsWrong : ChangeSpec := { name := "xorTurns", fn := fun _ => fun
  | [d1, d2] => { results := [.lit (.bool false)], args := [d1, d2] }
  | _ => none }
def XorTurnsWrongFalsely : Prop := xorTurnsRow.holds Try.pinned (OpenSpec.ofChange xorTurnsWrong)

/-- 'spindlelaw03.XorTells': WHATEVER THE INPUT: true; the input reads as it did. -/
def xorTellsSpec : ChangeSpec := { name := "xorTells", fn := fun _ => fun
  | [d1, d2] => { results := [.lit (.bool true)], args := [d1, d2] }
  | _ => none }
def xorTellsRow : OpenClaim := { program := "ytaciamnfkidmfaa", sum := "eda52b601e8b2d96f75f24b6ec6d5b34aebd7810222eb388ee909d43a8ec38f1", func := "spindle/spindlelaw03.XorTells", spec := "xorTells", unfollowed := true, recurses := true, apart := false }
def XorTellsSaid : Prop := xorTellsRow.holds Try.pinned (OpenSpec.ofChange xorTellsSpec)

/-- ITS FALSE NEIGHBOUR: 'it returns false'. Refute it at one input. -/
def xorTellsWrong : ChangeSpec := { name := "xorTells", fn := fun _ => fun
  | [d1, d2] => { results := [.lit (.bool false)], args := [d1, d2] }
  | _ => none }
def XorTellsWrongFalsely : Prop := xorTellsRow.holds Try.pinned (OpenSpec.ofChange xorTellsWrong)

/- THE SECOND FORM. 'bulk': how many values and letters a reading holds, each counted each time it is reached (what is shared counts as often as it is met; a slice's spare places count too). A statement '..UptoSaid' is the law's where the arguments, and the package variables that the reading takes, are together of bulk at most 1048576: NARROWER than '..Said'. Prove '..Said' where nothing that the law and all that it calls make is longer than what came in: it says more and counts as full. Else prove '..UptoSaid'. A law counts once. -/
mutual
def uptoBulk {H : Type} : DataW H → Nat
  | .lit (.string bytes) => bytes.length + 1
  | .lit _ => 1
  | .nil => 1
  | .ptr d => uptoBulk d + 1
  | .slice elems spare => uptoBulkAll elems + uptoBulkAll spare + 1
  | .agg parts => uptoBulkAll parts + 1
  | .iface _ d => uptoBulk d + 1
  | .map entries => uptoBulkEntries entries + 1
  | .held _ => 1
def uptoBulkAll {H : Type} : List (DataW H) → Nat
  | [] => 0
  | d :: r => uptoBulk d + uptoBulkAll r
def uptoBulkEntries {H : Type} : List (Lit × DataW H) → Nat
  | [] => 0
  | x :: r => uptoBulkEntry x + uptoBulkEntries r
def uptoBulkEntry {H : Type} : Lit × DataW H → Nat
  | (.string bytes, d) => bytes.length + uptoBulk d + 1
  | (_, d) => uptoBulk d + 1
 end
def uptoSmall : (H : Type) → List (DataW H) → Bool := fun _ ds => decide (uptoBulkAll ds ≤ 1048576)
def OpenSpec.upto (s : _root_.Go.ChangeSpec) : _root_.Go.OpenSpec := { _root_.Go.OpenSpec.ofChange s with cond := some uptoSmall }

/-- 'spindlelaw03.XorSums', WHERE WHAT IT READS IS OF BULK AT MOST 1048576: true; the input reads as it did. -/
def xorSumsUptoRow : OpenClaim := { program := "ytaciamnfkidmfaa", sum := "eda52b601e8b2d96f75f24b6ec6d5b34aebd7810222eb388ee909d43a8ec38f1", func := "spindle/spindlelaw03.XorSums", spec := "xorSums", unfollowed := true, recurses := true, apart := false, narrowed := true }
def XorSumsUptoSaid : Prop := xorSumsUptoRow.holds Try.pinned (OpenSpec.upto xorSumsSpec)

/-- 'spindlelaw03.XorPatches', WHERE WHAT IT READS IS OF BULK AT MOST 1048576: true; the input reads as it did. -/
def xorPatchesUptoRow : OpenClaim := { program := "ytaciamnfkidmfaa", sum := "eda52b601e8b2d96f75f24b6ec6d5b34aebd7810222eb388ee909d43a8ec38f1", func := "spindle/spindlelaw03.XorPatches", spec := "xorPatches", unfollowed := true, recurses := true, apart := false, narrowed := true }
def XorPatchesUptoSaid : Prop := xorPatchesUptoRow.holds Try.pinned (OpenSpec.upto xorPatchesSpec)

/-- 'spindlelaw03.XorMissing', WHERE WHAT IT READS IS OF BULK AT MOST 1048576: true; the input reads as it did. -/
def xorMissingUptoRow : OpenClaim := { program := "ytaciamnfkidmfaa", sum := "eda52b601e8b2d96f75f24b6ec6d5b34aebd7810222eb388ee909d43a8ec38f1", func := "spindle/spindlelaw03.XorMissing", spec := "xorMissing", unfollowed := true, recurses := true, apart := false, narrowed := true }
def XorMissingUptoSaid : Prop := xorMissingUptoRow.holds Try.pinned (OpenSpec.upto xorMissingSpec)

/-- 'spindlelaw03.XorFirst', WHERE WHAT IT READS IS OF BULK AT MOST 1048576: true; the input reads as it did. -/
def xorFirstUptoRow : OpenClaim := { program := "ytaciamnfkidmfaa", sum := "eda52b601e8b2d96f75f24b6ec6d5b34aebd7810222eb388ee909d43a8ec38f1", func := "spindle/spindlelaw03.XorFirst", spec := "xorFirst", unfollowed := true, recurses := true, apart := false, narrowed := true }
def XorFirstUptoSaid : Prop := xorFirstUptoRow.holds Try.pinned (OpenSpec.upto xorFirstSpec)

/-- 'spindlelaw03.XorAdds', WHERE WHAT IT READS IS OF BULK AT MOST 1048576: true; the input reads as it did. -/
def xorAddsUptoRow : OpenClaim := { program := "ytaciamnfkidmfaa", sum := "eda52b601e8b2d96f75f24b6ec6d5b34aebd7810222eb388ee909d43a8ec38f1", func := "spindle/spindlelaw03.XorAdds", spec := "xorAdds", unfollowed := true, recurses := true, apart := false, narrowed := true }
def XorAddsUptoSaid : Prop := xorAddsUptoRow.holds Try.pinned (OpenSpec.upto xorAddsSpec)

/-- 'spindlelaw03.XorSolves', WHERE WHAT IT READS IS OF BULK AT MOST 1048576: true; the input reads as it did. -/
def xorSolvesUptoRow : OpenClaim := { program := "ytaciamnfkidmfaa", sum := "eda52b601e8b2d96f75f24b6ec6d5b34aebd7810222eb388ee909d43a8ec38f1", func := "spindle/spindlelaw03.XorSolves", spec := "xorSolves", unfollowed := true, recurses := true, apart := false, narrowed := true }
def XorSolvesUptoSaid : Prop := xorSolvesUptoRow.holds Try.pinned (OpenSpec.upto xorSolvesSpec)

/-- 'spindlelaw03.XorGroup', WHERE WHAT IT READS IS OF BULK AT MOST 1048576: true; the input reads as it did. -/
def xorGroupUptoRow : OpenClaim := { program := "ytaciamnfkidmfaa", sum := "eda52b601e8b2d96f75f24b6ec6d5b34aebd7810222eb388ee909d43a8ec38f1", func := "spindle/spindlelaw03.XorGroup", spec := "xorGroup", unfollowed := true, recurses := true, apart := false, narrowed := true }
def XorGroupUptoSaid : Prop := xorGroupUptoRow.holds Try.pinned (OpenSpec.upto xorGroupSpec)

/-- 'spindlelaw03.XorTurns', WHERE WHAT IT READS IS OF BULK AT MOST 1048576: true; the input reads as it did. -/
def xorTurnsUptoRow : OpenClaim := { program := "ytaciamnfkidmfaa", sum := "eda52b601e8b2d96f75f24b6ec6d5b34aebd7810222eb388ee909d43a8ec38f1", func := "spindle/spindlelaw03.XorTurns", spec := "xorTurns", unfollowed := true, recurses := true, apart := false, narrowed := true }
def XorTurnsUptoSaid : Prop := xorTurnsUptoRow.holds Try.pinned (OpenSpec.upto xorTurnsSpec)

/-- 'spindlelaw03.XorTells', WHERE WHAT IT READS IS OF BULK AT MOST 1048576: true; the input reads as it did. -/
def xorTellsUptoRow : OpenClaim := { program := "ytaciamnfkidmfaa", sum := "eda52b601e8b2d96f75f24b6ec6d5b34aebd7810222eb388ee909d43a8ec38f1", func := "spindle/spindlelaw03.XorTells", spec := "xorTells", unfollowed := true, recurses := true, apart := false, narrowed := true }
def XorTellsUptoSaid : Prop := xorTellsUptoRow.holds Try.pinned (OpenSpec.upto xorTellsSpec)

end Rows
end Go.Proofs.Ytaciamnfkidmfaa
