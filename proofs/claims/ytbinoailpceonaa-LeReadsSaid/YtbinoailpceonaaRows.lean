/-
  No cell of these rows narrows 'for every input' (looked for: loops, veiled, ifaces, maps, wideKeys, modest, calm, conditions, laid).
  DERIVED. THE GIVEN ROWS OF THIS SEAT. 7 by the template 'for every input the law returns true; each argument reads behind the call as it read before'; 0 by the template 'total and deterministic' (their statements: YtbinoailpceonaaTotals.lean).
  GIVEN WITH THE SEED: the statements are not yours to turn. If you find one false, say at which input.
  Laid BY PROGRAM, IN A SANDBOX (cutbox-rows.mjs): the forced cells as the released guide's own fill.sh prints them over the translation bac7a077ab5c0b17… (all of the seat's roots in one cut). By AI agents, Wed Nov 11 2026. No macro, syntax, notation, axiom, sorry.
-/
import Derived.Test.YtbinoailpceonaaChecked
import GoSem.Claim
import GoSem.ClaimJoined
import GoSem.ClaimMapViews
import Derived.JoinedTies
import Derived.KernelRfl
namespace Go.Proofs.Ytbinoailpceonaa
/- THE CELL 'sum', in the pinned program and in every row, IS THE sha256 OF THE DUMP (.gsa) THAT YtbinoailpceonaaProg.lean LOADS. Nothing in Lean hashes anything: it is a label: what it is worth is what the hold of that sum in a sandbox is worth. -/
noncomputable def Try.pinned : Pinned := { name := "ytbinoailpceonaa", sum := "bac7a077ab5c0b17b78e354bae09f2a0da4894ceae8f4965727a980afd2a1dd0", checked := Try.checked }
namespace Rows
def none {H : Type} : Left H := { results := [], args := [] }

/-- 'spindlelaw01.LePacks': WHATEVER THE INPUT: true; the input reads as it did. -/
def lePacksSpec : ChangeSpec := { name := "lePacks", fn := fun _ => fun
  | [d1, d2] => { results := [.lit (.bool true)], args := [d1, d2] }
  | _ => none }
def lePacksRow : OpenClaim := { program := "ytbinoailpceonaa", sum := "bac7a077ab5c0b17b78e354bae09f2a0da4894ceae8f4965727a980afd2a1dd0", func := "spindle/spindlelaw01.LePacks", spec := "lePacks", recurses := true, apart := false }
def LePacksSaid : Prop := lePacksRow.holds Try.pinned (OpenSpec.ofChange lePacksSpec)

/-- ITS FALSE NEIGHBOUR: 'it returns false'. Refute it at one input. -/
def lePacksWrong : ChangeSpec := { name := "lePacks", fn := fun _ => fun
  | [d1, d2] => { results := [.lit (.bool false)], args := [d1, d2] }
  | _ => none }
def LePacksWrongFalsely : Prop := lePacksRow.holds Try.pinned (OpenSpec.ofChange lePacksWrong)

/-- 'spindlelaw01.LeReads': WHATEVER THE INPUT: true; the input reads as it did. -/
def leReadsSpec : ChangeSpec := { name := "leReads", fn := fun _ => fun
  | [d1, d2] => { results := [.lit (.bool true)], args := [d1, d2] }
  | _ => none }
def leReadsRow : OpenClaim := { program := "ytbinoailpceonaa", sum := "bac7a077ab5c0b17b78e354bae09f2a0da4894ceae8f4965727a980afd2a1dd0", func := "spindle/spindlelaw01.LeReads", spec := "leReads", recurses := true, apart := false }
def LeReadsSaid : Prop := leReadsRow.holds Try.pinned (OpenSpec.ofChange leReadsSpec)

/-- ITS FALSE NEIGHBOUR: 'it returns false'. Refute it at one input. -/
def leReadsWrong : ChangeSpec := { name := "leReads", fn := fun _ => fun
  | [d1, d2] => { results := [.lit (.bool false)], args := [d1, d2] }
  | _ => none }
def LeReadsWrongFalsely : Prop := leReadsRow.holds Try.pinned (OpenSpec.ofChange leReadsWrong)

/-- 'spindlelaw01.LeBack': WHATEVER THE INPUT: true; the input reads as it did. -/
def leBackSpec : ChangeSpec := { name := "leBack", fn := fun _ => fun
  | [d1, d2] => { results := [.lit (.bool true)], args := [d1, d2] }
  | _ => none }
def leBackRow : OpenClaim := { program := "ytbinoailpceonaa", sum := "bac7a077ab5c0b17b78e354bae09f2a0da4894ceae8f4965727a980afd2a1dd0", func := "spindle/spindlelaw01.LeBack", spec := "leBack", apart := false }
def LeBackSaid : Prop := leBackRow.holds Try.pinned (OpenSpec.ofChange leBackSpec)

/-- ITS FALSE NEIGHBOUR: 'it returns false'. Refute it at one input. -/
def leBackWrong : ChangeSpec := { name := "leBack", fn := fun _ => fun
  | [d1, d2] => { results := [.lit (.bool false)], args := [d1, d2] }
  | _ => none }
def LeBackWrongFalsely : Prop := leBackRow.holds Try.pinned (OpenSpec.ofChange leBackWrong)

/-- 'spindlelaw01.LeHalves': WHATEVER THE INPUT: true; the input reads as it did. -/
def leHalvesSpec : ChangeSpec := { name := "leHalves", fn := fun _ => fun
  | [d] => { results := [.lit (.bool true)], args := [d] }
  | _ => none }
def leHalvesRow : OpenClaim := { program := "ytbinoailpceonaa", sum := "bac7a077ab5c0b17b78e354bae09f2a0da4894ceae8f4965727a980afd2a1dd0", func := "spindle/spindlelaw01.LeHalves", spec := "leHalves", apart := false }
def LeHalvesSaid : Prop := leHalvesRow.holds Try.pinned (OpenSpec.ofChange leHalvesSpec)

/-- ITS FALSE NEIGHBOUR: 'it returns false'. Refute it at one input. -/
def leHalvesWrong : ChangeSpec := { name := "leHalves", fn := fun _ => fun
  | [d] => { results := [.lit (.bool false)], args := [d] }
  | _ => none }
def LeHalvesWrongFalsely : Prop := leHalvesRow.holds Try.pinned (OpenSpec.ofChange leHalvesWrong)

/-- 'spindlelaw01.LePrefix': WHATEVER THE INPUT: true; the input reads as it did. -/
def lePrefixSpec : ChangeSpec := { name := "lePrefix", fn := fun _ => fun
  | [d1, d2, d3] => { results := [.lit (.bool true)], args := [d1, d2, d3] }
  | _ => none }
def lePrefixRow : OpenClaim := { program := "ytbinoailpceonaa", sum := "bac7a077ab5c0b17b78e354bae09f2a0da4894ceae8f4965727a980afd2a1dd0", func := "spindle/spindlelaw01.LePrefix", spec := "lePrefix", apart := false }
def LePrefixSaid : Prop := lePrefixRow.holds Try.pinned (OpenSpec.ofChange lePrefixSpec)

/-- ITS FALSE NEIGHBOUR: 'it returns false'. Refute it at one input. -/
def lePrefixWrong : ChangeSpec := { name := "lePrefix", fn := fun _ => fun
  | [d1, d2, d3] => { results := [.lit (.bool false)], args := [d1, d2, d3] }
  | _ => none }
def LePrefixWrongFalsely : Prop := lePrefixRow.holds Try.pinned (OpenSpec.ofChange lePrefixWrong)

/-- 'spindlelaw01.LeStays': WHATEVER THE INPUT: true; the input reads as it did. -/
def leStaysSpec : ChangeSpec := { name := "leStays", fn := fun _ => fun
  | [d1, d2, d3, d4] => { results := [.lit (.bool true)], args := [d1, d2, d3, d4] }
  | _ => none }
def leStaysRow : OpenClaim := { program := "ytbinoailpceonaa", sum := "bac7a077ab5c0b17b78e354bae09f2a0da4894ceae8f4965727a980afd2a1dd0", func := "spindle/spindlelaw01.LeStays", spec := "leStays", apart := false }
def LeStaysSaid : Prop := leStaysRow.holds Try.pinned (OpenSpec.ofChange leStaysSpec)

/-- ITS FALSE NEIGHBOUR: 'it returns false'. Refute it at one input. -/
def leStaysWrong : ChangeSpec := { name := "leStays", fn := fun _ => fun
  | [d1, d2, d3, d4] => { results := [.lit (.bool false)], args := [d1, d2, d3, d4] }
  | _ => none }
def LeStaysWrongFalsely : Prop := leStaysRow.holds Try.pinned (OpenSpec.ofChange leStaysWrong)

/-- 'spindlelaw01.LeAlone': WHATEVER THE INPUT: true; the input reads as it did. -/
def leAloneSpec : ChangeSpec := { name := "leAlone", fn := fun _ => fun
  | [d1, d2, d3] => { results := [.lit (.bool true)], args := [d1, d2, d3] }
  | _ => none }
def leAloneRow : OpenClaim := { program := "ytbinoailpceonaa", sum := "bac7a077ab5c0b17b78e354bae09f2a0da4894ceae8f4965727a980afd2a1dd0", func := "spindle/spindlelaw01.LeAlone", spec := "leAlone", apart := false }
def LeAloneSaid : Prop := leAloneRow.holds Try.pinned (OpenSpec.ofChange leAloneSpec)

/-- ITS FALSE NEIGHBOUR: 'it returns false'. Refute it at one input. -/
def leAloneWrong : ChangeSpec := { name := "leAlone", fn := fun _ => fun
  | [d1, d2, d3] => { results := [.lit (.bool false)], args := [d1, d2, d3] }
  | _ => none }
def LeAloneWrongFalsely : Prop := leAloneRow.holds Try.pinned (OpenSpec.ofChange leAloneWrong)

/- THE SECOND FORM. 'bulk': how many values and letters a reading holds, each counted each time it is reached (what is shared counts as often as it is met; a slice's spare places count too). A statement '..UptoSaid' is the law's where the arguments, and the package variables that the reading takes, are together of bulk at most 1048576: NARROWER than '..Said'. Prove '..Said' where nothing that the law and all that it calls make is longer than what came in: it says more and counts as full. Else prove '..UptoSaid'. A law counts once. -/
mutual
def uptoBulk {H : Type} : DataW H → Nat
  | .lit (.string bytes) => bytes.length + 1
  | .lit _ => 1
  | .nil => 1
  | .ptr d => uptoBulk d + 1
  | .slice elems spare => uptoBulkAll elems + uptoBulkAll spare + 1
  | .agg parts => uptoBulkAll parts + 1
  | .iface _ d => uptoBulk d + 1
  | .map entries => uptoBulkEntries entries + 1
  | .held _ => 1
def uptoBulkAll {H : Type} : List (DataW H) → Nat
  | [] => 0
  | d :: r => uptoBulk d + uptoBulkAll r
def uptoBulkEntries {H : Type} : List (Lit × DataW H) → Nat
  | [] => 0
  | x :: r => uptoBulkEntry x + uptoBulkEntries r
def uptoBulkEntry {H : Type} : Lit × DataW H → Nat
  | (.string bytes, d) => bytes.length + uptoBulk d + 1
  | (_, d) => uptoBulk d + 1
 end
def uptoSmall : (H : Type) → List (DataW H) → Bool := fun _ ds => decide (uptoBulkAll ds ≤ 1048576)
def OpenSpec.upto (s : _root_.Go.ChangeSpec) : _root_.Go.OpenSpec := { _root_.Go.OpenSpec.ofChange s with cond := some uptoSmall }

/-- 'spindlelaw01.LePacks', WHERE WHAT IT READS IS OF BULK AT MOST 1048576: true; the input reads as it did. -/
def lePacksUptoRow : OpenClaim := { program := "ytbinoailpceonaa", sum := "bac7a077ab5c0b17b78e354bae09f2a0da4894ceae8f4965727a980afd2a1dd0", func := "spindle/spindlelaw01.LePacks", spec := "lePacks", recurses := true, apart := false, narrowed := true }
def LePacksUptoSaid : Prop := lePacksUptoRow.holds Try.pinned (OpenSpec.upto lePacksSpec)

/-- 'spindlelaw01.LeReads', WHERE WHAT IT READS IS OF BULK AT MOST 1048576: true; the input reads as it did. -/
def leReadsUptoRow : OpenClaim := { program := "ytbinoailpceonaa", sum := "bac7a077ab5c0b17b78e354bae09f2a0da4894ceae8f4965727a980afd2a1dd0", func := "spindle/spindlelaw01.LeReads", spec := "leReads", recurses := true, apart := false, narrowed := true }
def LeReadsUptoSaid : Prop := leReadsUptoRow.holds Try.pinned (OpenSpec.upto leReadsSpec)

/-- 'spindlelaw01.LeBack', WHERE WHAT IT READS IS OF BULK AT MOST 1048576: true; the input reads as it did. -/
def leBackUptoRow : OpenClaim := { program := "ytbinoailpceonaa", sum := "bac7a077ab5c0b17b78e354bae09f2a0da4894ceae8f4965727a980afd2a1dd0", func := "spindle/spindlelaw01.LeBack", spec := "leBack", apart := false, narrowed := true }
def LeBackUptoSaid : Prop := leBackUptoRow.holds Try.pinned (OpenSpec.upto leBackSpec)

/-- 'spindlelaw01.LeHalves', WHERE WHAT IT READS IS OF BULK AT MOST 1048576: true; the input reads as it did. -/
def leHalvesUptoRow : OpenClaim := { program := "ytbinoailpceonaa", sum := "bac7a077ab5c0b17b78e354bae09f2a0da4894ceae8f4965727a980afd2a1dd0", func := "spindle/spindlelaw01.LeHalves", spec := "leHalves", apart := false, narrowed := true }
def LeHalvesUptoSaid : Prop := leHalvesUptoRow.holds Try.pinned (OpenSpec.upto leHalvesSpec)

/-- 'spindlelaw01.LePrefix', WHERE WHAT IT READS IS OF BULK AT MOST 1048576: true; the input reads as it did. -/
def lePrefixUptoRow : OpenClaim := { program := "ytbinoailpceonaa", sum := "bac7a077ab5c0b17b78e354bae09f2a0da4894ceae8f4965727a980afd2a1dd0", func := "spindle/spindlelaw01.LePrefix", spec := "lePrefix", apart := false, narrowed := true }
def LePrefixUptoSaid : Prop := lePrefixUptoRow.holds Try.pinned (OpenSpec.upto lePrefixSpec)

/-- 'spindlelaw01.LeStays', WHERE WHAT IT READS IS OF BULK AT MOST 1048576: true; the input reads as it did. -/
def leStaysUptoRow : OpenClaim := { program := "ytbinoailpceonaa", sum := "bac7a077ab5c0b17b78e354bae09f2a0da4894ceae8f4965727a980afd2a1dd0", func := "spindle/spindlelaw01.LeStays", spec := "leStays", apart := false, narrowed := true }
def LeStaysUptoSaid : Prop := leStaysUptoRow.holds Try.pinned (OpenSpec.upto leStaysSpec)

/-- 'spindlelaw01.LeAlone', WHERE WHAT IT READS IS OF BULK AT MOST 1048576: true; the input reads as it did. -/
def leAloneUptoRow : OpenClaim := { program := "ytbinoailpceonaa", sum := "bac7a077ab5c0b17b78e354bae09f2a0da4894ceae8f4965727a980afd2a1dd0", func := "spindle/spindlelaw01.LeAlone", spec := "leAlone", apart := false, narrowed := true }
def LeAloneUptoSaid : Prop := leAloneUptoRow.holds Try.pinned (OpenSpec.upto leAloneSpec)

end Rows
end Go.Proofs.Ytbinoailpceonaa
