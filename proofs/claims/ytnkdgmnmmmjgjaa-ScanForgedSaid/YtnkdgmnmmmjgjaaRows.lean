/-
  No cell of these rows narrows 'for every input' (looked for: loops, veiled, ifaces, maps, wideKeys, modest, calm, conditions, laid).
  DERIVED. THE GIVEN ROWS OF THIS SEAT. 5 by the template 'for every input the law returns true; each argument reads behind the call as it read before'; 0 by the template 'total and deterministic' (their statements: YtnkdgmnmmmjgjaaTotals.lean).
  GIVEN WITH THE SEED: the statements are not yours to turn. If you find one false, say at which input.
  Laid BY PROGRAM, IN A SANDBOX (cutbox-rows.mjs): the forced cells as the released guide's own fill.sh prints them over the translation 8f60ce89c8e1ce1a… (all of the seat's roots in one cut). By AI agents, Wed Nov 11 2026. No macro, syntax, notation, axiom, sorry.
-/
import Derived.Test.YtnkdgmnmmmjgjaaChecked
import GoSem.Claim
import GoSem.ClaimJoined
import GoSem.ClaimMapViews
import Derived.JoinedTies
import Derived.KernelRfl
namespace Go.Proofs.Ytnkdgmnmmmjgjaa
/- THE CELL 'sum', in the pinned program and in every row, IS THE sha256 OF THE DUMP (.gsa) THAT YtnkdgmnmmmjgjaaProg.lean LOADS. Nothing in Lean hashes anything: it is a label: what it is worth is what the hold of that sum in a sandbox is worth. -/
noncomputable def Try.pinned : Pinned := { name := "ytnkdgmnmmmjgjaa", sum := "8f60ce89c8e1ce1ac9874978fafd7728d3450c57f4d5fc71d129230c63690c86", checked := Try.checked }
namespace Rows
def none {H : Type} : Left H := { results := [], args := [] }

/-- 'spindlelaw11.ScanBack': WHATEVER THE INPUT: true; the input reads as it did. -/
def scanBackSpec : ChangeSpec := { name := "scanBack", fn := fun _ => fun
  | [d1, d2, d3, d4, d5, d6] => { results := [.lit (.bool true)], args := [d1, d2, d3, d4, d5, d6] }
  | _ => none }
def scanBackRow : OpenClaim := { program := "ytnkdgmnmmmjgjaa", sum := "8f60ce89c8e1ce1ac9874978fafd7728d3450c57f4d5fc71d129230c63690c86", func := "spindle/spindlelaw11.ScanBack", spec := "scanBack", unfollowed := true, recurses := true, apart := false }
def ScanBackSaid : Prop := scanBackRow.holds Try.pinned (OpenSpec.ofChange scanBackSpec)

/-- ITS FALSE NEIGHBOUR: 'it returns false'. Refute it at one input. -/
def scanBackWrong : ChangeSpec := { name := "scanBack", fn := fun _ => fun
  | [d1, d2, d3, d4, d5, d6] => { results := [.lit (.bool false)], args := [d1, d2, d3, d4, d5, d6] }
  | _ => none }
def ScanBackWrongFalsely : Prop := scanBackRow.holds Try.pinned (OpenSpec.ofChange scanBackWrong)

/-- 'spindlelaw11.ScanForged': WHATEVER THE INPUT: true; the input reads as it did. -/
def scanForgedSpec : ChangeSpec := { name := "scanForged", fn := fun _ => fun
  | [d1, d2] => { results := [.lit (.bool true)], args := [d1, d2] }
  | _ => none }
def scanForgedRow : OpenClaim := { program := "ytnkdgmnmmmjgjaa", sum := "8f60ce89c8e1ce1ac9874978fafd7728d3450c57f4d5fc71d129230c63690c86", func := "spindle/spindlelaw11.ScanForged", spec := "scanForged", unfollowed := true, recurses := true, apart := false }
def ScanForgedSaid : Prop := scanForgedRow.holds Try.pinned (OpenSpec.ofChange scanForgedSpec)

/-- ITS FALSE NEIGHBOUR: 'it returns false'. Refute it at one input. -/
def scanForgedWrong : ChangeSpec := { name := "scanForged", fn := fun _ => fun
  | [d1, d2] => { results := [.lit (.bool false)], args := [d1, d2] }
  | _ => none }
def ScanForgedWrongFalsely : Prop := scanForgedRow.holds Try.pinned (OpenSpec.ofChange scanForgedWrong)

/-- 'spindlelaw11.ScanFrom': WHATEVER THE INPUT: true; the input reads as it did. -/
def scanFromSpec : ChangeSpec := { name := "scanFrom", fn := fun _ => fun
  | [d1, d2, d3, d4, d5] => { results := [.lit (.bool true)], args := [d1, d2, d3, d4, d5] }
  | _ => none }
def scanFromRow : OpenClaim := { program := "ytnkdgmnmmmjgjaa", sum := "8f60ce89c8e1ce1ac9874978fafd7728d3450c57f4d5fc71d129230c63690c86", func := "spindle/spindlelaw11.ScanFrom", spec := "scanFrom", unfollowed := true, recurses := true, apart := false }
def ScanFromSaid : Prop := scanFromRow.holds Try.pinned (OpenSpec.ofChange scanFromSpec)

/-- ITS FALSE NEIGHBOUR: 'it returns false'. Refute it at one input. -/
def scanFromWrong : ChangeSpec := { name := "scanFrom", fn := fun _ => fun
  | [d1, d2, d3, d4, d5] => { results := [.lit (.bool false)], args := [d1, d2, d3, d4, d5] }
  | _ => none }
def ScanFromWrongFalsely : Prop := scanFromRow.holds Try.pinned (OpenSpec.ofChange scanFromWrong)

/-- 'spindlelaw11.ScanNumbers': WHATEVER THE INPUT: true; the input reads as it did. -/
def scanNumbersSpec : ChangeSpec := { name := "scanNumbers", fn := fun _ => fun
  | [d1, d2] => { results := [.lit (.bool true)], args := [d1, d2] }
  | _ => none }
def scanNumbersRow : OpenClaim := { program := "ytnkdgmnmmmjgjaa", sum := "8f60ce89c8e1ce1ac9874978fafd7728d3450c57f4d5fc71d129230c63690c86", func := "spindle/spindlelaw11.ScanNumbers", spec := "scanNumbers", unfollowed := true, recurses := true, apart := false }
def ScanNumbersSaid : Prop := scanNumbersRow.holds Try.pinned (OpenSpec.ofChange scanNumbersSpec)

/-- ITS FALSE NEIGHBOUR: 'it returns false'. Refute it at one input. -/
def scanNumbersWrong : ChangeSpec := { name := "scanNumbers", fn := fun _ => fun
  | [d1, d2] => { results := [.lit (.bool false)], args := [d1, d2] }
  | _ => none }
def ScanNumbersWrongFalsely : Prop := scanNumbersRow.holds Try.pinned (OpenSpec.ofChange scanNumbersWrong)

/-- 'spindlelaw11.ScanAgain': WHATEVER THE INPUT: true; the input reads as it did. -/
def scanAgainSpec : ChangeSpec := { name := "scanAgain", fn := fun _ => fun
  | [d1, d2] => { results := [.lit (.bool true)], args := [d1, d2] }
  | _ => none }
def scanAgainRow : OpenClaim := { program := "ytnkdgmnmmmjgjaa", sum := "8f60ce89c8e1ce1ac9874978fafd7728d3450c57f4d5fc71d129230c63690c86", func := "spindle/spindlelaw11.ScanAgain", spec := "scanAgain", unfollowed := true, recurses := true, apart := false }
def ScanAgainSaid : Prop := scanAgainRow.holds Try.pinned (OpenSpec.ofChange scanAgainSpec)

/-- ITS FALSE NEIGHBOUR: 'it returns false'. Refute it at one input. -/
def scanAgainWrong : ChangeSpec := { name := "scanAgain", fn := fun _ => fun
  | [d1, d2] => { results := [.lit (.bool false)], args := [d1, d2] }
  | _ => none }
def ScanAgainWrongFalsely : Prop := scanAgainRow.holds Try.pinned (OpenSpec.ofChange scanAgainWrong)

/- THE SECOND FORM. 'bulk': how many values and letters a reading holds, each counted each time it is reached (what is shared counts as often as it is met; a slice's spare places count too). A statement '..UptoSaid' is the law's where the arguments, and the package variables that the reading takes, are together of bulk at most 1048576: NARROWER than '..Said'. Prove '..Said' where nothing that the law and all that it calls make is longer than what came in: it says more and counts as full. Else prove '..UptoSaid'. A law counts once. -/
mutual
def uptoBulk {H : Type} : DataW H → Nat
  | .lit (.string bytes) => bytes.length + 1
  | .lit _ => 1
  | .nil => 1
  | .ptr d => uptoBulk d + 1
  | .slice elems spare => uptoBulkAll elems + uptoBulkAll spare + 1
  | .agg parts => uptoBulkAll parts + 1
  | .iface _ d => uptoBulk d + 1
  | .map entries => uptoBulkEntries entries + 1
  | .held _ => 1
def uptoBulkAll {H : Type} : List (DataW H) → Nat
  | [] => 0
  | d :: r => uptoBulk d + uptoBulkAll r
def uptoBulkEntries {H : Type} : List (Lit × DataW H) → Nat
  | [] => 0
  | x :: r => uptoBulkEntry x + uptoBulkEntries r
def uptoBulkEntry {H : Type} : Lit × DataW H → Nat
  | (.string bytes, d) => bytes.length + uptoBulk d + 1
  | (_, d) => uptoBulk d + 1
 end
def uptoSmall : (H : Type) → List (DataW H) → Bool := fun _ ds => decide (uptoBulkAll ds ≤ 1048576)
def OpenSpec.upto (s : _root_.Go.ChangeSpec) : _root_.Go.OpenSpec := { _root_.Go.OpenSpec.ofChange s with cond := some uptoSmall }

/-- 'spindlelaw11.ScanBack', WHERE WHAT IT READS IS OF BULK AT MOST 1048576: true; the input reads as it did. -/
def scanBackUptoRow : OpenClaim := { program := "ytnkdgmnmmmjgjaa", sum := "8f60ce89c8e1ce1ac9874978fafd7728d3450c57f4d5fc71d129230c63690c86", func := "spindle/spindlelaw11.ScanBack", spec := "scanBack", unfollowed := true, recurses := true, apart := false, narrowed := true }
def ScanBackUptoSaid : Prop := scanBackUptoRow.holds Try.pinned (OpenSpec.upto scanBackSpec)

/-- 'spindlelaw11.ScanForged', WHERE WHAT IT READS IS OF BULK AT MOST 1048576: true; the input reads as it did. -/
def scanForgedUptoRow : OpenClaim := { program := "ytnkdgmnmmmjgjaa", sum := "8f60ce89c8e1ce1ac9874978fafd7728d3450c57f4d5fc71d129230c63690c86", func := "spindle/spindlelaw11.ScanForged", spec := "scanForged", unfollowed := true, recurses := true, apart := false, narrowed := true }
def ScanForgedUptoSaid : Prop := scanForgedUptoRow.holds Try.pinned (OpenSpec.upto scanForgedSpec)

/-- 'spindlelaw11.ScanFrom', WHERE WHAT IT READS IS OF BULK AT MOST 1048576: true; the input reads as it did. -/
def scanFromUptoRow : OpenClaim := { program := "ytnkdgmnmmmjgjaa", sum := "8f60ce89c8e1ce1ac9874978fafd7728d3450c57f4d5fc71d129230c63690c86", func := "spindle/spindlelaw11.ScanFrom", spec := "scanFrom", unfollowed := true, recurses := true, apart := false, narrowed := true }
def ScanFromUptoSaid : Prop := scanFromUptoRow.holds Try.pinned (OpenSpec.upto scanFromSpec)

/-- 'spindlelaw11.ScanNumbers', WHERE WHAT IT READS IS OF BULK AT MOST 1048576: true; the input reads as it did. -/
def scanNumbersUptoRow : OpenClaim := { program := "ytnkdgmnmmmjgjaa", sum := "8f60ce89c8e1ce1ac9874978fafd7728d3450c57f4d5fc71d129230c63690c86", func := "spindle/spindlelaw11.ScanNumbers", spec := "scanNumbers", unfollowed := true, recurses := true, apart := false, narrowed := true }
def ScanNumbersUptoSaid : Prop := scanNumbersUptoRow.holds Try.pinned (OpenSpec.upto scanNumbersSpec)

/-- 'spindlelaw11.ScanAgain', WHERE WHAT IT READS IS OF BULK AT MOST 1048576: true; the input reads as it did. -/
def scanAgainUptoRow : OpenClaim := { program := "ytnkdgmnmmmjgjaa", sum := "8f60ce89c8e1ce1ac9874978fafd7728d3450c57f4d5fc71d129230c63690c86", func := "spindle/spindlelaw11.ScanAgain", spec := "scanAgain", unfollowed := true, recurses := true, apart := false, narrowed := true }
def ScanAgainUptoSaid : Prop := scanAgainUptoRow.holds Try.pinned (OpenSpec.upto scanAgainSpec)

end Rows
end Go.Proofs.Ytnkdgmnmmmjgjaa
