/-
  No cell of these rows narrows 'for every input' (looked for: loops, veiled, ifaces, maps, wideKeys, modest, calm, conditions, laid).
  DERIVED. THE GIVEN ROWS OF THIS SEAT. 5 by the template 'for every input the law returns true; each argument reads behind the call as it read before'; 0 by the template 'total and deterministic' (their statements: YtheplbjlfkjncaaTotals.lean).
  GIVEN WITH THE SEED: the statements are not yours to turn. If you find one false, say at which input.
  Laid BY PROGRAM, IN A SANDBOX (cutbox-rows.mjs): the forced cells as the released guide's own fill.sh prints them over the translation cbd1a45d5acabaca… (all of the seat's roots in one cut). By AI agents, Wed Nov 11 2026. No macro, syntax, notation, axiom, sorry.
-/
import Derived.Test.YtheplbjlfkjncaaChecked
import GoSem.Claim
import GoSem.ClaimJoined
import GoSem.ClaimMapViews
import Derived.JoinedTies
import Derived.KernelRfl
namespace Go.Proofs.Ytheplbjlfkjncaa
/- THE CELL 'sum', in the pinned program and in every row, IS THE sha256 OF THE DUMP (.gsa) THAT YtheplbjlfkjncaaProg.lean LOADS. Nothing in Lean hashes anything: it is a label: what it is worth is what the hold of that sum in a sandbox is worth. -/
noncomputable def Try.pinned : Pinned := { name := "ytheplbjlfkjncaa", sum := "cbd1a45d5acabaca807ab1f14b6ea029ecb4b99cf591839436576b11a23a0392", checked := Try.checked }
namespace Rows
def none {H : Type} : Left H := { results := [], args := [] }

/-- 'spindlelaw06.GeomDoes': WHATEVER THE INPUT: true; the input reads as it did. -/
def geomDoesSpec : ChangeSpec := { name := "geomDoes", fn := fun _ => fun
  | [d1, d2, d3, d4] => { results := [.lit (.bool true)], args := [d1, d2, d3, d4] }
  | _ => none }
def geomDoesRow : OpenClaim := { program := "ytheplbjlfkjncaa", sum := "cbd1a45d5acabaca807ab1f14b6ea029ecb4b99cf591839436576b11a23a0392", func := "spindle/spindlelaw06.GeomDoes", spec := "geomDoes", apart := false }
def GeomDoesSaid : Prop := geomDoesRow.holds Try.pinned (OpenSpec.ofChange geomDoesSpec)

/-- ITS FALSE NEIGHBOUR: 'it returns false'. Refute it at one input. -/
def geomDoesWrong : ChangeSpec := { name := "geomDoes", fn := fun _ => fun
  | [d1, d2, d3, d4] => { results := [.lit (.bool false)], args := [d1, d2, d3, d4] }
  | _ => none }
def GeomDoesWrongFalsely : Prop := geomDoesRow.holds Try.pinned (OpenSpec.ofChange geomDoesWrong)

/-- 'spindlelaw06.GeomBack': WHATEVER THE INPUT: true; the input reads as it did. -/
def geomBackSpec : ChangeSpec := { name := "geomBack", fn := fun _ => fun
  | [d1, d2, d3, d4, d5, d6] => { results := [.lit (.bool true)], args := [d1, d2, d3, d4, d5, d6] }
  | _ => none }
def geomBackRow : OpenClaim := { program := "ytheplbjlfkjncaa", sum := "cbd1a45d5acabaca807ab1f14b6ea029ecb4b99cf591839436576b11a23a0392", func := "spindle/spindlelaw06.GeomBack", spec := "geomBack", apart := false }
def GeomBackSaid : Prop := geomBackRow.holds Try.pinned (OpenSpec.ofChange geomBackSpec)

/-- ITS FALSE NEIGHBOUR: 'it returns false'. Refute it at one input. -/
def geomBackWrong : ChangeSpec := { name := "geomBack", fn := fun _ => fun
  | [d1, d2, d3, d4, d5, d6] => { results := [.lit (.bool false)], args := [d1, d2, d3, d4, d5, d6] }
  | _ => none }
def GeomBackWrongFalsely : Prop := geomBackRow.holds Try.pinned (OpenSpec.ofChange geomBackWrong)

/-- 'spindlelaw06.GeomOwn': WHATEVER THE INPUT: true; the input reads as it did. -/
def geomOwnSpec : ChangeSpec := { name := "geomOwn", fn := fun _ => fun
  | [d1, d2] => { results := [.lit (.bool true)], args := [d1, d2] }
  | _ => none }
def geomOwnRow : OpenClaim := { program := "ytheplbjlfkjncaa", sum := "cbd1a45d5acabaca807ab1f14b6ea029ecb4b99cf591839436576b11a23a0392", func := "spindle/spindlelaw06.GeomOwn", spec := "geomOwn", recurses := true, apart := false }
def GeomOwnSaid : Prop := geomOwnRow.holds Try.pinned (OpenSpec.ofChange geomOwnSpec)

/-- ITS FALSE NEIGHBOUR: 'it returns false'. Refute it at one input. -/
def geomOwnWrong : ChangeSpec := { name := "geomOwn", fn := fun _ => fun
  | [d1, d2] => { results := [.lit (.bool false)], args := [d1, d2] }
  | _ => none }
def GeomOwnWrongFalsely : Prop := geomOwnRow.holds Try.pinned (OpenSpec.ofChange geomOwnWrong)

/-- 'spindlelaw06.GeomFair': WHATEVER THE INPUT: true; the input reads as it did. -/
def geomFairSpec : ChangeSpec := { name := "geomFair", fn := fun _ => fun
  | [d1, d2, d3] => { results := [.lit (.bool true)], args := [d1, d2, d3] }
  | _ => none }
def geomFairRow : OpenClaim := { program := "ytheplbjlfkjncaa", sum := "cbd1a45d5acabaca807ab1f14b6ea029ecb4b99cf591839436576b11a23a0392", func := "spindle/spindlelaw06.GeomFair", spec := "geomFair", apart := false }
def GeomFairSaid : Prop := geomFairRow.holds Try.pinned (OpenSpec.ofChange geomFairSpec)

/-- ITS FALSE NEIGHBOUR: 'it returns false'. Refute it at one input. -/
def geomFairWrong : ChangeSpec := { name := "geomFair", fn := fun _ => fun
  | [d1, d2, d3] => { results := [.lit (.bool false)], args := [d1, d2, d3] }
  | _ => none }
def GeomFairWrongFalsely : Prop := geomFairRow.holds Try.pinned (OpenSpec.ofChange geomFairWrong)

/-- 'spindlelaw06.GeomRows': WHATEVER THE INPUT: true; the input reads as it did. -/
def geomRowsSpec : ChangeSpec := { name := "geomRows", fn := fun _ => fun
  | [d1, d2, d3, d4] => { results := [.lit (.bool true)], args := [d1, d2, d3, d4] }
  | _ => none }
def geomRowsRow : OpenClaim := { program := "ytheplbjlfkjncaa", sum := "cbd1a45d5acabaca807ab1f14b6ea029ecb4b99cf591839436576b11a23a0392", func := "spindle/spindlelaw06.GeomRows", spec := "geomRows", apart := false }
def GeomRowsSaid : Prop := geomRowsRow.holds Try.pinned (OpenSpec.ofChange geomRowsSpec)

/-- ITS FALSE NEIGHBOUR: 'it returns false'. Refute it at one input. -/
def geomRowsWrong : ChangeSpec := { name := "geomRows", fn := fun _ => fun
  | [d1, d2, d3, d4] => { results := [.lit (.bool false)], args := [d1, d2, d3, d4] }
  | _ => none }
def GeomRowsWrongFalsely : Prop := geomRowsRow.holds Try.pinned (OpenSpec.ofChange geomRowsWrong)

/- THE SECOND FORM. 'bulk': how many values and letters a reading holds, each counted each time it is reached (what is shared counts as often as it is met; a slice's spare places count too). A statement '..UptoSaid' is the law's where the arguments, and the package variables that the reading takes, are together of bulk at most 1048576: NARROWER than '..Said'. Prove '..Said' where nothing that the law and all that it calls make is longer than what came in: it says more and counts as full. Else prove '..UptoSaid'. A law counts once. -/
mutual
def uptoBulk {H : Type} : DataW H → Nat
  | .lit (.string bytes) => bytes.length + 1
  | .lit _ => 1
  | .nil => 1
  | .ptr d => uptoBulk d + 1
  | .slice elems spare => uptoBulkAll elems + uptoBulkAll spare + 1
  | .agg parts => uptoBulkAll parts + 1
  | .iface _ d => uptoBulk d + 1
  | .map entries => uptoBulkEntries entries + 1
  | .held _ => 1
def uptoBulkAll {H : Type} : List (DataW H) → Nat
  | [] => 0
  | d :: r => uptoBulk d + uptoBulkAll r
def uptoBulkEntries {H : Type} : List (Lit × DataW H) → Nat
  | [] => 0
  | x :: r => uptoBulkEntry x + uptoBulkEntries r
def uptoBulkEntry {H : Type} : Lit × DataW H → Nat
  | (.string bytes, d) => bytes.length + uptoBulk d + 1
  | (_, d) => uptoBulk d + 1
 end
def uptoSmall : (H : Type) → List (DataW H) → Bool := fun _ ds => decide (uptoBulkAll ds ≤ 1048576)
def OpenSpec.upto (s : _root_.Go.ChangeSpec) : _root_.Go.OpenSpec := { _root_.Go.OpenSpec.ofChange s with cond := some uptoSmall }

/-- 'spindlelaw06.GeomDoes', WHERE WHAT IT READS IS OF BULK AT MOST 1048576: true; the input reads as it did. -/
def geomDoesUptoRow : OpenClaim := { program := "ytheplbjlfkjncaa", sum := "cbd1a45d5acabaca807ab1f14b6ea029ecb4b99cf591839436576b11a23a0392", func := "spindle/spindlelaw06.GeomDoes", spec := "geomDoes", apart := false, narrowed := true }
def GeomDoesUptoSaid : Prop := geomDoesUptoRow.holds Try.pinned (OpenSpec.upto geomDoesSpec)

/-- 'spindlelaw06.GeomBack', WHERE WHAT IT READS IS OF BULK AT MOST 1048576: true; the input reads as it did. -/
def geomBackUptoRow : OpenClaim := { program := "ytheplbjlfkjncaa", sum := "cbd1a45d5acabaca807ab1f14b6ea029ecb4b99cf591839436576b11a23a0392", func := "spindle/spindlelaw06.GeomBack", spec := "geomBack", apart := false, narrowed := true }
def GeomBackUptoSaid : Prop := geomBackUptoRow.holds Try.pinned (OpenSpec.upto geomBackSpec)

/-- 'spindlelaw06.GeomOwn', WHERE WHAT IT READS IS OF BULK AT MOST 1048576: true; the input reads as it did. -/
def geomOwnUptoRow : OpenClaim := { program := "ytheplbjlfkjncaa", sum := "cbd1a45d5acabaca807ab1f14b6ea029ecb4b99cf591839436576b11a23a0392", func := "spindle/spindlelaw06.GeomOwn", spec := "geomOwn", recurses := true, apart := false, narrowed := true }
def GeomOwnUptoSaid : Prop := geomOwnUptoRow.holds Try.pinned (OpenSpec.upto geomOwnSpec)

/-- 'spindlelaw06.GeomFair', WHERE WHAT IT READS IS OF BULK AT MOST 1048576: true; the input reads as it did. -/
def geomFairUptoRow : OpenClaim := { program := "ytheplbjlfkjncaa", sum := "cbd1a45d5acabaca807ab1f14b6ea029ecb4b99cf591839436576b11a23a0392", func := "spindle/spindlelaw06.GeomFair", spec := "geomFair", apart := false, narrowed := true }
def GeomFairUptoSaid : Prop := geomFairUptoRow.holds Try.pinned (OpenSpec.upto geomFairSpec)

/-- 'spindlelaw06.GeomRows', WHERE WHAT IT READS IS OF BULK AT MOST 1048576: true; the input reads as it did. -/
def geomRowsUptoRow : OpenClaim := { program := "ytheplbjlfkjncaa", sum := "cbd1a45d5acabaca807ab1f14b6ea029ecb4b99cf591839436576b11a23a0392", func := "spindle/spindlelaw06.GeomRows", spec := "geomRows", apart := false, narrowed := true }
def GeomRowsUptoSaid : Prop := geomRowsUptoRow.holds Try.pinned (OpenSpec.upto geomRowsSpec)

end Rows
end Go.Proofs.Ytheplbjlfkjncaa
