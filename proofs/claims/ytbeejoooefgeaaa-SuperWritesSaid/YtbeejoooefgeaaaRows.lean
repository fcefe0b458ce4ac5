/-
  No cell of these rows narrows 'for every input' (looked for: loops, veiled, ifaces, maps, wideKeys, modest, calm, conditions, laid).
  DERIVED. THE GIVEN ROWS OF THIS SEAT. 3 by the template 'for every input the law returns true; each argument reads behind the call as it read before'; 0 by the template 'total and deterministic' (their statements: YtbeejoooefgeaaaTotals.lean).
  GIVEN WITH THE SEED: the statements are not yours to turn. If you find one false, say at which input.
  Laid BY PROGRAM, IN A SANDBOX (cutbox-rows.mjs): the forced cells as the released guide's own fill.sh prints them over the translation 9739d2d5096415fb… (all of the seat's roots in one cut). By AI agents, Wed Nov 11 2026. No macro, syntax, notation, axiom, sorry.
-/
import Derived.Test.YtbeejoooefgeaaaChecked
import GoSem.Claim
import GoSem.ClaimJoined
import GoSem.ClaimMapViews
import Derived.JoinedTies
import Derived.KernelRfl
namespace Go.Proofs.Ytbeejoooefgeaaa
/- THE CELL 'sum', in the pinned program and in every row, IS THE sha256 OF THE DUMP (.gsa) THAT YtbeejoooefgeaaaProg.lean LOADS. Nothing in Lean hashes anything: it is a label: what it is worth is what the hold of that sum in a sandbox is worth. -/
noncomputable def Try.pinned : Pinned := { name := "ytbeejoooefgeaaa", sum := "9739d2d5096415fb1bdf6d101207936d98be92e0283054fd8db087f8eda00c67", checked := Try.checked }
namespace Rows
def none {H : Type} : Left H := { results := [], args := [] }

/-- 'spindlelaw07.SuperWrites': WHATEVER THE INPUT: true; the input reads as it did. -/
def superWritesSpec : ChangeSpec := { name := "superWrites", fn := fun _ => fun
  | [d] => { results := [.lit (.bool true)], args := [d] }
  | _ => none }
def superWritesRow : OpenClaim := { program := "ytbeejoooefgeaaa", sum := "9739d2d5096415fb1bdf6d101207936d98be92e0283054fd8db087f8eda00c67", func := "spindle/spindlelaw07.SuperWrites", spec := "superWrites", unfollowed := true, recurses := true, apart := false }
def SuperWritesSaid : Prop := superWritesRow.holds Try.pinned (OpenSpec.ofChange superWritesSpec)

/-- ITS FALSE NEIGHBOUR: 'it returns false'. Refute it at one input. -/
def superWritesWrong : ChangeSpec := { name := "superWrites", fn := fun _ => fun
  | [d] => { results := [.lit (.bool false)], args := [d] }
  | _ => none }
def SuperWritesWrongFalsely : Prop := superWritesRow.holds Try.pinned (OpenSpec.ofChange superWritesWrong)

/-- 'spindlelaw07.SuperAkin': WHATEVER THE INPUT: true; the input reads as it did. -/
def superAkinSpec : ChangeSpec := { name := "superAkin", fn := fun _ => fun
  | [d1, d2] => { results := [.lit (.bool true)], args := [d1, d2] }
  | _ => none }
def superAkinRow : OpenClaim := { program := "ytbeejoooefgeaaa", sum := "9739d2d5096415fb1bdf6d101207936d98be92e0283054fd8db087f8eda00c67", func := "spindle/spindlelaw07.SuperAkin", spec := "superAkin", unfollowed := true, recurses := true, apart := false }
def SuperAkinSaid : Prop := superAkinRow.holds Try.pinned (OpenSpec.ofChange superAkinSpec)

/-- ITS FALSE NEIGHBOUR: 'it returns false'. Refute it at one input. -/
def superAkinWrong : ChangeSpec := { name := "superAkin", fn := fun _ => fun
  | [d1, d2] => { results := [.lit (.bool false)], args := [d1, d2] }
  | _ => none }
def SuperAkinWrongFalsely : Prop := superAkinRow.holds Try.pinned (OpenSpec.ofChange superAkinWrong)

/-- 'spindlelaw07.SuperClass': WHATEVER THE INPUT: true; the input reads as it did. -/
def superClassSpec : ChangeSpec := { name := "superClass", fn := fun _ => fun
  | [d1, d2, d3] => { results := [.lit (.bool true)], args := [d1, d2, d3] }
  | _ => none }
def superClassRow : OpenClaim := { program := "ytbeejoooefgeaaa", sum := "9739d2d5096415fb1bdf6d101207936d98be92e0283054fd8db087f8eda00c67", func := "spindle/spindlelaw07.SuperClass", spec := "superClass", unfollowed := true, recurses := true, apart := false }
def SuperClassSaid : Prop := superClassRow.holds Try.pinned (OpenSpec.ofChange superClassSpec)

/-- ITS FALSE NEIGHBOUR: 'it returns false'. Refute it at one input. -/
def superClassWrong : ChangeSpec := { name := "superClass", fn := fun _ => fun
  | [d1, d2, d3] => { results := [.lit (.bool false)], args := [d1, d2, d3] }
  | _ => none }
def SuperClassWrongFalsely : Prop := superClassRow.holds Try.pinned (OpenSpec.ofChange superClassWrong)

/- THE SECOND FORM. 'bulk': how many values and letters a reading holds, each counted each time it is reached (what is shared counts as often as it is met; a slice's spare places count too). A statement '..UptoSaid' is the law's where the arguments, and the package variables that the reading takes, are together of bulk at most 1048576: NARROWER than '..Said'. Prove '..Said' where nothing that the law and all that it calls make is longer than what came in: it says more and counts as full. Else prove '..UptoSaid'. A law counts once. -/
mutual
def uptoBulk {H : Type} : DataW H → Nat
  | .lit (.string bytes) => bytes.length + 1
  | .lit _ => 1
  | .nil => 1
  | .ptr d => uptoBulk d + 1
  | .slice elems spare => uptoBulkAll elems + uptoBulkAll spare + 1
  | .agg parts => uptoBulkAll parts + 1
  | .iface _ d => uptoBulk d + 1
  | .map entries => uptoBulkEntries entries + 1
  | .held _ => 1
def uptoBulkAll {H : Type} : List (DataW H) → Nat
  | [] => 0
  | d :: r => uptoBulk d + uptoBulkAll r
def uptoBulkEntries {H : Type} : List (Lit × DataW H) → Nat
  | [] => 0
  | x :: r => uptoBulkEntry x + uptoBulkEntries r
def uptoBulkEntry {H : Type} : Lit × DataW H → Nat
  | (.string bytes, d) => bytes.length + uptoBulk d + 1
  | (_, d) => uptoBulk d + 1
 end
def uptoSmall : (H : Type) → List (DataW H) → Bool := fun _ ds => decide (uptoBulkAll ds ≤ 1048576)
def OpenSpec.upto (s : _root_.Go.ChangeSpec) : _root_.Go.OpenSpec := { _root_.Go.OpenSpec.ofChange s with cond := some uptoSmall }

/-- 'spindlelaw07.SuperWrites', WHERE WHAT IT READS IS OF BULK AT MOST 1048576: true; the input reads as it did. -/
def superWritesUptoRow : OpenClaim := { program := "ytbeejoooefgeaaa", sum := "9739d2d5096415fb1bdf6d101207936d98be92e0283054fd8db087f8eda00c67", func := "spindle/spindlelaw07.SuperWrites", spec := "superWrites", unfollowed := true, recurses := true, apart := false, narrowed := true }
def SuperWritesUptoSaid : Prop := superWritesUptoRow.holds Try.pinned (OpenSpec.upto superWritesSpec)

/-- 'spindlelaw07.SuperAkin', WHERE WHAT IT READS IS OF BULK AT MOST 1048576: true; the input reads as it did. -/
def superAkinUptoRow : OpenClaim := { program := "ytbeejoooefgeaaa", sum := "9739d2d5096415fb1bdf6d101207936d98be92e0283054fd8db087f8eda00c67", func := "spindle/spindlelaw07.SuperAkin", spec := "superAkin", unfollowed := true, recurses := true, apart := false, narrowed := true }
def SuperAkinUptoSaid : Prop := superAkinUptoRow.holds Try.pinned (OpenSpec.upto superAkinSpec)

/-- 'spindlelaw07.SuperClass', WHERE WHAT IT READS IS OF BULK AT MOST 1048576: true; the input reads as it did. -/
def superClassUptoRow : OpenClaim := { program := "ytbeejoooefgeaaa", sum := "9739d2d5096415fb1bdf6d101207936d98be92e0283054fd8db087f8eda00c67", func := "spindle/spindlelaw07.SuperClass", spec := "superClass", unfollowed := true, recurses := true, apart := false, narrowed := true }
def SuperClassUptoSaid : Prop := superClassUptoRow.holds Try.pinned (OpenSpec.upto superClassSpec)

end Rows
end Go.Proofs.Ytbeejoooefgeaaa
