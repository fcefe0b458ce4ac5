/-
  No cell of these rows narrows 'for every input' (looked for: loops, veiled, ifaces, maps, wideKeys, modest, calm, conditions, laid).
  DERIVED. THE GIVEN ROWS OF THIS SEAT. 9 by the template 'for every input the law returns true; each argument reads behind the call as it read before'; 0 by the template 'total and deterministic' (their statements: YtkafkdlgflkjgaaGreatTotals.lean).
  GIVEN WITH THE SEED: the statements are not yours to turn. If you find one false, say at which input.
  Laid BY PROGRAM, IN A SANDBOX (cutbox-rows.mjs): the forced cells as the released guide's own fill.sh prints them over the translation f1821f594e5e767d… (all of the seat's roots in one cut). By AI agents, Wed Nov 11 2026. No macro, syntax, notation, axiom, sorry.
-/
import Derived.Test.YtkafkdlgflkjgaaGreatChecked
import GoSem.Claim
import GoSem.ClaimJoined
import GoSem.ClaimMapViews
import Derived.JoinedTies
import Derived.KernelRfl
namespace Go.Proofs.YtkafkdlgflkjgaaGreat
/- THE CELL 'sum', in the pinned program and in every row, IS THE sha256 OF THE DUMP (.gsa) THAT YtkafkdlgflkjgaaGreatProg.lean LOADS. Nothing in Lean hashes anything: it is a label: what it is worth is what the hold of that sum in a sandbox is worth. -/
noncomputable def Tryz.pinned : Pinned := { name := "ytkafkdlgflkjgaagreat", sum := "f1821f594e5e767d8e2ac36e4502e6f93ec267bfc79779ae21ef2b2eb984e78b", checked := Tryz.checked }
namespace Rows
def none {H : Type} : Left H := { results := [], args := [] }

/-- 'spindlelaw12.WalDoes': WHATEVER THE INPUT: true; the input reads as it did. -/
def walDoesSpec : ChangeSpec := { name := "walDoes", fn := fun _ => fun
  | [d1, d2, d3, d4, d5] => { results := [.lit (.bool true)], args := [d1, d2, d3, d4, d5] }
  | _ => none }
def walDoesRow : OpenClaim := { program := "ytkafkdlgflkjgaagreat", sum := "f1821f594e5e767d8e2ac36e4502e6f93ec267bfc79779ae21ef2b2eb984e78b", func := "spindle/spindlelaw12.WalDoes", spec := "walDoes", unfollowed := true, recurses := true, apart := false }
def WalDoesSaid : Prop := walDoesRow.holds Tryz.pinned (OpenSpec.ofChange walDoesSpec)

/-- ITS FALSE NEIGHBOUR: 'it returns false'. Refute it at one input. -/
def walDoesWrong : ChangeSpec := { name := "walDoes", fn := fun _ => fun
  | [d1, d2, d3, d4, d5] => { results := [.lit (.bool false)], args := [d1, d2, d3, d4, d5] }
  | _ => none }
def WalDoesWrongFalsely : Prop := walDoesRow.holds Tryz.pinned (OpenSpec.ofChange walDoesWrong)

/-- 'spindlelaw12.WalOpens': WHATEVER THE INPUT: true; the input reads as it did. -/
def walOpensSpec : ChangeSpec := { name := "walOpens", fn := fun _ => fun
  | [d1, d2, d3] => { results := [.lit (.bool true)], args := [d1, d2, d3] }
  | _ => none }
def walOpensRow : OpenClaim := { program := "ytkafkdlgflkjgaagreat", sum := "f1821f594e5e767d8e2ac36e4502e6f93ec267bfc79779ae21ef2b2eb984e78b", func := "spindle/spindlelaw12.WalOpens", spec := "walOpens", unfollowed := true, recurses := true, apart := false }
def WalOpensSaid : Prop := walOpensRow.holds Tryz.pinned (OpenSpec.ofChange walOpensSpec)

/-- ITS FALSE NEIGHBOUR: 'it returns false'. Refute it at one input. -/
def walOpensWrong : ChangeSpec := { name := "walOpens", fn := fun _ => fun
  | [d1, d2, d3] => { results := [.lit (.bool false)], args := [d1, d2, d3] }
  | _ => none }
def WalOpensWrongFalsely : Prop := walOpensRow.holds Tryz.pinned (OpenSpec.ofChange walOpensWrong)

/-- 'spindlelaw12.WalCosts': WHATEVER THE INPUT: true; the input reads as it did. -/
def walCostsSpec : ChangeSpec := { name := "walCosts", fn := fun _ => fun
  | [d1, d2, d3] => { results := [.lit (.bool true)], args := [d1, d2, d3] }
  | _ => none }
def walCostsRow : OpenClaim := { program := "ytkafkdlgflkjgaagreat", sum := "f1821f594e5e767d8e2ac36e4502e6f93ec267bfc79779ae21ef2b2eb984e78b", func := "spindle/spindlelaw12.WalCosts", spec := "walCosts", unfollowed := true, recurses := true, apart := false }
def WalCostsSaid : Prop := walCostsRow.holds Tryz.pinned (OpenSpec.ofChange walCostsSpec)

/-- ITS FALSE NEIGHBOUR: 'it returns false'. Refute it at one input. -/
def walCostsWrong : ChangeSpec := { name := "walCosts", fn := fun _ => fun
  | [d1, d2, d3] => { results := [.lit (.bool false)], args := [d1, d2, d3] }
  | _ => none }
def WalCostsWrongFalsely : Prop := walCostsRow.holds Tryz.pinned (OpenSpec.ofChange walCostsWrong)

/-- 'spindlelaw12.WalKeeps': WHATEVER THE INPUT: true; the input reads as it did. -/
def walKeepsSpec : ChangeSpec := { name := "walKeeps", fn := fun _ => fun
  | [d1, d2] => { results := [.lit (.bool true)], args := [d1, d2] }
  | _ => none }
def walKeepsRow : OpenClaim := { program := "ytkafkdlgflkjgaagreat", sum := "f1821f594e5e767d8e2ac36e4502e6f93ec267bfc79779ae21ef2b2eb984e78b", func := "spindle/spindlelaw12.WalKeeps", spec := "walKeeps", unfollowed := true, recurses := true, apart := false }
def WalKeepsSaid : Prop := walKeepsRow.holds Tryz.pinned (OpenSpec.ofChange walKeepsSpec)

/-- ITS FALSE NEIGHBOUR: 'it returns false'. Refute it at one input. -/
def walKeepsWrong : ChangeSpec := { name := "walKeeps", fn := fun _ => fun
  | [d1, d2] => { results := [.lit (.bool false)], args := [d1, d2] }
  | _ => none }
def WalKeepsWrongFalsely : Prop := walKeepsRow.holds Tryz.pinned (OpenSpec.ofChange walKeepsWrong)

/-- 'spindlelaw12.WalRises': WHATEVER THE INPUT: true; the input reads as it did. -/
def walRisesSpec : ChangeSpec := { name := "walRises", fn := fun _ => fun
  | [d1, d2] => { results := [.lit (.bool true)], args := [d1, d2] }
  | _ => none }
def walRisesRow : OpenClaim := { program := "ytkafkdlgflkjgaagreat", sum := "f1821f594e5e767d8e2ac36e4502e6f93ec267bfc79779ae21ef2b2eb984e78b", func := "spindle/spindlelaw12.WalRises", spec := "walRises", unfollowed := true, recurses := true, apart := false }
def WalRisesSaid : Prop := walRisesRow.holds Tryz.pinned (OpenSpec.ofChange walRisesSpec)

/-- ITS FALSE NEIGHBOUR: 'it returns false'. Refute it at one input. -/
def walRisesWrong : ChangeSpec := { name := "walRises", fn := fun _ => fun
  | [d1, d2] => { results := [.lit (.bool false)], args := [d1, d2] }
  | _ => none }
def WalRisesWrongFalsely : Prop := walRisesRow.holds Tryz.pinned (OpenSpec.ofChange walRisesWrong)

/-- 'spindlelaw12.WalForgets': WHATEVER THE INPUT: true; the input reads as it did. -/
def walForgetsSpec : ChangeSpec := { name := "walForgets", fn := fun _ => fun
  | [d1, d2, d3, d4, d5] => { results := [.lit (.bool true)], args := [d1, d2, d3, d4, d5] }
  | _ => none }
def walForgetsRow : OpenClaim := { program := "ytkafkdlgflkjgaagreat", sum := "f1821f594e5e767d8e2ac36e4502e6f93ec267bfc79779ae21ef2b2eb984e78b", func := "spindle/spindlelaw12.WalForgets", spec := "walForgets", unfollowed := true, recurses := true, apart := false }
def WalForgetsSaid : Prop := walForgetsRow.holds Tryz.pinned (OpenSpec.ofChange walForgetsSpec)

/-- ITS FALSE NEIGHBOUR: 'it returns false'. Refute it at one input. -/
def walForgetsWrong : ChangeSpec := { name := "walForgets", fn := fun _ => fun
  | [d1, d2, d3, d4, d5] => { results := [.lit (.bool false)], args := [d1, d2, d3, d4, d5] }
  | _ => none }
def WalForgetsWrongFalsely : Prop := walForgetsRow.holds Tryz.pinned (OpenSpec.ofChange walForgetsWrong)

/-- 'spindlelaw12.WalUnsealed': WHATEVER THE INPUT: true; the input reads as it did. -/
def walUnsealedSpec : ChangeSpec := { name := "walUnsealed", fn := fun _ => fun
  | [d1, d2, d3, d4] => { results := [.lit (.bool true)], args := [d1, d2, d3, d4] }
  | _ => none }
def walUnsealedRow : OpenClaim := { program := "ytkafkdlgflkjgaagreat", sum := "f1821f594e5e767d8e2ac36e4502e6f93ec267bfc79779ae21ef2b2eb984e78b", func := "spindle/spindlelaw12.WalUnsealed", spec := "walUnsealed", unfollowed := true, recurses := true, apart := false }
def WalUnsealedSaid : Prop := walUnsealedRow.holds Tryz.pinned (OpenSpec.ofChange walUnsealedSpec)

/-- ITS FALSE NEIGHBOUR: 'it returns false'. Refute it at one input. -/
def walUnsealedWrong : ChangeSpec := { name := "walUnsealed", fn := fun _ => fun
  | [d1, d2, d3, d4] => { results := [.lit (.bool false)], args := [d1, d2, d3, d4] }
  | _ => none }
def WalUnsealedWrongFalsely : Prop := walUnsealedRow.holds Tryz.pinned (OpenSpec.ofChange walUnsealedWrong)

/-- 'spindlelaw12.WalRefuses': WHATEVER THE INPUT: true; the input reads as it did. -/
def walRefusesSpec : ChangeSpec := { name := "walRefuses", fn := fun _ => fun
  | [d1, d2, d3] => { results := [.lit (.bool true)], args := [d1, d2, d3] }
  | _ => none }
def walRefusesRow : OpenClaim := { program := "ytkafkdlgflkjgaagreat", sum := "f1821f594e5e767d8e2ac36e4502e6f93ec267bfc79779ae21ef2b2eb984e78b", func := "spindle/spindlelaw12.WalRefuses", spec := "walRefuses", unfollowed := true, recurses := true, apart := false }
def WalRefusesSaid : Prop := walRefusesRow.holds Tryz.pinned (OpenSpec.ofChange walRefusesSpec)

/-- ITS FALSE NEIGHBOUR: 'it returns false'. Refute it at one input. -/
def walRefusesWrong : ChangeSpec := { name := "walRefuses", fn := fun _ => fun
  | [d1, d2, d3] => { results := [.lit (.bool false)], args := [d1, d2, d3] }
  | _ => none }
def WalRefusesWrongFalsely : Prop := walRefusesRow.holds Tryz.pinned (OpenSpec.ofChange walRefusesWrong)

/-- 'spindlelaw12.WalSlots': WHATEVER THE INPUT: true; the input reads as it did. -/
def walSlotsSpec : ChangeSpec := { name := "walSlots", fn := fun _ => fun
  | [d1, d2, d3] => { results := [.lit (.bool true)], args := [d1, d2, d3] }
  | _ => none }
def walSlotsRow : OpenClaim := { program := "ytkafkdlgflkjgaagreat", sum := "f1821f594e5e767d8e2ac36e4502e6f93ec267bfc79779ae21ef2b2eb984e78b", func := "spindle/spindlelaw12.WalSlots", spec := "walSlots", unfollowed := true, recurses := true, apart := false }
def WalSlotsSaid : Prop := walSlotsRow.holds Tryz.pinned (OpenSpec.ofChange walSlotsSpec)

/-- ITS FALSE NEIGHBOUR: 'it returns false'. Refute it at one input. -/
def walSlotsWrong : ChangeSpec := { name := "walSlots", fn := fun _ => fun
  | [d1, d2, d3] => { results := [.lit (.bool false)], args := [d1, d2, d3] }
  | _ => none }
def WalSlotsWrongFalsely : Prop := walSlotsRow.holds Tryz.pinned (OpenSpec.ofChange walSlotsWrong)

/- THE SECOND FORM. 'bulk': how many values and letters a reading holds, each counted each time it is reached (what is shared counts as often as it is met; a slice's spare places count too). A statement '..UptoSaid' is the law's where the arguments, and the package variables that the reading takes, are together of bulk at most 1048576: NARROWER than '..Said'. Prove '..Said' where nothing that the law and all that it calls make is longer than what came in: it says more and counts as full. Else prove '..UptoSaid'. A law counts once. -/
mutual
def uptoBulk {H : Type} : DataW H → Nat
  | .lit (.string bytes) => bytes.length + 1
  | .lit _ => 1
  | .nil => 1
  | .ptr d => uptoBulk d + 1
  | .slice elems spare => uptoBulkAll elems + uptoBulkAll spare + 1
  | .agg parts => uptoBulkAll parts + 1
  | .iface _ d => uptoBulk d + 1
  | .map entries => uptoBulkEntries entries + 1
  | .held _ => 1
def uptoBulkAll {H : Type} : List (DataW H) → Nat
  | [] => 0
  | d :: r => uptoBulk d + uptoBulkAll r
def uptoBulkEntries {H : Type} : List (Lit × DataW H) → Nat
  | [] => 0
  | x :: r => uptoBulkEntry x + uptoBulkEntries r
def uptoBulkEntry {H : Type} : Lit × DataW H → Nat
  | (.string bytes, d) => bytes.length + uptoBulk d + 1
  | (_, d) => uptoBulk d + 1
 end
def uptoSmall : (H : Type) → List (DataW H) → Bool := fun _ ds => decide (uptoBulkAll ds ≤ 1048576)
def OpenSpec.upto (s : _root_.Go.ChangeSpec) : _root_.Go.OpenSpec := { _root_.Go.OpenSpec.ofChange s with cond := some uptoSmall }

/-- 'spindlelaw12.WalDoes', WHERE WHAT IT READS IS OF BULK AT MOST 1048576: true; the input reads as it did. -/
def walDoesUptoRow : OpenClaim := { program := "ytkafkdlgflkjgaagreat", sum := "f1821f594e5e767d8e2ac36e4502e6f93ec267bfc79779ae21ef2b2eb984e78b", func := "spindle/spindlelaw12.WalDoes", spec := "walDoes", unfollowed := true, recurses := true, apart := false, narrowed := true }
def WalDoesUptoSaid : Prop := walDoesUptoRow.holds Tryz.pinned (OpenSpec.upto walDoesSpec)

/-- 'spindlelaw12.WalOpens', WHERE WHAT IT READS IS OF BULK AT MOST 1048576: true; the input reads as it did. -/
def walOpensUptoRow : OpenClaim := { program := "ytkafkdlgflkjgaagreat", sum := "f1821f594e5e767d8e2ac36e4502e6f93ec267bfc79779ae21ef2b2eb984e78b", func := "spindle/spindlelaw12.WalOpens", spec := "walOpens", unfollowed := true, recurses := true, apart := false, narrowed := true }
def WalOpensUptoSaid : Prop := walOpensUptoRow.holds Tryz.pinned (OpenSpec.upto walOpensSpec)

/-- 'spindlelaw12.WalCosts', WHERE WHAT IT READS IS OF BULK AT MOST 1048576: true; the input reads as it did. -/
def walCostsUptoRow : OpenClaim := { program := "ytkafkdlgflkjgaagreat", sum := "f1821f594e5e767d8e2ac36e4502e6f93ec267bfc79779ae21ef2b2eb984e78b", func := "spindle/spindlelaw12.WalCosts", spec := "walCosts", unfollowed := true, recurses := true, apart := false, narrowed := true }
def WalCostsUptoSaid : Prop := walCostsUptoRow.holds Tryz.pinned (OpenSpec.upto walCostsSpec)

/-- 'spindlelaw12.WalKeeps', WHERE WHAT IT READS IS OF BULK AT MOST 1048576: true; the input reads as it did. -/
def walKeepsUptoRow : OpenClaim := { program := "ytkafkdlgflkjgaagreat", sum := "f1821f594e5e767d8e2ac36e4502e6f93ec267bfc79779ae21ef2b2eb984e78b", func := "spindle/spindlelaw12.WalKeeps", spec := "walKeeps", unfollowed := true, recurses := true, apart := false, narrowed := true }
def WalKeepsUptoSaid : Prop := walKeepsUptoRow.holds Tryz.pinned (OpenSpec.upto walKeepsSpec)

/-- 'spindlelaw12.WalRises', WHERE WHAT IT READS IS OF BULK AT MOST 1048576: true; the input reads as it did. -/
def walRisesUptoRow : OpenClaim := { program := "ytkafkdlgflkjgaagreat", sum := "f1821f594e5e767d8e2ac36e4502e6f93ec267bfc79779ae21ef2b2eb984e78b", func := "spindle/spindlelaw12.WalRises", spec := "walRises", unfollowed := true, recurses := true, apart := false, narrowed := true }
def WalRisesUptoSaid : Prop := walRisesUptoRow.holds Tryz.pinned (OpenSpec.upto walRisesSpec)

/-- 'spindlelaw12.WalForgets', WHERE WHAT IT READS IS OF BULK AT MOST 1048576: true; the input reads as it did. -/
def walForgetsUptoRow : OpenClaim := { program := "ytkafkdlgflkjgaagreat", sum := "f1821f594e5e767d8e2ac36e4502e6f93ec267bfc79779ae21ef2b2eb984e78b", func := "spindle/spindlelaw12.WalForgets", spec := "walForgets", unfollowed := true, recurses := true, apart := false, narrowed := true }
def WalForgetsUptoSaid : Prop := walForgetsUptoRow.holds Tryz.pinned (OpenSpec.upto walForgetsSpec)

/-- 'spindlelaw12.WalUnsealed', WHERE WHAT IT READS IS OF BULK AT MOST 1048576: true; the input reads as it did. -/
def walUnsealedUptoRow : OpenClaim := { program := "ytkafkdlgflkjgaagreat", sum := "f1821f594e5e767d8e2ac36e4502e6f93ec267bfc79779ae21ef2b2eb984e78b", func := "spindle/spindlelaw12.WalUnsealed", spec := "walUnsealed", unfollowed := true, recurses := true, apart := false, narrowed := true }
def WalUnsealedUptoSaid : Prop := walUnsealedUptoRow.holds Tryz.pinned (OpenSpec.upto walUnsealedSpec)

/-- 'spindlelaw12.WalRefuses', WHERE WHAT IT READS IS OF BULK AT MOST 1048576: true; the input reads as it did. -/
def walRefusesUptoRow : OpenClaim := { program := "ytkafkdlgflkjgaagreat", sum := "f1821f594e5e767d8e2ac36e4502e6f93ec267bfc79779ae21ef2b2eb984e78b", func := "spindle/spindlelaw12.WalRefuses", spec := "walRefuses", unfollowed := true, recurses := true, apart := false, narrowed := true }
def WalRefusesUptoSaid : Prop := walRefusesUptoRow.holds Tryz.pinned (OpenSpec.upto walRefusesSpec)

/-- 'spindlelaw12.WalSlots', WHERE WHAT IT READS IS OF BULK AT MOST 1048576: true; the input reads as it did. -/
def walSlotsUptoRow : OpenClaim := { program := "ytkafkdlgflkjgaagreat", sum := "f1821f594e5e767d8e2ac36e4502e6f93ec267bfc79779ae21ef2b2eb984e78b", func := "spindle/spindlelaw12.WalSlots", spec := "walSlots", unfollowed := true, recurses := true, apart := false, narrowed := true }
def WalSlotsUptoSaid : Prop := walSlotsUptoRow.holds Tryz.pinned (OpenSpec.upto walSlotsSpec)

end Rows
end Go.Proofs.YtkafkdlgflkjgaaGreat
