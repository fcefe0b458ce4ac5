/-
  No cell of these rows narrows 'for every input' (looked for: loops, veiled, ifaces, maps, wideKeys, modest, calm, conditions, laid).
  DERIVED. THE GIVEN ROWS OF THIS SEAT. 5 by the template 'for every input the law returns true; each argument reads behind the call as it read before'; 0 by the template 'total and deterministic' (their statements: YtffpjefecmkfmaaTotals.lean).
  GIVEN WITH THE SEED: the statements are not yours to turn. If you find one false, say at which input.
  Laid BY PROGRAM, IN A SANDBOX (cutbox-rows.mjs): the forced cells as the released guide's own fill.sh prints them over the translation 7552e41a523d2303… (all of the seat's roots in one cut). By AI agents, Wed Nov 11 2026. No macro, syntax, notation, axiom, sorry.
-/
import Derived.Test.YtffpjefecmkfmaaChecked
import GoSem.Claim
import GoSem.ClaimJoined
import GoSem.ClaimMapViews
import Derived.JoinedTies
import Derived.KernelRfl
namespace Go.Proofs.Ytffpjefecmkfmaa
/- THE CELL 'sum', in the pinned program and in every row, IS THE sha256 OF THE DUMP (.gsa) THAT YtffpjefecmkfmaaProg.lean LOADS. Nothing in Lean hashes anything: it is a label: what it is worth is what the hold of that sum in a sandbox is worth. -/
noncomputable def Try.pinned : Pinned := { name := "ytffpjefecmkfmaa", sum := "7552e41a523d23035ab78cf0dfe0b3f42d36e6f006f25dadd18105d7d9f53184", checked := Try.checked }
namespace Rows
def none {H : Type} : Left H := { results := [], args := [] }

/-- 'spindlelaw15.VoteKeeps': WHATEVER THE INPUT: true; the input reads as it did. -/
def voteKeepsSpec : ChangeSpec := { name := "voteKeeps", fn := fun _ => fun
  | [d] => { results := [.lit (.bool true)], args := [d] }
  | _ => none }
def voteKeepsRow : OpenClaim := { program := "ytffpjefecmkfmaa", sum := "7552e41a523d23035ab78cf0dfe0b3f42d36e6f006f25dadd18105d7d9f53184", func := "spindle/spindlelaw15.VoteKeeps", spec := "voteKeeps", unfollowed := true, recurses := true, apart := false }
def VoteKeepsSaid : Prop := voteKeepsRow.holds Try.pinned (OpenSpec.ofChange voteKeepsSpec)

/-- ITS FALSE NEIGHBOUR: 'it returns false'. Refute it at one input. -/
def voteKeepsWrong : ChangeSpec := { name := "voteKeeps", fn := fun _ => fun
  | [d] => { results := [.lit (.bool false)], args := [d] }
  | _ => none }
def VoteKeepsWrongFalsely : Prop := voteKeepsRow.holds Try.pinned (OpenSpec.ofChange voteKeepsWrong)

/-- 'spindlelaw15.VoteStale': WHATEVER THE INPUT: true; the input reads as it did. -/
def voteStaleSpec : ChangeSpec := { name := "voteStale", fn := fun _ => fun
  | [d1, d2, d3, d4, d5] => { results := [.lit (.bool true)], args := [d1, d2, d3, d4, d5] }
  | _ => none }
def voteStaleRow : OpenClaim := { program := "ytffpjefecmkfmaa", sum := "7552e41a523d23035ab78cf0dfe0b3f42d36e6f006f25dadd18105d7d9f53184", func := "spindle/spindlelaw15.VoteStale", spec := "voteStale", unfollowed := true, recurses := true, apart := false }
def VoteStaleSaid : Prop := voteStaleRow.holds Try.pinned (OpenSpec.ofChange voteStaleSpec)

/-- ITS FALSE NEIGHBOUR: 'it returns false'. Refute it at one input. -/
def voteStaleWrong : ChangeSpec := { name := "voteStale", fn := fun _ => fun
  | [d1, d2, d3, d4, d5] => { results := [.lit (.bool false)], args := [d1, d2, d3, d4, d5] }
  | _ => none }
def VoteStaleWrongFalsely : Prop := voteStaleRow.holds Try.pinned (OpenSpec.ofChange voteStaleWrong)

/-- 'spindlelaw15.VoteBlank': WHATEVER THE INPUT: true; the input reads as it did. -/
def voteBlankSpec : ChangeSpec := { name := "voteBlank", fn := fun _ => fun
  | [d] => { results := [.lit (.bool true)], args := [d] }
  | _ => none }
def voteBlankRow : OpenClaim := { program := "ytffpjefecmkfmaa", sum := "7552e41a523d23035ab78cf0dfe0b3f42d36e6f006f25dadd18105d7d9f53184", func := "spindle/spindlelaw15.VoteBlank", spec := "voteBlank", unfollowed := true, recurses := true, apart := false }
def VoteBlankSaid : Prop := voteBlankRow.holds Try.pinned (OpenSpec.ofChange voteBlankSpec)

/-- ITS FALSE NEIGHBOUR: 'it returns false'. Refute it at one input. -/
def voteBlankWrong : ChangeSpec := { name := "voteBlank", fn := fun _ => fun
  | [d] => { results := [.lit (.bool false)], args := [d] }
  | _ => none }
def VoteBlankWrongFalsely : Prop := voteBlankRow.holds Try.pinned (OpenSpec.ofChange voteBlankWrong)

/-- 'spindlelaw15.VoteGuide': WHATEVER THE INPUT: true; the input reads as it did. -/
def voteGuideSpec : ChangeSpec := { name := "voteGuide", fn := fun _ => fun
  | [d] => { results := [.lit (.bool true)], args := [d] }
  | _ => none }
def voteGuideRow : OpenClaim := { program := "ytffpjefecmkfmaa", sum := "7552e41a523d23035ab78cf0dfe0b3f42d36e6f006f25dadd18105d7d9f53184", func := "spindle/spindlelaw15.VoteGuide", spec := "voteGuide", unfollowed := true, recurses := true, apart := false }
def VoteGuideSaid : Prop := voteGuideRow.holds Try.pinned (OpenSpec.ofChange voteGuideSpec)

/-- ITS FALSE NEIGHBOUR: 'it returns false'. Refute it at one input. -/
def voteGuideWrong : ChangeSpec := { name := "voteGuide", fn := fun _ => fun
  | [d] => { results := [.lit (.bool false)], args := [d] }
  | _ => none }
def VoteGuideWrongFalsely : Prop := voteGuideRow.holds Try.pinned (OpenSpec.ofChange voteGuideWrong)

/-- 'spindlelaw15.VoteTwo': WHATEVER THE INPUT: true; the input reads as it did. -/
def voteTwoSpec : ChangeSpec := { name := "voteTwo", fn := fun _ => fun
  | [d1, d2, d3, d4] => { results := [.lit (.bool true)], args := [d1, d2, d3, d4] }
  | _ => none }
def voteTwoRow : OpenClaim := { program := "ytffpjefecmkfmaa", sum := "7552e41a523d23035ab78cf0dfe0b3f42d36e6f006f25dadd18105d7d9f53184", func := "spindle/spindlelaw15.VoteTwo", spec := "voteTwo", unfollowed := true, recurses := true, apart := false }
def VoteTwoSaid : Prop := voteTwoRow.holds Try.pinned (OpenSpec.ofChange voteTwoSpec)

/-- ITS FALSE NEIGHBOUR: 'it returns false'. Refute it at one input. -/
def voteTwoWrong : ChangeSpec := { name := "voteTwo", fn := fun _ => fun
  | [d1, d2, d3, d4] => { results := [.lit (.bool false)], args := [d1, d2, d3, d4] }
  | _ => none }
def VoteTwoWrongFalsely : Prop := voteTwoRow.holds Try.pinned (OpenSpec.ofChange voteTwoWrong)

/- THE SECOND FORM. 'bulk': how many values and letters a reading holds, each counted each time it is reached (what is shared counts as often as it is met; a slice's spare places count too). A statement '..UptoSaid' is the law's where the arguments, and the package variables that the reading takes, are together of bulk at most 1048576: NARROWER than '..Said'. Prove '..Said' where nothing that the law and all that it calls make is longer than what came in: it says more and counts as full. Else prove '..UptoSaid'. A law counts once. -/
mutual
def uptoBulk {H : Type} : DataW H → Nat
  | .lit (.string bytes) => bytes.length + 1
  | .lit _ => 1
  | .nil => 1
  | .ptr d => uptoBulk d + 1
  | .slice elems spare => uptoBulkAll elems + uptoBulkAll spare + 1
  | .agg parts => uptoBulkAll parts + 1
  | .iface _ d => uptoBulk d + 1
  | .map entries => uptoBulkEntries entries + 1
  | .held _ => 1
def uptoBulkAll {H : Type} : List (DataW H) → Nat
  | [] => 0
  | d :: r => uptoBulk d + uptoBulkAll r
def uptoBulkEntries {H : Type} : List (Lit × DataW H) → Nat
  | [] => 0
  | x :: r => uptoBulkEntry x + uptoBulkEntries r
def uptoBulkEntry {H : Type} : Lit × DataW H → Nat
  | (.string bytes, d) => bytes.length + uptoBulk d + 1
  | (_, d) => uptoBulk d + 1
 end
def uptoSmall : (H : Type) → List (DataW H) → Bool := fun _ ds => decide (uptoBulkAll ds ≤ 1048576)
def OpenSpec.upto (s : _root_.Go.ChangeSpec) : _root_.Go.OpenSpec := { _root_.Go.OpenSpec.ofChange s with cond := some uptoSmall }

/-- 'spindlelaw15.VoteKeeps', WHERE WHAT IT READS IS OF BULK AT MOST 1048576: true; the input reads as it did. -/
def voteKeepsUptoRow : OpenClaim := { program := "ytffpjefecmkfmaa", sum := "7552e41a523d23035ab78cf0dfe0b3f42d36e6f006f25dadd18105d7d9f53184", func := "spindle/spindlelaw15.VoteKeeps", spec := "voteKeeps", unfollowed := true, recurses := true, apart := false, narrowed := true }
def VoteKeepsUptoSaid : Prop := voteKeepsUptoRow.holds Try.pinned (OpenSpec.upto voteKeepsSpec)

/-- 'spindlelaw15.VoteStale', WHERE WHAT IT READS IS OF BULK AT MOST 1048576: true; the input reads as it did. -/
def voteStaleUptoRow : OpenClaim := { program := "ytffpjefecmkfmaa", sum := "7552e41a523d23035ab78cf0dfe0b3f42d36e6f006f25dadd18105d7d9f53184", func := "spindle/spindlelaw15.VoteStale", spec := "voteStale", unfollowed := true, recurses := true, apart := false, narrowed := true }
def VoteStaleUptoSaid : Prop := voteStaleUptoRow.holds Try.pinned (OpenSpec.upto voteStaleSpec)

/-- 'spindlelaw15.VoteBlank', WHERE WHAT IT READS IS OF BULK AT MOST 1048576: true; the input reads as it did. -/
def voteBlankUptoRow : OpenClaim := { program := "ytffpjefecmkfmaa", sum := "7552e41a523d23035ab78cf0dfe0b3f42d36e6f006f25dadd18105d7d9f53184", func := "spindle/spindlelaw15.VoteBlank", spec := "voteBlank", unfollowed := true, recurses := true, apart := false, narrowed := true }
def VoteBlankUptoSaid : Prop := voteBlankUptoRow.holds Try.pinned (OpenSpec.upto voteBlankSpec)

/-- 'spindlelaw15.VoteGuide', WHERE WHAT IT READS IS OF BULK AT MOST 1048576: true; the input reads as it did. -/
def voteGuideUptoRow : OpenClaim := { program := "ytffpjefecmkfmaa", sum := "7552e41a523d23035ab78cf0dfe0b3f42d36e6f006f25dadd18105d7d9f53184", func := "spindle/spindlelaw15.VoteGuide", spec := "voteGuide", unfollowed := true, recurses := true, apart := false, narrowed := true }
def VoteGuideUptoSaid : Prop := voteGuideUptoRow.holds Try.pinned (OpenSpec.upto voteGuideSpec)

/-- 'spindlelaw15.VoteTwo', WHERE WHAT IT READS IS OF BULK AT MOST 1048576: true; the input reads as it did. -/
def voteTwoUptoRow : OpenClaim := { program := "ytffpjefecmkfmaa", sum := "7552e41a523d23035ab78cf0dfe0b3f42d36e6f006f25dadd18105d7d9f53184", func := "spindle/spindlelaw15.VoteTwo", spec := "voteTwo", unfollowed := true, recurses := true, apart := false, narrowed := true }
def VoteTwoUptoSaid : Prop := voteTwoUptoRow.holds Try.pinned (OpenSpec.upto voteTwoSpec)

end Rows
end Go.Proofs.Ytffpjefecmkfmaa
