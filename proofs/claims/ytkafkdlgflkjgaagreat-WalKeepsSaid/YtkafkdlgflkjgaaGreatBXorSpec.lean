/-
  What rows of bytes come to, in the document's words. No function of the program is named here. By an AI agent.
-/
import Derived.Test.YtkafkdlgflkjgaaGreatBGIn
import Derived.Test.YtkafkdlgflkjgaaGreatBG
import Derived.Test.YtkafkdlgflkjgaaGreatBMem
namespace Go.Proofs.YtkafkdlgflkjgaaGreat
open Go.RowKit

/-- The first place at which two rows differ, from the i-th on. -/
def firstFrom (i : Nat) : List Nat → List Nat → Int
 | [], [] => -1
 | [], _ :: _ => i
 | _ :: _, [] => i
 | x :: a, y :: b => if x = y then firstFrom (i + 1) a b else i
def first (a b : List Nat) : Int := firstFrom 0 a b

end Go.Proofs.YtkafkdlgflkjgaaGreat
