/-
  What the program's disks are held to: all of it; and what a walk tells of what it hands to Crash. By an AI agent.
-/
import Derived.Test.YtkafkdlgflkjgaaGreatBDkPend
import Derived.Test.YtkafkdlgflkjgaaGreatBDkSettle
import Derived.Test.YtkafkdlgflkjgaaGreatBDkWrite
namespace Go.Proofs.YtkafkdlgflkjgaaGreat
open Go.RowKit

theorem RdV.old {w : World} {v : Value} {xs : List Value} (h : RdV w v xs) (hx : xs ≠ []) : ∀ k, v.ownBlock = some k → k < w.heap.size := by
 rcases h with ⟨h0, _⟩ | ⟨b, o, c, rfl, hb, _⟩
 ·exact absurd h0 hx
 ·intro k hk
  have : b = k := Option.some.inj hk
  omega

theorem OwnR.sl {w : World} {base n : Nat} {v : Value} {xs : List Int} (h : OwnR w base v n (xs.map (Value.int .u8))) : Sl w v xs := by
 obtain ⟨e, h⟩ := h
 exact Sl.owned h

end Go.Proofs.YtkafkdlgflkjgaaGreat
