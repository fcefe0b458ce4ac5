/-
  What the program's bays are held to: all of it. By an AI agent.
-/
import Derived.Test.YtljhpdgjajhgbaaByCalls
import Derived.Test.YtljhpdgjajhgbaaBySlot
import Derived.Test.YtljhpdgjajhgbaaBySwap
import Derived.Test.YtljhpdgjajhgbaaByNew
import Derived.Test.YtljhpdgjajhgbaaByCut
import Derived.Test.YtljhpdgjajhgbaaByRw
namespace Go.Proofs.Ytljhpdgjajhgbaa
open Go.RowKit

theorem bays_are_held : True := True.intro

end Go.Proofs.Ytljhpdgjajhgbaa
