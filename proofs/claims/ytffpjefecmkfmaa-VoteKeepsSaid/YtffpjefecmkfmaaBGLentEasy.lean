/-
  What lists that are lent need in common. No function of the program is named here. By an AI agent.
-/
import Derived.Test.YtffpjefecmkfmaaBG
import Derived.Test.YtffpjefecmkfmaaBGSame
namespace Go.Proofs.Ytffpjefecmkfmaa
open Go.RowKit

end Go.Proofs.Ytffpjefecmkfmaa
namespace Go.Proofs.Ytffpjefecmkfmaa
open Go.RowKit

theorem Blk.sl {w : World} {g n : Nat} {xs ys : List Int} (h : Blk w g 5 ((xs ++ ys).map (Value.int .u8))) : Sl w (.slice (some ⟨g, 0, none⟩) xs.length n) xs :=
  .inr ⟨g, 0, n, rfl, h.lt, fun j hj => by rw [Nat.zero_add]; exact h.cell (by simp [List.getD, List.getElem?_append_left, hj])⟩

end Go.Proofs.Ytffpjefecmkfmaa
