/-
  Lists of states that are the same, and that are lent. By an AI agent. Printed by gen_states.py.
-/
import Derived.Test.YtffpjefecmkfmaaBGLentEasy
namespace Go.Proofs.Ytffpjefecmkfmaa
open Go.RowKit

theorem info_state : (Try.prog.info? 37).map (fun i => (i.zero, i.size, i.bytes)) = some (some (.int .u8 0), 1, 1) := by kernel_rfl

theorem Blk.sls {w : World} {g n : Nat} {xs ys : List Int} (h : Blk w g 37 ((xs ++ ys).map (Value.int .u8))) : Sl w (.slice (some ⟨g, 0, none⟩) xs.length n) xs :=
  .inr ⟨g, 0, n, rfl, h.lt, fun j hj => by rw [Nat.zero_add]; exact h.cell (by simp [List.getD, List.getElem?_append_left, hj])⟩

end Go.Proofs.Ytffpjefecmkfmaa
