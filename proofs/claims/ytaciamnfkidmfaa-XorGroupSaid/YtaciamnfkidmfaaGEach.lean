/-
  Two or three rows, each as it must be. By an AI agent.
-/
import Derived.Test.YtaciamnfkidmfaaGRows
namespace Go.Proofs.Ytaciamnfkidmfaa
open Go.RowKit

theorem each2 {p : RowD → Prop} {a b : RowD} (ha : p a) (hb : p b) : ∀ d ∈ [a, b], p d := by
  intro d hd
  rcases List.mem_cons.1 hd with rfl | hd
  · exact ha
  · rw [List.mem_singleton.1 hd]; exact hb

theorem each3 {p : RowD → Prop} {a b c : RowD} (ha : p a) (hb : p b) (hc : p c) : ∀ d ∈ [a, b, c], p d := by
  intro d hd
  rcases List.mem_cons.1 hd with rfl | hd
  · exact ha
  · exact each2 hb hc d hd

end Go.Proofs.Ytaciamnfkidmfaa
