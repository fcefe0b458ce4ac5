/-
  What the program's disks are held to: all of it; and what a walk tells of what it hands to Crash. By an AI agent.
-/
import Derived.Test.YtljhpdgjajhgbaaDkPend
import Derived.Test.YtljhpdgjajhgbaaDkFlush
import Derived.Test.YtljhpdgjajhgbaaDkWrite
import Derived.Test.YtljhpdgjajhgbaaDkLoad
namespace Go.Proofs.Ytljhpdgjajhgbaa
open Go.RowKit

theorem Side.offAt {w0 w : World} {ts : List Thing} (h : Side w0 w ts) {i j : Nat} {a b : Thing} (hi : ts[i]? = some a) (hj : ts[j]? = some b) (hij : i ≠ j) : a.off b := by
  have hp := List.pairwise_iff_getElem.1 h.apart
  obtain ⟨h1, rfl⟩ := List.getElem?_eq_some_iff.1 hi
  obtain ⟨h2, rfl⟩ := List.getElem?_eq_some_iff.1 hj
  rcases Nat.lt_or_ge i j with q | q
  · exact hp i j h1 h2 q
  · exact (hp j i h2 h1 (by omega)).symm

theorem RdV.old {w : World} {v : Value} {xs : List Value} (h : RdV w v xs) (hx : xs ≠ []) : ∀ k, v.ownBlock = some k → k < w.heap.size := by
  rcases h with ⟨h0, _⟩ | ⟨b, o, c, rfl, hb, _⟩
  · exact absurd h0 hx
  · intro k hk
    have : b = k := Option.some.inj hk
    omega

/-- What was there ahead of the disk. -/
theorem hold_old {w0 w : World} {ts : List Thing} (H : Side w0 w ts) {v : Value} {keep : List Bool} (hv : RdV w0 v (keep.map Value.bool)) {i g : Nat} {d : Dk} {F : List Nat} (hi : ts[i]? = some (DiskT g d F)) :
    keep ≠ [] → ∀ k, v.ownBlock = some k → k ∉ F ∧ k < w.heap.size := fun hne k hk => by
  have h1 := hv.old (by simpa using hne) k hk
  have h2 := H.chg.size
  exact ⟨fun hm => by have := H.new _ (List.mem_of_getElem? hi) k hm; omega, by omega⟩

/-- What stands beside the disk. -/
theorem hold_thing {w0 w : World} {ts : List Thing} (H : Side w0 w ts) {v : Value} {keep : List Bool} {i j g : Nat} {a : Thing} {d : Dk} {F : List Nat} (hi : ts[i]? = some a) (hj : ts[j]? = some (DiskT g d F)) (hij : i ≠ j) (hv : ∀ k, v.ownBlock = some k → k ∈ a.F) :
    keep ≠ [] → ∀ k, v.ownBlock = some k → k ∉ F ∧ k < w.heap.size := fun _ k hk =>
  ⟨H.offAt hi hj hij k (hv k hk), a.lt w (H.get i hi) k (hv k hk)⟩

theorem OwnR.sl {w : World} {base n : Nat} {v : Value} {xs : List Int} (h : OwnR w base v n (xs.map (Value.int .u8))) : Sl w v xs := by
  obtain ⟨e, h⟩ := h
  exact Sl.owned h

end Go.Proofs.Ytljhpdgjajhgbaa
