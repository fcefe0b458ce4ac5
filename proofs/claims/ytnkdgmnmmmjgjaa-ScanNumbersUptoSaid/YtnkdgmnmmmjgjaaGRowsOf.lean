/-
  Which blocks rows lie in. By an AI agent.
-/
import Derived.Test.YtnkdgmnmmmjgjaaGOwnMem
namespace Go.Proofs.Ytnkdgmnmmmjgjaa
open Go.RowKit

/-- The blocks of some lists. -/
def rowsOf (vs : List (Value × List Value)) : List Nat := vs.filterMap fun p => p.1.ownBlock

theorem rowsOf_mem {vs : List (Value × List Value)} {j : Nat} {v : Value} {xs : List Value} {g : Nat} (h : vs[j]? = some (v, xs)) (hg : v.ownBlock = some g) : g ∈ rowsOf vs :=
  List.mem_filterMap.2 ⟨_, List.mem_of_getElem? h, hg⟩

theorem rowsOf_spec {vs : List (Value × List Value)} {g : Nat} (h : g ∈ rowsOf vs) : ∃ (j : Nat) (v : Value) (xs : List Value), vs[j]? = some (v, xs) ∧ v.ownBlock = some g := by
  obtain ⟨⟨v, xs⟩, hm, hg⟩ := List.mem_filterMap.1 h
  obtain ⟨j, hj⟩ := List.mem_iff_getElem?.1 hm
  exact ⟨j, v, xs, hj, hg⟩

end Go.Proofs.Ytnkdgmnmmmjgjaa
