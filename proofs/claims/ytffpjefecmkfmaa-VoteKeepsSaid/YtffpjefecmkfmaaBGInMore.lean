/-
  More that came in: ints, bools, bools' rows; structs whose fields take one cell each. By an AI agent.
-/
import Derived.Test.YtffpjefecmkfmaaBGRows
import Derived.Test.YtffpjefecmkfmaaBGOwnMem
import Derived.Deep.Grids
namespace Go.Proofs.Ytffpjefecmkfmaa
open Go.RowKit

section
open Go.ChangeShapes Go.WideShapes Go.Deep
variable {H : Type} {enc : TypeId × Value → H} {P : Program} {w : World} {base : Nat} {spare : Nat → Bool} {held : Bool}
end

theorem RdV.chgNil {w w' : World} {v : Value} {xs : List Value} (h : RdV w v xs) (c : Chg [] w w') : RdV w' v xs := h.chg c (fun _ _ => by simp)

theorem Rws.chgNil {w w' : World} {v : Value} {ds : List RowD} (h : Rws w v ds) (c : Chg [] w w') : Rws w' v ds := h.chg c

section
open Go.ChangeShapes Go.WideShapes Go.Deep Go.ChangeAt
variable {H : Type} {enc : TypeId × Value → H} {W : World}

/-- Numbers as an int has them. -/
def Is (zs : List Int) : Prop := ∀ z ∈ zs, -9223372036854775808 ≤ z ∧ z ≤ 9223372036854775807

/-- One list of bools: its slice, and the bools. -/
structure BoolD where
  v : Value
  bs : List Bool

/-- It lies in a cell. -/
structure BoolIn (w : World) (b o : Nat) (d : BoolD) : Prop where
  c0 : w.cell? ⟨b, o, none⟩ = some d.v
  rd : RdV w d.v (d.bs.map Value.bool)
  big : d.bs.length ≤ 140737488355328

/-- The slice v reads as these lists of bools. -/
def BRs (w : World) (v : Value) (ds : List BoolD) : Prop :=
  (ds = [] ∧ ∃ ao c, v = .slice ao 0 c) ∨ ∃ b o c, v = .slice (some ⟨b, o, none⟩) ds.length c ∧ b < w.heap.size ∧ ds.length ≤ 140737488355328 ∧ ∀ i d, ds[i]? = some d → BoolIn w b (o + i) d

theorem BRs.slice {w : World} {v : Value} {ds : List BoolD} (h : BRs w v ds) : ∃ ao c, v = .slice ao ds.length c := by
  rcases h with ⟨rfl, ao, c, rfl⟩ | ⟨b, o, cp, rfl, _⟩
  · exact ⟨ao, c, rfl⟩
  · exact ⟨_, _, rfl⟩

theorem BRs.len {w : World} {v : Value} {ds : List BoolD} (h : BRs w v ds) : ds.length ≤ 140737488355328 := by
  rcases h with ⟨rfl, _⟩ | ⟨b, o, cp, rfl, _, h, _⟩
  · simp
  · exact h

theorem BRs.at {w : World} {ao : Option Addr} {n c : Nat} {ds : List BoolD} (h : BRs w (.slice ao n c) ds) {i : Nat} {d : BoolD} (hi : ds[i]? = some d) : ∃ b o, ao = some ⟨b, o, none⟩ ∧ b < w.heap.size ∧ BoolIn w b (o + i) d := by
  rcases h with ⟨rfl, _⟩ | ⟨b, o, cp, hv, hb, _, h⟩
  · simp at hi
  · obtain ⟨rfl, -, -⟩ : ao = some ⟨b, o, none⟩ ∧ n = ds.length ∧ c = cp := by simpa using hv
    exact ⟨b, o, rfl, hb, h i d hi⟩

theorem BRs.chgNil {w w' : World} {v : Value} {ds : List BoolD} (h : BRs w v ds) (c : Chg [] w w') : BRs w' v ds := by
  rcases h with h | ⟨b, o, cp, rfl, hb, hl, h⟩
  · exact .inl h
  · refine .inr ⟨b, o, cp, rfl, Nat.lt_of_lt_of_le hb c.size, hl, fun i d hd => ?_⟩
    have k := h i d hd
    exact ⟨(c.cell (p := ⟨b, o + i, none⟩) hb (by simp)).trans k.c0, k.rd.chgNil c, k.big⟩

end
end Go.Proofs.Ytffpjefecmkfmaa
