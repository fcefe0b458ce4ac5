/-
  Lists of bytes that came in: a slice of slices. By an AI agent.
-/
import Derived.Test.YtnkdgmnmmmjgjaaGIn
namespace Go.Proofs.Ytnkdgmnmmmjgjaa
open Go.RowKit

/-- One list of bytes: its slice, and the bytes. -/
structure RowD where
  v : Value
  bs : List Int

/-- It lies in a cell. -/
structure RowIn (w : World) (b o : Nat) (d : RowD) : Prop where
  c0 : w.cell? ⟨b, o, none⟩ = some d.v
  sl : Sl w d.v d.bs
  by_ : By d.bs
  big : d.bs.length ≤ 140737488355328

/-- The slice v reads as these lists of bytes. -/
def Rws (w : World) (v : Value) (ds : List RowD) : Prop :=
  (ds = [] ∧ ∃ ao c, v = .slice ao 0 c) ∨ ∃ b o c, v = .slice (some ⟨b, o, none⟩) ds.length c ∧ b < w.heap.size ∧ ds.length ≤ 140737488355328 ∧ ∀ i d, ds[i]? = some d → RowIn w b (o + i) d

theorem Rws.slice {w : World} {v : Value} {ds : List RowD} (h : Rws w v ds) : ∃ ao c, v = .slice ao ds.length c := by
  rcases h with ⟨rfl, ao, c, rfl⟩ | ⟨b, o, cp, rfl, _⟩
  · exact ⟨ao, c, rfl⟩
  · exact ⟨_, _, rfl⟩

theorem Rws.len {w : World} {v : Value} {ds : List RowD} (h : Rws w v ds) : ds.length ≤ 140737488355328 := by
  rcases h with ⟨rfl, _⟩ | ⟨b, o, cp, rfl, _, h, _⟩
  · simp
  · exact h

/-- The i-th of them. -/
theorem Rws.at {w : World} {ao : Option Addr} {n c : Nat} {ds : List RowD} (h : Rws w (.slice ao n c) ds) {i : Nat} {d : RowD} (hi : ds[i]? = some d) : ∃ b o, ao = some ⟨b, o, none⟩ ∧ b < w.heap.size ∧ RowIn w b (o + i) d := by
  rcases h with ⟨rfl, _⟩ | ⟨b, o, cp, hv, hb, _, h⟩
  · simp at hi
  · obtain ⟨rfl, -, -⟩ : ao = some ⟨b, o, none⟩ ∧ n = ds.length ∧ c = cp := by simpa using hv
    exact ⟨b, o, rfl, hb, h i d hi⟩

theorem Sl.chgNil {w w' : World} {v : Value} {xs : List Int} (h : Sl w v xs) (c : Chg [] w w') : Sl w' v xs := h.chg c (fun _ _ => by simp)

/-- They read the same while nothing that was there is turned. -/
theorem Rws.chg {w w' : World} {v : Value} {ds : List RowD} (h : Rws w v ds) (c : Chg [] w w') : Rws w' v ds := by
  rcases h with h | ⟨b, o, cp, rfl, hb, hl, h⟩
  · exact .inl h
  · refine .inr ⟨b, o, cp, rfl, Nat.lt_of_lt_of_le hb c.size, hl, fun i d hd => ?_⟩
    have k := h i d hd
    exact ⟨(c.cell (p := ⟨b, o + i, none⟩) hb (by simp)).trans k.c0, k.sl.chgNil c, k.by_, k.big⟩

end Go.Proofs.Ytnkdgmnmmmjgjaa
