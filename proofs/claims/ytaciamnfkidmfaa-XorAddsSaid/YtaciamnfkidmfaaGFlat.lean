/-
  All the bytes of some rows. No function of the program is named here. By an AI agent.
-/
import Derived.Test.YtaciamnfkidmfaaGRows
import Derived.Test.YtaciamnfkidmfaaGNats
namespace Go.Proofs.Ytaciamnfkidmfaa
open Go.RowKit

/-- All the bytes of some rows, in order. -/
def flat (ds : List RowD) : List Int := (ds.map (·.bs)).flatten

theorem flat_snoc (ds : List RowD) (d : RowD) : flat (ds ++ [d]) = flat ds ++ d.bs := by simp [flat]

theorem flat_next {ds : List RowD} {k : Nat} {d : RowD} (h : ds[k]? = some d) : flat (ds.take (k + 1)) = flat (ds.take k) ++ d.bs := by rw [take_snoc h, flat_snoc]

theorem flat_len_le (ds : List RowD) (k : Nat) : (flat (ds.take k)).length ≤ (flat ds).length := by
  have : flat ds = flat (ds.take k) ++ flat (ds.drop k) := by
    unfold flat
    rw [← List.flatten_append, ← List.map_append, List.take_append_drop]
  rw [this, List.length_append]
  omega

theorem flat_by {ds : List RowD} (h : ∀ (i : Nat) (d : RowD), ds[i]? = some d → By d.bs) (k : Nat) : By (flat (ds.take k)) := by
  intro x hx
  unfold flat at hx
  obtain ⟨l, hl, hx⟩ := List.mem_flatten.1 hx
  obtain ⟨d, hd, rfl⟩ := List.mem_map.1 hl
  obtain ⟨i, hi⟩ := List.mem_iff_getElem?.1 (List.mem_of_mem_take hd)
  exact h i d hi x hx

theorem Rws.by_ {w : World} {v : Value} {ds : List RowD} (h : Rws w v ds) : ∀ (i : Nat) (d : RowD), ds[i]? = some d → By d.bs := by
  intro i d hd
  obtain ⟨ao, c, rfl⟩ := h.slice
  obtain ⟨b, o, _, _, R⟩ := h.at hd
  exact R.by_

theorem RowIn.chg {w w' : World} {b o : Nat} {d : RowD} (h : RowIn w b o d) (hb : b < w.heap.size) (c : Chg [] w w') : RowIn w' b o d :=
  ⟨(c.cell (p := ⟨b, o, none⟩) hb (by simp)).trans h.c0, h.sl.chgNil c, h.by_, h.big⟩

/-- Rows that are not too much. -/
theorem flat_small {ds : List RowD} {d : RowD} (h : d ∈ ds) : d.bs.length ≤ (flat ds).length := by
  obtain ⟨a, b, rfl⟩ := List.append_of_mem h
  unfold flat
  simp
  omega

end Go.Proofs.Ytaciamnfkidmfaa
