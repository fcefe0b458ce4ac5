/-
  Shorts that came in. By an AI agent.
-/
import Derived.Test.YtheplbjlfkjncaaGInMore
namespace Go.Proofs.Ytheplbjlfkjncaa
open Go.RowKit
open Go.ChangeShapes Go.WideShapes Go.Deep
variable {H : Type} {enc : TypeId × Value → H} {W : World}

theorem cells_short : Try.prog.cellsOf 24 = 1 := by kernel_rfl
theorem bytes_short : Try.prog.bytesOf 24 = 2 := by kernel_rfl

def Shorts (zs : List Int) : Prop := ∀ z ∈ zs, 0 ≤ z ∧ z ≤ 65535

theorem open_shorts_fit {fuel : Nat} {v : Value} {x : DataW H × List MemPlace} (h : DataW.trod enc Try.prog W 0 (fun _ => true) true fuel 51 [v] = some x) (hf : Fits 51 x.1) :
    ∃ zs : List Int, RdV W v (zs.map (Value.int .u16)) ∧ Shorts zs ∧ zs.length ≤ 140737488355328 := by
  rcases open_ints Try.underlying51 Try.underlying24 cells_short h with ⟨hcs, hx⟩ | ⟨a, len, cap, zs, hcs, _, hl, hm, hz, hx, hcell, hwz⟩
  · obtain rfl : v = .slice none 0 0 := by simpa using hcs
    exact ⟨[], .inl ⟨rfl, _, _, rfl⟩, (fun z hz => by cases hz), by simp⟩
  · obtain rfl : v = .slice (some a) len cap := by simpa using hcs
    simp only [if_true] at hz
    have hlen : (zs.take len).length = len := by simp; omega
    have hbig : len ≤ 140737488355328 := by
      subst hx
      have := Fits.len hf Try.underlying51
      rw [bytes_short] at this
      simp only [lits, List.length_map, List.length_take, List.length_drop, reachBytes] at this
      omega
    have hby : Shorts (zs.take len) := fun y hy => bounds_u16 (hwz y (List.mem_of_mem_take hy))
    by_cases h0 : len = 0
    · subst h0
      exact ⟨[], .inl ⟨rfl, _, _, rfl⟩, (fun z hz => by cases hz), by simp⟩
    · obtain ⟨b, off, spot⟩ := a
      obtain rfl : spot = none := by simpa [Addr.add] using World.cell?_spot (hcell 0 (by omega))
      refine ⟨zs.take len, .inr ⟨b, off, cap, by rw [List.length_map, hlen], ?_, fun j u hj => ?_⟩, hby, by omega⟩
      · have := hcell 0 (by omega)
        exact World.block_lt_of_cell? W _ this
      · have hjl : j < len := by
          have := (List.getElem?_eq_some_iff.1 hj).1
          simp at this
          omega
        have := hcell j (by omega)
        rw [Addr.add_lit] at this
        rw [this, ← hj]
        simp [List.getD, hjl, List.getElem?_eq_getElem (show j < zs.length by omega)]

end Go.Proofs.Ytheplbjlfkjncaa
