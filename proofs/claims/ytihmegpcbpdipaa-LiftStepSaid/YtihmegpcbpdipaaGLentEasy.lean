/-
  What lists that are lent need in common. No function of the program is named here. By an AI agent.
-/
import Derived.Test.YtihmegpcbpdipaaG
namespace Go.Proofs.Ytihmegpcbpdipaa
open Go.RowKit

theorem u8s_one (xs : List Int) : ∀ u ∈ xs.map (Value.int .u8), u.oneCell' = true := by
  intro u hu
  obtain ⟨x, _, rfl⟩ := List.mem_map.1 hu
  rfl

theorem add_block (a : Addr) (j : Nat) : (a.add j).block = a.block := by unfold Addr.add; split <;> rfl

theorem lent_cells {w w1 : World} {ad : Addr} {xs : List Int} (hcell : ∀ j u, (xs.map (Value.int .u8))[j]? = some u → w.cell? (ad.add j) = some u) (hlt : xs = [] ∨ ad.block < w.heap.size) (c : Chg [] w w1) :
    ∀ j u, (xs.map (Value.int .u8))[j]? = some u → w1.cell? (ad.add j) = some u := by
  intro j u hj
  rcases hlt with rfl | h
  · simp at hj
  · rw [← hcell j u hj]
    exact c.cell (by rw [add_block]; exact h) (by simp)

theorem two_cells (w : World) (x y : Value) (e : TypeId) : ∀ j u, [x, y][j]? = some u → (w.alloc (.cells #[x, y] e)).cell? ((⟨w.heap.size, 0, none⟩ : Addr).add j) = some u := by
  intro j u hj
  have := (Blk.made w [x, y] e).cell hj
  rw [Addr.add_lit, Nat.zero_add]
  exact this

end Go.Proofs.Ytihmegpcbpdipaa
