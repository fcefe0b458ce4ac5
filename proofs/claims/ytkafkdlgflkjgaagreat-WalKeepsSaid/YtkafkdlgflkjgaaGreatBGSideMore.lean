/-
  Things side by side: a call that turns one of them and hands out a row of its own. No function of the program is named here. By an AI agent.
-/
import Derived.Test.YtkafkdlgflkjgaaGreatBGOwnMem
import Derived.Test.YtkafkdlgflkjgaaGreatBG
namespace Go.Proofs.YtkafkdlgflkjgaaGreat
open Go.RowKit

/-- What a call does that turns the thing whose blocks are F, and hands out bytes in memory of their own. -/
def TurnsGives (w : World) (F : List Nat) (T : List Nat → Thing) (u : Value) (xs : List Nat) (w' : World) : Prop :=
 ∃ t F', (T F').P w' ∧ (∀ k ∈ (T F').F, k ∈ F ∨ w.heap.size ≤ k) ∧ Chg F w w' ∧ w'.ownsRow w.heap.size t 1 u xs.length ((ints xs).map (Value.int .u8)) ∧ ∀ k, u.ownBlock = some k → k ∉ (T F').F

theorem Side.actOwn {w0 w w' : World} {a : Thing} {ts : List Thing} {T : List Nat → Thing} {u : Value} {xs : List Nat} (h : Side w0 w ts) (i : Nat) (hi : ts[i]? = some a) (c : TurnsGives w a.F T u xs w') :
 ∃ t F', Side w0 w' (ownT t u ((ints xs).map (Value.int .u8)) :: ts.set i (T F')) := by
 obtain ⟨t, F', h1, h2, h3, h4, h5⟩ := c
 have h0 := h.turnAt i hi h3 (fun k hk => .inl hk) h1 h2
 have hl : ((ints xs).map (Value.int .u8)).length = xs.length := by simp [ints]
 have hne : ∀ b ∈ ts.set i (T F'), b.F = (T F').F ∨ ∀ k ∈ b.F, k < w.heap.size := fun b hb => by
  rcases List.mem_or_eq_of_mem_set hb with hb | rfl
  ·exact .inr (b.lt w (h.each b hb))
  ·exact .inl rfl
 refine ⟨t, F', ⟨fun b hb => ?_, List.pairwise_cons.2 ⟨fun b hb => ?_, h0.apart⟩, fun b hb k hk => ?_, h0.chg⟩⟩
 ·rcases List.mem_cons.1 hb with rfl | hb
  ·show w'.ownsRow 0 t 1 u _ _
   rw [hl]
   exact ownsRow_base h4 (Nat.zero_le _)
  ·exact h0.each b hb
 ·intro k hk hm
  have hk2 : u.ownBlock = some k := by simpa [ownT] using hk
  rcases hne b hb with q | q
  ·rw [q] at hm
   exact h5 k hk2 hm
  ·have := q k hm
   have := (h4.lt k hk2).1
   omega
 ·rcases List.mem_cons.1 hb with rfl | hb
  ·have hk2 : u.ownBlock = some k := by simpa [ownT] using hk
   have := (h4.lt k hk2).1
   have := h.chg.size
   omega
  ·exact h0.new b hb k hk

end Go.Proofs.YtkafkdlgflkjgaaGreat
