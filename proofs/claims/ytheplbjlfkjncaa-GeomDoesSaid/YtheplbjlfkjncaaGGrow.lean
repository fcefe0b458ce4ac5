/-
  A row of their own that grows, among things side by side. No function of the program is named here. By an AI agent.
-/
import Derived.Test.YtheplbjlfkjncaaGSide
namespace Go.Proofs.Ytheplbjlfkjncaa
open Go.RowKit

theorem Side.longer {w0 W w2 : World} {ts : List Thing} {e : TypeId} {v v' : Value} {n : Nat} {xs ys : List Value} (h : Side w0 W (ownT e v xs :: ts)) (ol : w2.ownsRow 0 e 1 v' n ys) (gr : W.grownBy w2 v.ownBlock)
    (nb : v'.ownBlock = v.ownBlock ∨ v'.ownBlock = some W.heap.size) : Side w0 w2 (ownT e v' ys :: ts) := by
  have hn : ys.length = n := owns_len ol
  subst hn
  refine h.turn (s := v.ownBlock.toList) ((Chg.refl _ _).grown gr (fun k hk => .inl (by simp [hk]))) (fun k hk => .inl hk) ol (fun k hk => ?_)
  have hk2 : v'.ownBlock = some k := by simpa [ownT] using hk
  rcases nb with q | q
  · exact .inl (by rw [q] at hk2; simpa [ownT] using hk2)
  · rw [q] at hk2
    exact .inr (Nat.le_of_eq (Option.some.inj hk2))

end Go.Proofs.Ytheplbjlfkjncaa
