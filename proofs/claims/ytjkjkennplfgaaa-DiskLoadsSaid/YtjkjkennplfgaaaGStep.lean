/-
  append of bytes at a step of a region that draws its order. No function of the program is named here. By an AI agent.
-/
import Derived.Test.YtjkjkennplfgaaaGAppend
import Derived.RegionTactic
import Derived.Deep.RegionHeld3
namespace Go.Proofs.Ytjkjkennplfgaaa
open Go.RowKit

theorem step_append_sl {P : Program} (w : World) {ops : Array Oper} {o : Oper} {a : Act} {K : Act → World → Prop} {Q : Exit → Act → World → Prop} {E : Prop} (hgd : o.guard = none) (s x : Operand) (t : TypeId)
    (ho : o.op = .call { callee := .builtin .append, args := #[s, x], argTypes := #[t, t] })
    (base : Nat) (e : TypeId) (i : TypeInfo) (z : Value) (bytes : Nat) (ht : P.underlying t = some (.slice e)) (hi : P.info? e = some i) (hz : i.zero = some z)
    (hsize : i.size = 1) (hby : i.bytes = bytes) (hzs : z.cells.size = 1)
    (v : Value) (n : Nat) (xs : List Value) (hs : a.eval s = v) (hown : w.ownsRow base e 1 v n xs)
    (ao : Option Addr) (m c : Nat) (ys : List Int) (hx : a.eval x = .slice ao m c) (hsl : Sl w (.slice ao m c) ys)
    (h63 : n + ys.length ≤ maxLen) (hbytes : (n + ys.length) * bytes ≤ 140737488355328) (hbase : base ≤ w.heap.size)
    (h : ∀ uo uc w', Hid (w'.ownsRow base e 1 (.slice uo (n + ys.length) uc) (n + ys.length) (xs ++ ys.map (Value.int .u8))) → Hid (w.grownBy w' v.ownBlock) → Hid ((Value.slice uo (n + ys.length) uc).ownBlock = v.ownBlock ∨ ((Value.slice uo (n + ys.length) uc).ownBlock = some w.heap.size ∧ w.grownBy w' none)) → K (a.put o.dst (.slice uo (n + ys.length) uc)) w') :
    if Region.wanted o (yielded ops a.tmps) = true then Oper.wp P o a w K Q else E := by
  have hw : Region.wanted o (yielded ops a.tmps) = true := by simp [Region.wanted, hgd]
  rw [if_pos hw]
  obtain ⟨v', w', hr, h2, h3, h4⟩ := run_append_sl (P := P) w base t o.type e i z bytes ht hi hz hsize hby hzs v n xs hown ao m c ys hsl h63 hbytes hbase
  obtain ⟨uo, uc, rfl⟩ := owns_slice h2
  unfold Oper.wp
  simp [execOp, ho, resolve, invoke, builtin, hs, hx, hr, Result.andThen]
  exact h _ _ _ h2 h3 h4

end Go.Proofs.Ytjkjkennplfgaaa
