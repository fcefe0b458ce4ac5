/-
  Arrays by value, at an operation: made, read, written. No function of the program is named here. By an AI agent.
-/
import Derived.Test.YtffpjefecmkfmaaBGOwnMem
import Derived.Deep.MidRow
namespace Go.Proofs.Ytffpjefecmkfmaa
open Go.RowKit

/-- A variable of a great type is made. -/
theorem wpList_alloc_arr {P : Program} {w : World} {ops : Array Oper} {rest : List Oper} {o : Oper} {a : Act} {Q : Exit → Act → World → Prop} (hgd : o.guard = none) (t : TypeId) (ho : o.op = .alloc t)
    (i : TypeInfo) (z : Value) (hi : P.info? t = some i) (hz : i.zero = some z)
    (h : wpList P ops Q rest (a.put o.dst (.pointer (some ⟨w.heap.size, 0, none⟩))) (w.alloc (.cells z.cells t))) : wpList P ops Q (o :: rest) a w := by
  refine wpList_plain hgd fun K hK => ?_
  unfold Oper.wp
  simp [execOp, ho, Instr.alloc, zeroValue, typeInfo, hi, hz, newVar, newRow, Result.andThen]
  exact hK _ _ h

/-- Cells into the middle of a block that is known whole. -/
theorem Blk.setCells {g : Nat} {e : TypeId} : ∀ (cs : List Value) (cur : List Value) (off : Nat) (w : World), Blk w g e cur → off + cs.length ≤ cur.length → Blk (w.setCells g off cs) g e (lay cur off cs)
  | [], cur, off, w, h, _ => by rw [lay_nil]; exact h
  | v :: cs, cur, off, w, h, hl => by
    have hl' : off + (cs.length + 1) ≤ cur.length := hl
    rw [World.setCells]
    have := Blk.setCells cs (cur.set off v) (off + 1) _ (h.set off v) (by rw [List.length_set]; omega)
    rw [show Go.Proofs.Ytffpjefecmkfmaa.lay cur off (v :: cs) = Go.Proofs.Ytffpjefecmkfmaa.lay (cur.set off v) (off + 1) cs from ?_]
    · exact this
    · unfold Go.Proofs.Ytffpjefecmkfmaa.lay
      rw [List.length_cons, List.take_set, List.drop_set, if_pos (by omega), show off + (cs.length + 1) = off + 1 + cs.length by omega]
      rw [show (cur.take (off + 1)).set off v = cur.take off ++ [v] from ?_]
      · simp
      · apply List.ext_getElem?
        intro j
        by_cases hj : j < off
        · rw [List.getElem?_set_ne (by omega), List.getElem?_append_left (by simp; omega), List.getElem?_take_of_lt (by omega), List.getElem?_take_of_lt hj]
        · by_cases hj2 : j = off
          · subst hj2
            rw [List.getElem?_set_self (by simp; omega), List.getElem?_append_right (by simp; omega), List.length_take, Nat.min_eq_left (by omega), Nat.sub_self]
            rfl
          · rw [List.getElem?_eq_none (by simp; omega), List.getElem?_eq_none (by simp; omega)]

theorem Chg.setCells {s : List Nat} {a : World} {g : Nat} : ∀ (cs : List Value) (off : Nat) (w : World), Chg s a w → (g ∈ s ∨ a.heap.size ≤ g) → Chg s a (w.setCells g off cs)
  | [], _, _, h, _ => h
  | v :: cs, off, w, h, hg => by
    rw [World.setCells]
    exact Chg.setCells cs (off + 1) _ (h.setCell (p := ⟨g, off, none⟩) hg v) hg

theorem Blk.range {w : World} {g : Nat} {e : TypeId} {vs : List Value} (h : Blk w g e vs) (off n : Nat) : w.rangeAt g off ((vs.drop off).take n) := fun j v hv => by
  refine h.cell ?_
  have hj : j < n := by
    have := (List.getElem?_eq_some_iff.1 hv).1
    rw [List.length_take] at this
    omega
  rw [List.getElem?_take_of_lt hj, List.getElem?_drop] at hv
  exact hv

theorem Blk.rangeAll {w : World} {g : Nat} {e : TypeId} {vs : List Value} (h : Blk w g e vs) : w.rangeAt g 0 vs := fun j v hv => by
  rw [Nat.zero_add]
  exact h.cell hv

theorem Blk.there {w : World} {g : Nat} {e : TypeId} {vs : List Value} (h : Blk w g e vs) (off n : Nat) (hn : off + n ≤ vs.length) : w.there g off n := fun j hj => by
  have hlt : off + j < vs.length := by omega
  exact ⟨by rw [h.cell (List.getElem?_eq_getElem hlt)]; rfl, h.free _⟩

theorem lay_all {α : Type} (a b : List α) (h : b.length = a.length) : lay a 0 b = b := by
  unfold lay
  rw [List.take_zero, List.nil_append, Nat.zero_add, List.drop_eq_nil_of_le (by omega), List.append_nil]

/-- A great value into a block that is known whole. -/
theorem wpList_store_blk {P : Program} {w : World} {ops : Array Oper} {rest : List Oper} {o : Oper} {a : Act} {Q : Exit → Act → World → Prop} (hgd : o.guard = none) (ty : TypeId) (x y : Operand) (ho : o.op = .store ty x y)
    (g off : Nat) (e : TypeId) (cur cs : List Value) (hx : a.eval x = .pointer (some ⟨g, off, none⟩)) (hy : a.eval y = .agg cs.toArray)
    (hb : Blk w g e cur) (hl : off + cs.length ≤ cur.length) (hi : (P.info? ty).map (·.size) = some cs.length) (h1 : ∀ v ∈ cs, v.oneCell' = true)
    (h : ∀ w', Hid (Blk w' g e (lay cur off cs)) → Hid (Chg [g] w w') → wpList P ops Q rest (a.put o.dst undef) w') : wpList P ops Q (o :: rest) a w := by
  refine wpList_store_mid hgd ty x y ho g off cs.toArray hx hy (by simpa using hb.there off cs.length hl) (by simpa using hi) (all_oneCell_toArray h1) ?_
  exact h _ (show Blk _ _ _ _ from Blk.setCells cs cur off w hb hl) (show Chg _ _ _ from Chg.setCells cs off w (Chg.refl _ _) (.inl (by simp)))

end Go.Proofs.Ytffpjefecmkfmaa
