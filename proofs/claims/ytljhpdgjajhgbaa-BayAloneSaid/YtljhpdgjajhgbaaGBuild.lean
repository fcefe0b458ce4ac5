/-
  Values of many cells, built: a struct of a number and an array, a slice of one such; an append of one such, at a step of a region that draws its order. No function of the program is named here. By an AI agent.
-/
import Derived.Test.YtljhpdgjajhgbaaGArr
import Derived.Laws.Tables
namespace Go.Proofs.Ytljhpdgjajhgbaa
open Go.RowKit

theorem fold_lay (off : Nat) : ∀ (cs : List Value) (i : Nat) (base : Array Value), off + i + cs.length ≤ base.size →
    ((cs.zipIdx i).foldl (fun b (p : Value × Nat) => b.setIfInBounds (off + p.2) p.1) base).toList = base.toList.take (off + i) ++ cs ++ base.toList.drop (off + i + cs.length)
  | [], i, base, h => by simp
  | c :: cs, i, base, h => by
    have h' : off + i + (cs.length + 1) ≤ base.size := h
    rw [List.zipIdx_cons, List.foldl_cons, fold_lay off cs (i + 1) _ (by simp; omega)]
    have e : ((base.setIfInBounds (off + i) c).toList).take (off + (i + 1)) = base.toList.take (off + i) ++ [c] := by
      rw [Array.toList_setIfInBounds, List.take_set]
      apply List.ext_getElem?
      intro j
      by_cases hj : j < off + i
      · rw [List.getElem?_set_ne (by omega), List.getElem?_append_left (by simp; omega), List.getElem?_take_of_lt (by omega), List.getElem?_take_of_lt hj]
      · by_cases hj2 : j = off + i
        · subst hj2
          rw [List.getElem?_set_self (by simp; omega), List.getElem?_append_right (by simp; omega), List.length_take, Array.length_toList, Nat.min_eq_left (by omega), Nat.sub_self]
          rfl
        · rw [List.getElem?_eq_none (by simp; omega), List.getElem?_eq_none (by simp; omega)]
    have e2 : ((base.setIfInBounds (off + i) c).toList).drop (off + (i + 1) + cs.length) = base.toList.drop (off + i + (c :: cs).length) := by
      rw [Array.toList_setIfInBounds, List.drop_set, if_pos (by omega), List.length_cons]
      congr 1
      omega
    rw [e, e2]
    simp

theorem fold_all (off : Nat) (cs : List Value) (base : Array Value) (h : off + cs.length ≤ base.size) :
    (cs.toArray.zipIdx.foldl (fun b (p : Value × Nat) => b.setIfInBounds (off + p.2) p.1) base).toList = base.toList.take off ++ cs ++ base.toList.drop (off + cs.length) := by
  have := fold_lay off cs 0 base (by omega)
  rw [← Array.foldl_toList]
  simpa using this

theorem fill_one (place : Nat → Option (Nat × Nat)) (base : Array Value) (v : Value) (cs : List Value) (hp : place 0 = some (0, cs.length)) (hv : v.cells = cs.toArray) (hb : base.size = cs.length) :
    Instr.fill place base [(0, v)] = some cs.toArray := by
  have := fold_all 0 cs base (by omega)
  rw [List.take_zero, List.nil_append, List.drop_eq_nil_of_le (by simp; omega), List.append_nil] at this
  unfold Instr.fill
  simp only [hp, hv]
  rw [if_neg (by simp [hb])]
  unfold Instr.fill
  congr 1
  apply Array.ext'
  exact this

theorem fill_two (place : Nat → Option (Nat × Nat)) (base : Array Value) (u0 v : Value) (cs : List Value) (hp : place 0 = some (0, 1)) (hp1 : place 1 = some (1, cs.length)) (hu : u0.cells = #[u0]) (hv : v.cells = cs.toArray) (hb : base.size = 1 + cs.length) :
    Instr.fill place base [(0, u0), (1, v)] = some (u0 :: cs).toArray := by
  have h1 := fold_all 0 [u0] base (by simp; omega)
  unfold Instr.fill
  simp only [hp, hu]
  rw [if_neg (by rw [hb]; simp)]
  rw [show (#[u0] : Array Value) = [u0].toArray from rfl]
  generalize ([u0].toArray.zipIdx.foldl (fun b (p : Value × Nat) => b.setIfInBounds (0 + p.2) p.1) base) = base1 at *
  have hs : base1.size = 1 + cs.length := by
    have := congrArg List.length h1
    simp at this
    omega
  have h2 := fold_all 1 cs base1 (by omega)
  unfold Instr.fill
  simp only [hp1, hv]
  rw [if_neg (by rw [hs]; simp)]
  unfold Instr.fill
  congr 1
  apply Array.ext'
  have e3 : base1.toList.drop (1 + cs.length) = [] := List.drop_eq_nil_of_le (by rw [Array.length_toList, hs]; exact Nat.le_refl _)
  rw [h2, e3, List.append_nil, h1]
  simp

/-- A slice literal of one great value. -/
theorem wp_buildSlice_one {P : Program} {w : World} {o : Oper} {a : Act} {K : Act → World → Prop} {Q : Exit → Act → World → Prop} (t e : TypeId) (x : Operand) (ho : o.op = .buildSlice t 1 #[(0, x)])
    (i : TypeInfo) (z : Value) (cs : List Value) (hx : a.eval x = .agg cs.toArray) (hu : P.underlying t = some (.slice e)) (hi : P.info? e = some i) (hz : i.zero = some z) (hs : i.size = cs.length) (hzs : z.cells.size = cs.length) (h0 : 0 < cs.length) (h24 : cs.length ≤ 2 ^ 24)
    (h : K (a.put o.dst (.slice (some ⟨w.heap.size, 0, none⟩) 1 1)) (w.alloc (.cells cs.toArray e))) : o.wp P a w K Q := by
  have hf := fill_one (fun i => some (i * cs.length, cs.length)) ((Array.range (1 * cs.length)).map (z.cells[· % z.cells.size]!)) (.agg cs.toArray) cs (by simp) rfl (by simp)
  have hr : (Instr.buildSlice t 1 #[(0, .agg cs.toArray)]).run P w = .ok (.slice (some ⟨w.heap.size, 0, none⟩) 1 1) (w.alloc (.cells cs.toArray e)) := by
    have h1 : ¬ (2 ^ 24 < cs.length) := by omega
    have h2 : ¬ (cs.length = 0) := by omega
    simp only [Nat.one_mul] at hf
    simp [Instr.buildSlice, run_underlying hu, sizeOf, typeInfo, hi, hs, h1, h2, zeroValue, hz, newRow]
    rw [hf]
    simp
  unfold Oper.wp execOp
  simp only [ho]
  simp [hx, hr, Result.andThen]
  exact h

/-- Append of rows of whatever size, at an operation. -/
theorem wp_append_three {P : Program} (w : World) {o : Oper} {a : Act} {K : Act → World → Prop} {Q : Exit → Act → World → Prop} (s x : Operand) (t : TypeId)
    (ho : o.op = .call { callee := .builtin .append, args := #[s, x], argTypes := #[t, t] })
    (base : Nat) (e : TypeId) (i : TypeInfo) (z : Value) (size bytes : Nat) (ht : P.underlying t = some (.slice e)) (hi : P.info? e = some i) (hz : i.zero = some z)
    (hsize : i.size = size) (hby : i.bytes = bytes) (hzs : z.cells.size = size) (hsz : 0 < size)
    (v : Value) (n : Nat) (xs : List Value) (hs : a.eval s = v) (hown : w.ownsRow base e size v n xs)
    (ad : Addr) (m c : Nat) (news : List Value) (hx : a.eval x = .slice (some ad) m c) (hl : news.length = m * size) (hnews : ∀ j u, news[j]? = some u → w.cell? (ad.add j) = some u) (h1 : ∀ u ∈ news, u.oneCell' = true)
    (h63 : n + m ≤ maxLen) (hbytes : (n + m) * bytes ≤ 140737488355328) (hbase : base ≤ w.heap.size)
    (h : ∀ v' w', Hid (w'.ownsRow base e size v' (n + m) (xs ++ news)) → Hid (w.grownBy w' v.ownBlock) → Hid (v'.ownBlock = v.ownBlock ∨ (v'.ownBlock = some w.heap.size ∧ w.grownBy w' none)) → K (a.put o.dst v') w') : o.wp P a w K Q := by
  obtain ⟨v', w', hr, h2, h3, h4⟩ := run_append_three (P := P) w base t o.type e i z size bytes ht hi hz hsize hby hzs hsz v n xs hown ad m c news hl hnews h1 h63 hbytes hbase
  unfold Oper.wp
  simp [execOp, ho, resolve, invoke, builtin, hs, hx, hr, Result.andThen]
  exact h _ _ h2 h3 h4

/-- A store of one cell into a block that is known. -/
theorem wp_store_one {P : Program} {w : World} {o : Oper} {a : Act} {K : Act → World → Prop} {Q : Exit → Act → World → Prop} (ty : TypeId) (x y : Operand) (ho : o.op = .store ty x y)
    (g j : Nat) (u : Value) (hx : a.eval x = .pointer (some ⟨g, j, none⟩)) (hy : a.eval y = u)
    (hrun : (Instr.storeAt ty (.pointer (some ⟨g, j, none⟩)) u).run P w = .ok () (w.setCell ⟨g, j, none⟩ u))
    (h : K (a.put o.dst undef) (w.setCell ⟨g, j, none⟩ u)) : o.wp P a w K Q := by
  unfold Oper.wp execOp
  simp only [ho, hx, hy]
  simp [hrun, Result.andThen]
  exact h

/-- A slice as an array's address. -/
theorem arr_run {P : Program} {w : World} (ρ : Operand → Value) (o : Oper) (t : TypeId) (x : Operand) (ho : o.op = .sliceToArrayPointer t x) {ad : Option Addr} {len c n : Nat} {e : TypeId} (hx : ρ x = .slice ad len c) (hu : P.underlying t = some (.array n e)) (hn : n ≤ len) :
    (execOp ρ o).run P w = .ok (.value (.pointer ad)) w := by
  unfold execOp
  simp only [ho, hx]
  simp [Instr.arrayAt, run_underlying hu, show ¬ len < n by omega]

/-- A struct of two parts. -/
theorem bld_run {P : Program} {w : World} (ρ : Operand → Value) (o : Oper) (t : TypeId) (x0 x1 : Operand) (ho : o.op = .build t #[(0, x0), (1, x1)]) {u0 u1 : Value} {cells : Array Value} (h0 : ρ x0 = u0) (h1 : ρ x1 = u1) (hb : P.built t [(0, u0), (1, u1)] = some cells) :
    (execOp ρ o).run P w = .ok (.value (.agg cells)) w := by
  have hr := run_build (P := P) w t #[(0, u0), (1, u1)] cells (by simpa using hb)
  unfold execOp
  simp only [ho]
  simp [h0, h1, hr, Result.andThen]

end Go.Proofs.Ytljhpdgjajhgbaa
