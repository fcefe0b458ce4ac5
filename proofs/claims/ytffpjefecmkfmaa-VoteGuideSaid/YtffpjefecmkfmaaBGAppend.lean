/-
  append of bytes that are read, whatever slice they come as, onto bytes that the call owns. By an AI agent.
-/
import Derived.Test.YtffpjefecmkfmaaBG
import Derived.RegionTactic
import Derived.Deep.RegionHeld3
namespace Go.Proofs.Ytffpjefecmkfmaa
open Go.RowKit

theorem sl_cells {w : World} {a : Addr} {n c : Nat} {xs : List Int} (h : Sl w (.slice (some a) n c) xs) : n = xs.length ∧ ∀ j u, (xs.map (Value.int .u8))[j]? = some u → w.cell? (a.add j) = some u := by
  rcases h with ⟨rfl, ao, c', hv⟩ | ⟨b, o, c', hv, hb, hc⟩
  · obtain ⟨-, rfl, -⟩ : some a = ao ∧ n = 0 ∧ c = c' := by simpa using hv
    exact ⟨rfl, fun j u hj => by simp at hj⟩
  · obtain ⟨rfl, rfl, rfl⟩ : a = ⟨b, o, none⟩ ∧ n = xs.length ∧ c = c' := by simpa using hv
    refine ⟨rfl, fun j u hj => ?_⟩
    have hjn : j < xs.length := by
      have := (List.getElem?_eq_some_iff.1 hj).1
      simpa using this
    rw [Addr.add_lit, hc j hjn, ← hj]
    simp [List.getD, List.getElem?_eq_getElem hjn]

theorem sl_nil {w : World} {n c : Nat} {xs : List Int} (h : Sl w (.slice none n c) xs) : xs = [] ∧ n = 0 := by
  rcases h with ⟨rfl, ao, c', hv⟩ | ⟨b, o, c', hv, hb, hc⟩
  · simp at hv
    exact ⟨rfl, hv.2.1⟩
  · simp at hv

theorem sl_cell {w : World} {ao : Option Addr} {n c : Nat} {xs : List Int} (h : Sl w (.slice ao n c) xs) {k : Nat} (hk : k < n) : ∃ g o, ao = some ⟨g, o, none⟩ ∧ g < w.heap.size ∧ w.cell? ⟨g, o + k, none⟩ = some (.int .u8 (xs.getD k 0)) := by
  rcases h with ⟨rfl, _, _, hv⟩ | ⟨g, o, c', hv, hb, hc⟩
  · simp at hv; omega
  · obtain ⟨rfl, rfl, rfl⟩ : ao = some ⟨g, o, none⟩ ∧ n = xs.length ∧ c = c' := by simpa using hv
    exact ⟨g, o, rfl, hb, hc k hk⟩

theorem run_append_sl {P : Program} (w : World) (base : Nat) (t ty e : TypeId) (i : TypeInfo) (z : Value) (bytes : Nat) (ht : P.underlying t = some (.slice e)) (hi : P.info? e = some i) (hz : i.zero = some z)
    (hsize : i.size = 1) (hby : i.bytes = bytes) (hzs : z.cells.size = 1)
    (v : Value) (n : Nat) (xs : List Value) (hown : w.ownsRow base e 1 v n xs) (ao : Option Addr) (m c : Nat) (ys : List Int) (hsl : Sl w (.slice ao m c) ys)
    (h63 : n + ys.length ≤ maxLen) (hbytes : (n + ys.length) * bytes ≤ 140737488355328) (hbase : base ≤ w.heap.size) :
    ∃ v' w', (Builtin.append_ #[t, t] ty #[v, .slice ao m c]).run P w = .ok v' w' ∧ w'.ownsRow base e 1 v' (n + ys.length) (xs ++ ys.map (Value.int .u8)) ∧ w.grownBy w' v.ownBlock ∧
      (v'.ownBlock = v.ownBlock ∨ (v'.ownBlock = some w.heap.size ∧ w.grownBy w' none)) := by
  cases ao with
  | none =>
    obtain ⟨rfl, rfl⟩ := sl_nil hsl
    refine ⟨v, w, run_append_nothing w base t ty e i 1 ht hi v n xs hown c, by simpa using hown, ⟨rfl, rfl, rfl, Nat.le_refl _, fun _ _ _ => rfl⟩, .inl rfl⟩
  | some a =>
    obtain ⟨rfl, hc⟩ := sl_cells hsl
    exact run_append_three (P := P) w base t ty e i z 1 bytes ht hi hz hsize hby hzs (by decide) v n xs hown a ys.length c (ys.map (Value.int .u8)) (by simp) hc (fun u hu => by obtain ⟨x, _, rfl⟩ := List.mem_map.1 hu; rfl) h63 hbytes hbase

theorem wpList_append_sl {P : Program} (w : World) {ops : Array Oper} {rest : List Oper} {o : Oper} {a : Act} {Q : Exit → Act → World → Prop} (hgd : o.guard = none) (s x : Operand) (t : TypeId)
    (ho : o.op = .call { callee := .builtin .append, args := #[s, x], argTypes := #[t, t] })
    (base : Nat) (e : TypeId) (i : TypeInfo) (z : Value) (bytes : Nat) (ht : P.underlying t = some (.slice e)) (hi : P.info? e = some i) (hz : i.zero = some z)
    (hsize : i.size = 1) (hby : i.bytes = bytes) (hzs : z.cells.size = 1)
    (v : Value) (n : Nat) (xs : List Value) (hs : a.eval s = v) (hown : w.ownsRow base e 1 v n xs)
    (ao : Option Addr) (m c : Nat) (ys : List Int) (hx : a.eval x = .slice ao m c) (hsl : Sl w (.slice ao m c) ys)
    (h63 : n + ys.length ≤ maxLen) (hbytes : (n + ys.length) * bytes ≤ 140737488355328) (hbase : base ≤ w.heap.size)
    (h : ∀ v' w', Hid (w'.ownsRow base e 1 v' (n + ys.length) (xs ++ ys.map (Value.int .u8))) → Hid (w.grownBy w' v.ownBlock) → Hid (v'.ownBlock = v.ownBlock ∨ (v'.ownBlock = some w.heap.size ∧ w.grownBy w' none)) → wpList P ops Q rest (a.put o.dst v') w') : wpList P ops Q (o :: rest) a w := by
  refine wpList_plain hgd fun K hK => ?_
  obtain ⟨v', w', hr, h2, h3, h4⟩ := run_append_sl (P := P) w base t o.type e i z bytes ht hi hz hsize hby hzs v n xs hown ao m c ys hsl h63 hbytes hbase
  unfold Oper.wp
  simp [execOp, ho, resolve, invoke, builtin, hs, hx, hr, Result.andThen]
  exact hK _ _ (h v' w' h2 h3 h4)

end Go.Proofs.Ytffpjefecmkfmaa
namespace Go.Proofs.Ytffpjefecmkfmaa
open Go.RowKit

theorem step_append_three {P : Program} (w : World) {ops : Array Oper} {o : Oper} {a : Act} {K : Act → World → Prop} {Q : Exit → Act → World → Prop} {E : Prop} (hgd : o.guard = none) (s x : Operand) (t : TypeId)
    (ho : o.op = .call { callee := .builtin .append, args := #[s, x], argTypes := #[t, t] })
    (base : Nat) (e : TypeId) (i : TypeInfo) (z : Value) (size bytes : Nat) (ht : P.underlying t = some (.slice e)) (hi : P.info? e = some i) (hz : i.zero = some z)
    (hsize : i.size = size) (hby : i.bytes = bytes) (hzs : z.cells.size = size) (hsz : 0 < size)
    (v : Value) (n : Nat) (xs : List Value) (hs : a.eval s = v) (hown : w.ownsRow base e size v n xs)
    (ad : Addr) (m c : Nat) (news : List Value) (hx : a.eval x = .slice (some ad) m c) (hl : news.length = m * size) (hnews : ∀ j u, news[j]? = some u → w.cell? (ad.add j) = some u) (h1 : ∀ u ∈ news, u.oneCell' = true)
    (h63 : n + m ≤ maxLen) (hbytes : (n + m) * bytes ≤ 140737488355328) (hbase : base ≤ w.heap.size)
    (h : ∀ ao c' w', Hid (w'.ownsRow base e size (.slice ao (n + m) c') (n + m) (xs ++ news)) → Hid (w.grownBy w' v.ownBlock) → Hid ((Value.slice ao (n + m) c').ownBlock = v.ownBlock ∨ ((Value.slice ao (n + m) c').ownBlock = some w.heap.size ∧ w.grownBy w' none)) → K (a.put o.dst (.slice ao (n + m) c')) w') :
    if Region.wanted o (yielded ops a.tmps) = true then Oper.wp P o a w K Q else E := by
  have hw : Region.wanted o (yielded ops a.tmps) = true := by simp [Region.wanted, hgd]
  rw [if_pos hw]
  obtain ⟨v', w', hr, h2, h3, h4⟩ := run_append_three (P := P) w base t o.type e i z size bytes ht hi hz hsize hby hzs hsz v n xs hown ad m c news hl hnews h1 h63 hbytes hbase
  obtain ⟨ao, c', rfl⟩ := owns_slice h2
  unfold Oper.wp
  simp [execOp, ho, resolve, invoke, builtin, hs, hx, hr, Result.andThen]
  exact h ao c' w' h2 h3 h4

end Go.Proofs.Ytffpjefecmkfmaa
