/-
  Lists that came out, each in memory of its own: what is known of them while they are written over. By an AI agent.
-/
import Derived.Test.YtffpjefecmkfmaaBG
import Derived.ArgAppend
import Derived.Deep.MidRow
namespace Go.Proofs.Ytffpjefecmkfmaa
open Go.RowKit

/-- The slice v reads as these cells. -/
def RdV (w : World) (v : Value) (xs : List Value) : Prop :=
  (xs = [] ∧ ∃ ao c, v = .slice ao 0 c) ∨ ∃ b o c, v = .slice (some ⟨b, o, none⟩) xs.length c ∧ b < w.heap.size ∧ ∀ j u, xs[j]? = some u → w.cell? ⟨b, o + j, none⟩ = some u

theorem RdV.slice {w : World} {v : Value} {xs : List Value} (h : RdV w v xs) : ∃ ao c, v = .slice ao xs.length c := by
  rcases h with ⟨rfl, ao, c, rfl⟩ | ⟨b, o, cp, rfl, _⟩
  · exact ⟨ao, c, rfl⟩
  · exact ⟨_, _, rfl⟩

theorem RdV.at {w : World} {ao : Option Addr} {n c : Nat} {xs : List Value} (h : RdV w (.slice ao n c) xs) {k : Nat} {u : Value} (hu : xs[k]? = some u) : ∃ b o, ao = some ⟨b, o, none⟩ ∧ w.cell? ⟨b, o + k, none⟩ = some u := by
  rcases h with ⟨rfl, _⟩ | ⟨b, o, c', hv, hb, hc⟩
  · simp at hu
  · obtain ⟨rfl, _⟩ : ao = some ⟨b, o, none⟩ ∧ n = xs.length ∧ c = c' := by simpa using hv
    exact ⟨b, o, rfl, hc k u hu⟩

theorem RdV.chg {w w' : World} {s : List Nat} {v : Value} {xs : List Value} (h : RdV w v xs) (c : Chg s w w') (hv : ∀ b, v.ownBlock = some b → b ∉ s) : RdV w' v xs := by
  rcases h with h | ⟨b, o, cp, rfl, hb, hc⟩
  · exact .inl h
  · exact .inr ⟨b, o, cp, rfl, Nat.lt_of_lt_of_le hb c.size, fun j u hj => (c.cell (p := ⟨b, o + j, none⟩) hb (hv b rfl)).trans (hc j u hj)⟩

theorem RdV.owned {w : World} {base : Nat} {e : TypeId} {v : Value} {n : Nat} {xs : List Value} (h : w.ownsRow base e 1 v n xs) : RdV w v xs := by
  have hn : xs.length = n := by simpa using h.1
  subst hn
  rcases h.2 with ⟨rfl, h0⟩ | ⟨g, cap, cur, rfl, hb, hg, _⟩
  · exact .inl ⟨List.eq_nil_of_length_eq_zero h0, _, _, rfl⟩
  · refine .inr ⟨g, 0, cap, rfl, (Array.getElem?_eq_some_iff.1 hg).1, fun j u hj => ?_⟩
    have := h.cells (g := g) rfl j u hj
    rw [Addr.add_lit] at this
    exact this

/-- One cell of a row that is owned is written. -/
theorem owns_set {w : World} {base : Nat} {e : TypeId} {g n c : Nat} {xs : List Value} (h : w.ownsRow base e 1 (.slice (some ⟨g, 0, none⟩) n c) n xs) {k : Nat} (hk : k < n) (u : Value) :
    (w.setCell ⟨g, k, none⟩ u).ownsRow base e 1 (.slice (some ⟨g, 0, none⟩) n c) n (xs.set k u) ∧ w.frozen? ⟨g, k, none⟩ = false ∧ ∃ x, w.cell? ⟨g, k, none⟩ = some x := by
  have hl : xs.length = n := by simpa using h.1
  rcases h.2 with ⟨h1, _⟩ | ⟨g', cap, cur, hv, hb, hg, h1, h2, h3, h4⟩
  · cases h1
  · obtain ⟨rfl, rfl⟩ : g = g' ∧ c = cap := by simpa using hv
    have hs : cur.size = c := by simpa using h3
    refine ⟨⟨by simpa using h.1, .inr ⟨g, c, cur.setIfInBounds k u, rfl, hb, ?_, h1, h2, by simpa using h3, ?_⟩⟩, ?_, ?_⟩
    · simp [World.setCell, Array.getElem?_modify, hg]
    · rw [← h4, Array.toList_setIfInBounds, List.take_set]
    · simp [World.frozen?, hg]
    · exact ⟨cur[k], by simp [World.cell?, hg, show k < cur.size by omega]⟩

/-- A row of one's own, of whatever type its block was made. -/
def OwnR (w : World) (base : Nat) (v : Value) (n : Nat) (xs : List Value) : Prop := ∃ e, w.ownsRow base e 1 v n xs

theorem OwnR.len {w : World} {base n : Nat} {v : Value} {xs : List Value} (h : OwnR w base v n xs) : xs.length = n := by
  obtain ⟨e, h⟩ := h
  exact owns_len h

theorem OwnR.lt {w : World} {base n : Nat} {v : Value} {xs : List Value} (h : OwnR w base v n xs) : ∀ k, v.ownBlock = some k → base ≤ k ∧ k < w.heap.size := by
  obtain ⟨e, h⟩ := h
  exact h.lt

theorem OwnR.chg {w w' : World} {s : List Nat} {base n : Nat} {v : Value} {xs : List Value} (h : OwnR w base v n xs) (c : Chg s w w') (hs : ∀ k, v.ownBlock = some k → k ∉ s) : OwnR w' base v n xs := by
  obtain ⟨e, h⟩ := h
  exact ⟨e, owns_chg h c hs⟩

theorem OwnR.alloc {w : World} {base n : Nat} {v : Value} {xs : List Value} (h : OwnR w base v n xs) (o : Obj) : OwnR (w.alloc o) base v n xs := by
  obtain ⟨e, h⟩ := h
  exact ⟨e, h.alloc o⟩

theorem OwnR.lower {w : World} {base base' n : Nat} {v : Value} {xs : List Value} (h : OwnR w base v n xs) (hb : base' ≤ base) : OwnR w base' v n xs := by
  obtain ⟨e, h⟩ := h
  exact ⟨e, ownsRow_base h hb⟩

theorem OwnR.set {w : World} {base : Nat} {g n c : Nat} {xs : List Value} (h : OwnR w base (.slice (some ⟨g, 0, none⟩) n c) n xs) {k : Nat} (hk : k < n) (u : Value) :
    OwnR (w.setCell ⟨g, k, none⟩ u) base (.slice (some ⟨g, 0, none⟩) n c) n (xs.set k u) ∧ w.frozen? ⟨g, k, none⟩ = false ∧ ∃ x, w.cell? ⟨g, k, none⟩ = some x := by
  obtain ⟨e, h⟩ := h
  obtain ⟨h1, h2⟩ := owns_set h hk u
  exact ⟨⟨e, h1⟩, h2⟩

theorem OwnR.rd {w : World} {base n : Nat} {v : Value} {xs : List Value} (h : OwnR w base v n xs) : RdV w v xs := by
  obtain ⟨e, h⟩ := h
  exact RdV.owned h

theorem ownR_slice {w : World} {base n : Nat} {v : Value} {xs : List Value} (h : OwnR w base v n xs) : ∃ ao c, v = .slice ao n c := by
  obtain ⟨e, h⟩ := h
  exact owns_slice h

theorem ownR_head {w : World} {base : Nat} {ao : Option Addr} {n m c : Nat} {xs : List Value} (h : OwnR w base (.slice ao n c) m xs) (hn : 0 < n) : ∃ g, ao = some ⟨g, 0, none⟩ := by
  obtain ⟨e, h⟩ := h
  exact owns_head h hn

theorem OwnR.cellAt {w : World} {base : Nat} {g n c : Nat} {xs : List Value} (h : OwnR w base (.slice (some ⟨g, 0, none⟩) n c) n xs) {j : Nat} {u : Value} (hj : xs[j]? = some u) : w.cell? ⟨g, j, none⟩ = some u := by
  obtain ⟨e, h⟩ := h
  exact ownsRow_cellAt h hj

theorem chg_setCells {s : List Nat} {a : World} {g : Nat} : ∀ (cs : List Value) (off : Nat) (w : World), Chg s a w → (g ∈ s ∨ a.heap.size ≤ g) → Chg s a (w.setCells g off cs)
  | [], _, _, h, _ => h
  | v :: cs, off, w, h, hg => by
    rw [World.setCells]
    exact chg_setCells cs (off + 1) _ (h.setCell (p := ⟨g, off, none⟩) hg v) hg

theorem heap_setCells {g : Nat} {e : TypeId} : ∀ (cs : List Value) (cur : Array Value) (off : Nat) (w : World), w.heap[g]? = some (.cells cur e (0, 0)) → off + cs.length ≤ cur.size →
    ∃ cur' : Array Value, (w.setCells g off cs).heap[g]? = some (.cells cur' e (0, 0)) ∧ cur'.size = cur.size ∧ cur'.toList.take (off + cs.length) = cur.toList.take off ++ cs
  | [], cur, off, w, h, _ => ⟨cur, h, rfl, by simp⟩
  | v :: cs, cur, off, w, h, hl => by
    have hl' : off + (cs.length + 1) ≤ cur.size := hl
    have h2 : (w.setCell ⟨g, off, none⟩ v).heap[g]? = some (.cells (cur.setIfInBounds off v) e (0, 0)) := by
      simp [World.setCell, Array.getElem?_modify, h]
    obtain ⟨c2, q1, q2, q3⟩ := heap_setCells cs (cur.setIfInBounds off v) (off + 1) _ h2 (by simp; omega)
    refine ⟨c2, q1, by rw [q2]; simp, ?_⟩
    rw [List.length_cons, show off + (cs.length + 1) = off + 1 + cs.length by omega, q3]
    rw [Array.toList_setIfInBounds, List.take_set]
    have : (cur.toList.take (off + 1)).set off v = cur.toList.take off ++ [v] := by
      apply List.ext_getElem?
      intro j
      by_cases hj : j < off
      · rw [List.getElem?_set_ne (by omega), List.getElem?_append_left (by simp; omega), List.getElem?_take_of_lt (by omega), List.getElem?_take_of_lt hj]
      · by_cases hj2 : j = off
        · subst hj2
          rw [List.getElem?_set_self (by simp; omega), List.getElem?_append_right (by simp; omega), List.length_take, Array.length_toList, Nat.min_eq_left (by omega), Nat.sub_self]
          rfl
        · rw [List.getElem?_eq_none (by simp; omega), List.getElem?_eq_none (by simp; omega)]
    rw [this, List.append_assoc]
    rfl

/-- APPEND TO A ROW OF WHATEVER TYPE. -/
theorem run_append_any {P : Program} (w : World) (base : Nat) (t ty e : TypeId) (i : TypeInfo) (z : Value) (bytes : Nat) (ht : P.underlying t = some (.slice e)) (hi : P.info? e = some i) (hz : i.zero = some z)
    (hsize : i.size = 1) (hby : i.bytes = bytes) (hzs : z.cells.size = 1)
    (v : Value) (n : Nat) (xs : List Value) (hown : OwnR w base v n xs)
    (a : Addr) (m c : Nat) (news : List Value) (hl : news.length = m * 1) (hnews : ∀ j u, news[j]? = some u → w.cell? (a.add j) = some u) (h1 : ∀ u ∈ news, u.oneCell' = true)
    (h63 : n + m ≤ maxLen) (hbytes : (n + m) * bytes ≤ 140737488355328) (hbase : base ≤ w.heap.size) :
    ∃ v' w', (Builtin.append_ #[t, t] ty #[v, .slice (some a) m c]).run P w = .ok v' w' ∧ OwnR w' base v' (n + m) (xs ++ news) ∧ w.grownBy w' v.ownBlock ∧
      (v'.ownBlock = v.ownBlock ∨ (v'.ownBlock = some w.heap.size ∧ w.grownBy w' none)) := by
  obtain ⟨e0, hown⟩ := hown
  rcases hown.2 with ⟨rfl, rfl⟩ | ⟨g, cap, cur, rfl, hbg, hg, hnc, hcm, hcs, htake⟩
  · have hx : xs = [] := List.eq_nil_of_length_eq_zero (by simpa using hown.1)
    subst hx
    obtain ⟨v', w', hr, h2, h3, h4⟩ := run_append_three (P := P) w base t ty e i z 1 bytes ht hi hz hsize hby hzs (by decide) (.slice none 0 0) 0 [] (World.ownsRow_nil _ _ _ _) a m c news hl hnews h1 h63 hbytes hbase
    exact ⟨v', w', hr, ⟨e, h2⟩, h3, h4⟩
  · by_cases hroom : n + m ≤ cap
    · have hml : news.length = m := by omega
      have hlt : ∀ j, j < news.length → n * 1 + j < cur.size := fun j hj => by omega
      have hr := run_append_room_cells (P := P) w t ty e i ht hi g 0 n cap a m c news (by rw [hsize]; exact hl) hnews h1 hroom
        (fun j hj => by simp [World.cell?, hg, hsize, show n + j < cur.size by have := hlt j hj; omega]) (fun j _ => by simp [World.frozen?, hg])
      rw [hsize, Nat.zero_add, Nat.mul_one] at hr
      obtain ⟨c2, q1, q2, q3⟩ := heap_setCells news cur n w hg (by omega)
      refine ⟨_, _, hr, ⟨e0, by rw [List.length_append, hown.1, hl, Nat.add_mul], .inr ⟨g, cap, c2, rfl, hbg, q1, hroom, hcm, by rw [q2, hcs], ?_⟩⟩, ?_, .inl rfl⟩
      · rw [Nat.mul_one, ← hml, q3, ← htake, Nat.mul_one]
      · have := chg_setCells (s := [g]) (a := w) (g := g) news n w (Chg.refl _ _) (.inl (by simp))
        exact ⟨this.os, this.tape, this.output, this.size, fun k hk hne => this.block k hk (fun hm => hne (by rw [List.mem_singleton.1 hm]; rfl))⟩
    · subst hby
      have hsm : n + m ≤ 9223372036854775807 := by simp only [maxLen] at h63; omega
      have hholds : ∀ j u, xs[j]? = some u → w.cell? ((⟨g, 0, none⟩ : Addr).add j) = some u := hown.cells (g := g) rfl
      obtain ⟨v', w', hr, h2, h3⟩ := run_append_arg_grows (P := P) w t ty e i z 1 i.bytes ht hi hz hsize rfl hzs (by decide) ⟨g, 0, none⟩ n cap xs hown.1 hholds a m c news hl hnews (by omega) h63 hbytes
      have hr2 := run_append_grow (P := P) w t ty e i z ht hi hz ⟨g, 0, none⟩ n cap xs (by rw [hsize]; exact hown.1) hholds a m c news (by rw [hsize]; exact hl) hnews (by omega) (by omega) (growslice_fits (by omega) hbytes)
      rw [hr] at hr2
      obtain ⟨rfl, _⟩ : v' = _ ∧ w' = _ := by simpa using hr2
      exact ⟨_, w', hr, ⟨e, ownsRow_base h2 hbase⟩, ⟨h3.os, h3.tape, h3.output, h3.size, fun k hk _ => h3.block k hk (by simp)⟩, .inr ⟨rfl, h3⟩⟩

theorem wpList_append_any {P : Program} (w : World) {ops : Array Oper} {rest : List Oper} {o : Oper} {a : Act} {Q : Exit → Act → World → Prop} (hgd : o.guard = none) (s x : Operand) (t : TypeId)
    (ho : o.op = .call { callee := .builtin .append, args := #[s, x], argTypes := #[t, t] })
    (base : Nat) (e : TypeId) (i : TypeInfo) (z : Value) (bytes : Nat) (ht : P.underlying t = some (.slice e)) (hi : P.info? e = some i) (hz : i.zero = some z)
    (hsize : i.size = 1) (hby : i.bytes = bytes) (hzs : z.cells.size = 1)
    (v : Value) (n : Nat) (xs : List Value) (hs : a.eval s = v) (hown : OwnR w base v n xs)
    (ad : Addr) (m c : Nat) (news : List Value) (hx : a.eval x = .slice (some ad) m c) (hl : news.length = m * 1) (hnews : ∀ j u, news[j]? = some u → w.cell? (ad.add j) = some u) (h1 : ∀ u ∈ news, u.oneCell' = true)
    (h63 : n + m ≤ maxLen) (hbytes : (n + m) * bytes ≤ 140737488355328) (hbase : base ≤ w.heap.size)
    (h : ∀ v' w', Hid (OwnR w' base v' (n + m) (xs ++ news)) → Hid (w.grownBy w' v.ownBlock) → Hid (v'.ownBlock = v.ownBlock ∨ (v'.ownBlock = some w.heap.size ∧ w.grownBy w' none)) → wpList P ops Q rest (a.put o.dst v') w') : wpList P ops Q (o :: rest) a w := by
  refine wpList_plain hgd fun K hK => ?_
  obtain ⟨v', w', hr, h2, h3, h4⟩ := run_append_any (P := P) w base t o.type e i z bytes ht hi hz hsize hby hzs v n xs hown ad m c news hl hnews h1 h63 hbytes hbase
  unfold Oper.wp
  simp [execOp, ho, resolve, invoke, builtin, hs, hx, hr, Result.andThen]
  exact hK _ _ (h v' w' h2 h3 h4)

/-- xs, its first k cells marked. -/
def mix (f : Nat → Value) (k : Nat) (xs : List Value) : List Value := (List.range k).map f ++ xs.drop k

theorem mix_zero (f : Nat → Value) (xs : List Value) : mix f 0 xs = xs := by simp [mix]

theorem mix_len {f : Nat → Value} {k : Nat} {xs : List Value} (h : k ≤ xs.length) : (mix f k xs).length = xs.length := by simp [mix]; omega

theorem mix_set {f : Nat → Value} {k : Nat} {xs : List Value} (h : k < xs.length) : (mix f k xs).set k (f k) = mix f (k + 1) xs := by
  have h1 : ((List.range k).map f).length = k := by simp
  unfold mix
  rw [List.set_append_right _ _ (by omega), h1, Nat.sub_self, List.drop_eq_getElem_cons h, List.set_cons_zero, List.range_succ, List.map_append]
  simp

theorem mix_full (f : Nat → Value) (xs : List Value) : mix f xs.length xs = (List.range xs.length).map f := by simp [mix]

/-- Lists that came out, each the asker's own: the list of them lies at lb, lo; each is a row of its own from base on, no two in one block. -/
structure Owns (w : World) (base : Nat) (e : TypeId) (lb lo : Nat) (vs : List (Value × List Value)) : Prop where
  head : ∀ (j : Nat) (v : Value) (xs : List Value), vs[j]? = some (v, xs) → w.cell? ⟨lb, lo + j, none⟩ = some v
  row : ∀ (j : Nat) (v : Value) (xs : List Value), vs[j]? = some (v, xs) → OwnR w base v xs.length xs
  apart : ∀ (i j : Nat) (v : Value) (xs : List Value) (v' : Value) (xs' : List Value) (g : Nat), i ≠ j → vs[i]? = some (v, xs) → vs[j]? = some (v', xs') → v.ownBlock = some g → v'.ownBlock ≠ some g
  list : ∀ (j : Nat) (v : Value) (xs : List Value), vs[j]? = some (v, xs) → v.ownBlock ≠ some lb
  lt : lb < w.heap.size

/-- What is known of them while they are marked: those before i are, of the i-th the first k cells. -/
structure OwnsA (f : Nat → Nat → Value) (w : World) (base : Nat) (e : TypeId) (lb lo : Nat) (vs : List (Value × List Value)) (i k : Nat) : Prop where
  head : ∀ (j : Nat) (v : Value) (xs : List Value), vs[j]? = some (v, xs) → w.cell? ⟨lb, lo + j, none⟩ = some v
  row : ∀ (j : Nat) (v : Value) (xs : List Value), vs[j]? = some (v, xs) → OwnR w base v xs.length (if j < i then mix (f j) xs.length xs else if j = i then mix (f j) k xs else xs)

theorem Owns.start {f : Nat → Nat → Value} {w : World} {base : Nat} {e : TypeId} {lb lo : Nat} {vs : List (Value × List Value)} (h : Owns w base e lb lo vs) : OwnsA f w base e lb lo vs 0 0 :=
  ⟨h.head, fun j v xs hj => by
    rw [if_neg (by omega)]
    by_cases h0 : j = 0
    · rw [if_pos h0, mix_zero]; exact h.row j v xs hj
    · rw [if_neg h0]; exact h.row j v xs hj⟩

theorem OwnsA.next {f : Nat → Nat → Value} {w : World} {base : Nat} {e : TypeId} {lb lo : Nat} {vs : List (Value × List Value)} {i k : Nat} {v : Value} {xs : List Value} (h : OwnsA f w base e lb lo vs i k) (hi : vs[i]? = some (v, xs)) (hk : k = xs.length) :
    OwnsA f w base e lb lo vs (i + 1) 0 :=
  ⟨h.head, fun j v' xs' hj => by
    have := h.row j v' xs' hj
    by_cases h1 : j < i
    · rw [if_pos h1] at this; rw [if_pos (by omega)]; exact this
    · rw [if_neg h1] at this
      by_cases h2 : j = i
      · subst h2
        rw [hi] at hj
        obtain ⟨rfl, rfl⟩ : v = v' ∧ xs = xs' := by simpa using hj
        rw [if_pos rfl] at this
        subst hk
        rw [if_pos (by omega)]; exact this
      · rw [if_neg h2] at this
        rw [if_neg (by omega)]
        by_cases h3 : j = i + 1
        · rw [if_pos h3, mix_zero]; exact this
        · rw [if_neg h3]; exact this⟩

/-- One cell more is marked. -/
theorem OwnsA.set {f : Nat → Nat → Value} {w0 w : World} {base : Nat} {e : TypeId} {lb lo : Nat} {vs : List (Value × List Value)} {i k : Nat} {g c : Nat} {xs : List Value} (ho : Owns w0 base e lb lo vs) (h : OwnsA f w base e lb lo vs i k)
    (hi : vs[i]? = some (.slice (some ⟨g, 0, none⟩) xs.length c, xs)) (hk : k < xs.length) (hlt : lb < w.heap.size) :
    OwnsA f (w.setCell ⟨g, k, none⟩ (f i k)) base e lb lo vs i (k + 1) ∧ w.frozen? ⟨g, k, none⟩ = false ∧ ∃ x, w.cell? ⟨g, k, none⟩ = some x := by
  have hrow := h.row i _ _ hi
  rw [if_neg (by omega), if_pos rfl] at hrow
  obtain ⟨h1, h2, h3⟩ := hrow.set hk (f i k)
  have hc : Chg [g] w (w.setCell ⟨g, k, none⟩ (f i k)) := (Chg.refl _ _).setCell (.inl (by simp)) _
  refine ⟨⟨fun j v xs' hj => ?_, fun j v' xs' hj => ?_⟩, h2, h3⟩
  · have hne := ho.list i _ _ hi
    exact (hc.cell (p := ⟨lb, lo + j, none⟩) hlt (by simp [Value.ownBlock] at hne; simpa using fun e => hne e.symm)).trans (h.head j v xs' hj)
  · by_cases hji : j = i
    · subst hji
      rw [hi] at hj
      obtain ⟨rfl, rfl⟩ : _ = v' ∧ xs = xs' := by simpa using hj
      rw [if_neg (by omega), if_pos rfl, ← mix_set hk]
      exact h1
    · have := (h.row j v' xs' hj).chg hc (fun b hb => by
        have := ho.apart i j _ _ _ _ g (fun e => hji e.symm) hi hj rfl
        intro hm
        obtain rfl : b = g := by simpa using hm
        exact this hb)
      by_cases h1 : j < i
      · rw [if_pos h1] at this ⊢; exact this
      · rw [if_neg h1, if_neg hji] at this ⊢; exact this

/-- The marks of one list. -/
def marks (f : Nat → Nat → Value) (j n : Nat) : List Value := (List.range n).map (f j)

theorem marks_len (f : Nat → Nat → Value) (j n : Nat) : (marks f j n).length = n := by simp [marks]

theorem marks_succ (f : Nat → Nat → Value) (j n : Nat) : marks f j (n + 1) = marks f j n ++ [f j n] := by simp [marks, List.range_succ]

theorem marks_get (f : Nat → Nat → Value) (j n k : Nat) (h : k < n) : (marks f j n)[k]? = some (f j k) := by simp [marks, h]

/-- A list that has been marked, and its longer copy. -/
structure Done (fA fB : Nat → Nat → Value) (w : World) (H0 : Nat) (lg v : Value) (j n : Nat) (y : Value) : Prop where
  rv : RdV w v (marks fA j n)
  ry : RdV w y (marks fA j n ++ marks fB j 16)
  wh : ∀ b, y.ownBlock = some b → (v.ownBlock = some b ∨ H0 ≤ b) ∧ b < w.heap.size ∧ lg.ownBlock ≠ some b

/-- What is known while the longer copies are made: those before i are there. -/
structure OwnsB (fA fB : Nat → Nat → Value) (w : World) (base : Nat) (e le : TypeId) (lb lo : Nat) (vs : List (Value × List Value)) (H0 : Nat) (lg : Value) (ys : List Value) (i : Nat) : Prop where
  head : ∀ (j : Nat) (v : Value) (xs : List Value), vs[j]? = some (v, xs) → w.cell? ⟨lb, lo + j, none⟩ = some v
  row : ∀ (j : Nat) (v : Value) (xs : List Value), vs[j]? = some (v, xs) → i ≤ j → OwnR w base v xs.length (marks fA j xs.length)
  long : w.ownsRow H0 le 1 lg i ys
  done : ∀ (j : Nat) (v : Value) (xs : List Value) (y : Value), vs[j]? = some (v, xs) → ys[j]? = some y → Done fA fB w H0 lg v j xs.length y
  size : H0 ≤ w.heap.size

/-- The i-th longer copy grows: x, so far. -/
structure InB (fA fB : Nat → Nat → Value) (wi w : World) (base : Nat) (e : TypeId) (v : Value) (n i : Nat) (x : Value) (k : Nat) : Prop where
  row : OwnR w base x (n + k) (marks fA i n ++ marks fB i k)
  rv : RdV w v (marks fA i n)
  blk : x.ownBlock = v.ownBlock ∨ ∃ b, x.ownBlock = some b ∧ wi.heap.size ≤ b
  chg : Chg v.ownBlock.toList wi w

/-- All are marked: the longer copies begin. -/
theorem OwnsA.copy {fA fB : Nat → Nat → Value} {w : World} {base : Nat} {e le : TypeId} {lb lo : Nat} {vs : List (Value × List Value)} (h : OwnsA fA w base e lb lo vs vs.length 0) :
    OwnsB fA fB w base e le lb lo vs w.heap.size (.slice none 0 0) [] 0 :=
  ⟨h.head, fun j v xs hj _ => by
    have hlt : j < vs.length := (List.getElem?_eq_some_iff.1 hj).1
    have := h.row j v xs hj
    rw [if_pos hlt, mix_full] at this
    exact this, World.ownsRow_nil _ _ _ _, fun j v xs y hj hy => by simp at hy, Nat.le_refl _⟩

theorem InB.start {fA fB : Nat → Nat → Value} {w : World} {base : Nat} {e : TypeId} {v : Value} {n i : Nat} (h : OwnR w base v n (marks fA i n)) : InB fA fB w w base e v n i v 0 :=
  ⟨by simpa [marks] using h, h.rd, .inl rfl, Chg.refl _ _⟩

theorem InB.step {fA fB : Nat → Nat → Value} {wi w wn : World} {base : Nat} {e : TypeId} {v : Value} {n i : Nat} {x x' : Value} {k : Nat} (hv : OwnR wi base v n (marks fA i n)) (h : InB fA fB wi w base e v n i x k)
    (ho : OwnR wn base x' (n + k + 1) (marks fA i n ++ (marks fB i k ++ [fB i k]))) (hg : (w.alloc (.cells #[fB i k] e)).grownBy wn x.ownBlock)
    (hb : x'.ownBlock = x.ownBlock ∨ (x'.ownBlock = some (w.heap.size + 1) ∧ (w.alloc (.cells #[fB i k] e)).grownBy wn none)) : InB fA fB wi wn base e v n i x' (k + 1) := by
  have hzi := h.chg.size
  refine ⟨?_, ?_, ?_, (h.chg.alloc _).grown hg (fun b hbb => ?_)⟩
  · rw [marks_succ]
    exact ho
  · rcases hb with hb | ⟨hb, hn⟩
    · rcases h.blk with hx | ⟨b, hx, hge⟩
      · obtain ⟨e1, hv⟩ := hv
        obtain ⟨e2, ho⟩ := ho
        rcases hv.2 with ⟨rfl, rfl⟩ | ⟨g, cap, cur, rfl, _, hgg, _⟩
        · exact .inl ⟨by simp [marks], _, _, rfl⟩
        · have hx' : x'.ownBlock = some g := by rw [hb, hx]; rfl
          rcases ho.2 with ⟨rfl, _⟩ | ⟨g', cap', cur', rfl, _, hgg', _⟩
          · cases hx'
          · obtain rfl : g' = g := by simpa [Value.ownBlock] using hx'
            refine .inr ⟨g', 0, cap, by rw [marks_len], (Array.getElem?_eq_some_iff.1 hgg').1, fun j u hj => ?_⟩
            rw [Nat.zero_add]
            have hjl : j < n := by have := (List.getElem?_eq_some_iff.1 hj).1; rw [marks_len] at this; exact this
            refine ownsRow_cellAt ho ?_
            rw [List.getElem?_append_left (by rw [marks_len]; exact hjl)]
            exact hj
      · refine (h.rv.chg (s := []) ((Chg.refl _ _).alloc _) (by simp)).chg (chg_of_grown hg) (fun b' hb' hm => ?_)
        obtain rfl : b' = b := by rw [hx] at hm; simpa using hm
        have := (hv.lt b' hb').2
        omega
    · exact (h.rv.chg (s := []) ((Chg.refl _ _).alloc _) (by simp)).chg (chg_of_grown hn) (by simp)
  · rcases hb with hb | ⟨hb, _⟩
    · rw [hb]; exact h.blk
    · exact .inr ⟨_, hb, by omega⟩
  · rcases h.blk with hx | ⟨b', hx, hge⟩
    · rw [hx] at hbb; exact .inl (by rw [hbb]; simp)
    · rw [hx] at hbb
      obtain rfl : b' = b := by simpa using hbb
      exact .inr hge

/-- One more longer copy is there. -/
theorem OwnsB.next {fA fB : Nat → Nat → Value} {w0 wi w wn : World} {base : Nat} {e le : TypeId} {lb lo : Nat} {vs : List (Value × List Value)} {H0 : Nat} {lg lg' : Value} {ys : List Value} {i : Nat} {v : Value} {xs : List Value} {x : Value}
    (h0 : Owns w0 base e lb lo vs) (hH : w0.heap.size ≤ H0) (h : OwnsB fA fB wi base e le lb lo vs H0 lg ys i) (hi : vs[i]? = some (v, xs)) (hx : InB fA fB wi w base e v xs.length i x 16)
    (ho : wn.ownsRow H0 le 1 lg' (i + 1) (ys ++ [x])) (hg : (w.alloc (.cells #[x] le)).grownBy wn lg.ownBlock)
    (hb : lg'.ownBlock = lg.ownBlock ∨ (lg'.ownBlock = some (w.heap.size + 1) ∧ (w.alloc (.cells #[x] le)).grownBy wn none)) :
    OwnsB fA fB wn base e le lb lo vs H0 lg' (ys ++ [x]) (i + 1) := by
  have hyl : ys.length = i := owns_len h.long
  have vlt : ∀ (j : Nat) (v : Value) (xs : List Value) (b : Nat), vs[j]? = some (v, xs) → v.ownBlock = some b → b < H0 := fun j v xs b hj hb => by
    have := (h0.row j v xs hj).lt b hb
    omega
  have llt : ∀ b, lg.ownBlock = some b → H0 ≤ b ∧ b < wi.heap.size := fun b hb => h.long.lt b hb
  have c1 : Chg (v.ownBlock.toList ++ lg.ownBlock.toList) wi wn := ((hx.chg.mono (fun k hk => List.mem_append_left _ hk)).alloc _).grown hg (fun k hk => .inl (List.mem_append_right _ (by rw [hk]; simp)))
  have c2 : Chg lg.ownBlock.toList w wn := ((Chg.refl _ w).alloc _).grown hg (fun k hk => .inl (by rw [hk]; simp))
  have hz1 := hx.chg.size
  have hz2 := c2.size
  have nv : ∀ (j : Nat) (v' : Value) (xs' : List Value) (b : Nat), j ≠ i → vs[j]? = some (v', xs') → v'.ownBlock = some b → b ∉ v.ownBlock.toList ++ lg.ownBlock.toList := fun j v' xs' b hne hj hb' hm => by
    rcases List.mem_append.1 hm with hm | hm
    · exact h0.apart j i v' xs' v xs b hne hj hi hb' (by simpa using hm)
    · have := vlt j v' xs' b hj hb'
      have := (llt b (by simpa using hm)).1
      omega
  refine ⟨fun j v' xs' hj => ?_, fun j v' xs' hj hij => ?_, ho, fun j v' xs' y hj hy => ?_, by have := h.size; omega⟩
  · refine (c1.cell (p := ⟨lb, lo + j, none⟩) ?_ (fun hm => ?_)).trans (h.head j v' xs' hj)
    · have := h0.lt; have := h.size; show lb < _; omega
    · rcases List.mem_append.1 hm with hm | hm
      · exact h0.list i v xs hi (by simpa using hm)
      · have := (llt lb (by simpa using hm)).1
        have := h0.lt
        omega
  · exact (h.row j v' xs' hj (by omega)).chg c1 (fun b hb' => nv j v' xs' b (by omega) hj hb')
  · by_cases hji : j < i
    · rw [List.getElem?_append_left (by omega)] at hy
      have hd := h.done j v' xs' y hj hy
      refine ⟨hd.rv.chg c1 (fun b hb' => nv j v' xs' b (by omega) hj hb'), hd.ry.chg c1 (fun b hb' hm => ?_), fun b hb' => ?_⟩
      · obtain ⟨q1, q2, q3⟩ := hd.wh b hb'
        rcases q1 with q1 | q1
        · exact nv j v' xs' b (by omega) hj q1 hm
        · rcases List.mem_append.1 hm with hm | hm
          · have := vlt i v xs b hi (by simpa using hm)
            omega
          · exact q3 (by simpa using hm)
      · obtain ⟨q1, q2, q3⟩ := hd.wh b hb'
        refine ⟨q1, by omega, fun hl => ?_⟩
        rcases hb with hb | ⟨hb, _⟩
        · rw [hb] at hl; exact q3 hl
        · rw [hb] at hl
          simp at hl
          omega
    · have hjlt : j < (ys ++ [x]).length := (List.getElem?_eq_some_iff.1 hy).1
      obtain rfl : j = i := by simp at hjlt; omega
      obtain rfl : x = y := by
        rw [List.getElem?_append_right (by omega), hyl, Nat.sub_self] at hy
        simpa using hy
      rw [hi] at hj
      obtain ⟨rfl, rfl⟩ : v = v' ∧ xs = xs' := by simpa using hj
      have xb : ∀ b, x.ownBlock = some b → (v.ownBlock = some b ∨ wi.heap.size ≤ b) ∧ b < w.heap.size := fun b hb' => by
        refine ⟨?_, (hx.row.lt b hb').2⟩
        rcases hx.blk with q | ⟨b', q, hge⟩
        · exact .inl (by rw [← q]; exact hb')
        · rw [q] at hb'
          obtain rfl : b' = b := by simpa using hb'
          exact .inr hge
      refine ⟨hx.rv.chg c2 (fun b hb' hm => ?_), hx.row.rd.chg c2 (fun b hb' hm => ?_), fun b hb' => ?_⟩
      · have := vlt j v xs b hi hb'
        have := (llt b (by simpa using hm)).1
        omega
      · have hl := llt b (by simpa using hm)
        rcases (xb b hb').1 with q | q
        · have := vlt j v xs b hi q
          omega
        · omega
      · obtain ⟨q1, q2⟩ := xb b hb'
        have hsz := h.size
        refine ⟨?_, by omega, fun hl => ?_⟩
        · rcases q1 with q1 | q1
          · exact .inl q1
          · exact .inr (by omega)
        · rcases hb with hb | ⟨hb, _⟩
          · rw [hb] at hl
            have hl2 := llt b hl
            rcases q1 with q | q
            · have := vlt j v xs b hi q
              omega
            · omega
          · rw [hb] at hl
            simp at hl
            omega

end Go.Proofs.Ytffpjefecmkfmaa
namespace Go.Proofs.Ytffpjefecmkfmaa
open Go.RowKit

/-- The blocks of some lists. -/
def rowsOf (vs : List (Value × List Value)) : List Nat := vs.filterMap fun p => p.1.ownBlock

theorem rowsOf_mem {vs : List (Value × List Value)} {j : Nat} {v : Value} {xs : List Value} {g : Nat} (h : vs[j]? = some (v, xs)) (hg : v.ownBlock = some g) : g ∈ rowsOf vs :=
  List.mem_filterMap.2 ⟨_, List.mem_of_getElem? h, hg⟩

theorem rowsOf_spec {vs : List (Value × List Value)} {g : Nat} (h : g ∈ rowsOf vs) : ∃ (j : Nat) (v : Value) (xs : List Value), vs[j]? = some (v, xs) ∧ v.ownBlock = some g := by
  obtain ⟨⟨v, xs⟩, hm, hg⟩ := List.mem_filterMap.1 h
  obtain ⟨j, hj⟩ := List.mem_iff_getElem?.1 hm
  exact ⟨j, v, xs, hj, hg⟩

end Go.Proofs.Ytffpjefecmkfmaa
