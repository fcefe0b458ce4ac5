/-
  Lists that came out, each in memory of its own: what is known of them while they are written over. By an AI agent.
-/
import Derived.Test.YtkafkdlgflkjgaaGreatBG
import Derived.ArgAppend
import Derived.Deep.MidRow
import Derived.Laws.Tables
namespace Go.Proofs.YtkafkdlgflkjgaaGreat
open Go.RowKit

/-- The slice v reads as these cells. -/
def RdV (w : World) (v : Value) (xs : List Value) : Prop :=
 (xs = [] ∧ ∃ ao c, v = .slice ao 0 c) ∨ ∃ b o c, v = .slice (some ⟨b, o, none⟩) xs.length c ∧ b < w.heap.size ∧ ∀ j u, xs[j]? = some u → w.cell? ⟨b, o + j, none⟩ = some u

theorem RdV.slice {w : World} {v : Value} {xs : List Value} (h : RdV w v xs) : ∃ ao c, v = .slice ao xs.length c := by
 rcases h with ⟨rfl, ao, c, rfl⟩ | ⟨b, o, cp, rfl, _⟩
 ·exact ⟨ao, c, rfl⟩
 ·exact ⟨_, _, rfl⟩

theorem RdV.at {w : World} {ao : Option Addr} {n c : Nat} {xs : List Value} (h : RdV w (.slice ao n c) xs) {k : Nat} {u : Value} (hu : xs[k]? = some u) : ∃ b o, ao = some ⟨b, o, none⟩ ∧ w.cell? ⟨b, o + k, none⟩ = some u := by
 rcases h with ⟨rfl, _⟩ | ⟨b, o, c', hv, hb, hc⟩
 ·simp at hu
 ·obtain ⟨rfl, _⟩ : ao = some ⟨b, o, none⟩ ∧ n = xs.length ∧ c = c' := by simpa using hv
  exact ⟨b, o, rfl, hc k u hu⟩

theorem RdV.chg {w w' : World} {s : List Nat} {v : Value} {xs : List Value} (h : RdV w v xs) (c : Chg s w w') (hv : ∀ b, v.ownBlock = some b → b ∉ s) : RdV w' v xs := by
 rcases h with h | ⟨b, o, cp, rfl, hb, hc⟩
 ·exact .inl h
 ·exact .inr ⟨b, o, cp, rfl, Nat.lt_of_lt_of_le hb c.size, fun j u hj => (c.cell (p := ⟨b, o + j, none⟩) hb (hv b rfl)).trans (hc j u hj)⟩

theorem RdV.owned {w : World} {base : Nat} {e : TypeId} {v : Value} {n : Nat} {xs : List Value} (h : w.ownsRow base e 1 v n xs) : RdV w v xs := by
 have hn : xs.length = n := by simpa using h.1
 subst hn
 rcases h.2 with ⟨rfl, h0⟩ | ⟨g, cap, cur, rfl, hb, hg, _⟩
 ·exact .inl ⟨List.eq_nil_of_length_eq_zero h0, _, _, rfl⟩
 ·refine .inr ⟨g, 0, cap, rfl, (Array.getElem?_eq_some_iff.1 hg).1, fun j u hj => ?_⟩
  have := h.cells (g := g) rfl j u hj
  rw [Addr.add_lit] at this
  exact this

/-- One cell of a row that is owned is written. -/
theorem owns_set {w : World} {base : Nat} {e : TypeId} {g n c : Nat} {xs : List Value} (h : w.ownsRow base e 1 (.slice (some ⟨g, 0, none⟩) n c) n xs) {k : Nat} (hk : k < n) (u : Value) :
 (w.setCell ⟨g, k, none⟩ u).ownsRow base e 1 (.slice (some ⟨g, 0, none⟩) n c) n (xs.set k u) ∧ w.frozen? ⟨g, k, none⟩ = false ∧ ∃ x, w.cell? ⟨g, k, none⟩ = some x := by
 have hl : xs.length = n := by simpa using h.1
 rcases h.2 with ⟨h1, _⟩ | ⟨g', cap, cur, hv, hb, hg, h1, h2, h3, h4⟩
 ·cases h1
 ·obtain ⟨rfl, rfl⟩ : g = g' ∧ c = cap := by simpa using hv
  have hs : cur.size = c := by simpa using h3
  refine ⟨⟨by simpa using h.1, .inr ⟨g, c, cur.setIfInBounds k u, rfl, hb, ?_, h1, h2, by simpa using h3, ?_⟩⟩, ?_, ?_⟩
  ·simp [World.setCell, Array.getElem?_modify, hg]
  ·rw [← h4, Array.toList_setIfInBounds, List.take_set]
  ·simp [World.frozen?, hg]
  ·exact ⟨cur[k], by simp [World.cell?, hg, show k < cur.size by omega]⟩

/-- A row of one's own, of whatever type its block was made. -/
def OwnR (w : World) (base : Nat) (v : Value) (n : Nat) (xs : List Value) : Prop := ∃ e, w.ownsRow base e 1 v n xs

theorem OwnR.len {w : World} {base n : Nat} {v : Value} {xs : List Value} (h : OwnR w base v n xs) : xs.length = n := by
 obtain ⟨e, h⟩ := h
 exact owns_len h

theorem OwnR.lt {w : World} {base n : Nat} {v : Value} {xs : List Value} (h : OwnR w base v n xs) : ∀ k, v.ownBlock = some k → base ≤ k ∧ k < w.heap.size := by
 obtain ⟨e, h⟩ := h
 exact h.lt

theorem OwnR.chg {w w' : World} {s : List Nat} {base n : Nat} {v : Value} {xs : List Value} (h : OwnR w base v n xs) (c : Chg s w w') (hs : ∀ k, v.ownBlock = some k → k ∉ s) : OwnR w' base v n xs := by
 obtain ⟨e, h⟩ := h
 exact ⟨e, owns_chg h c hs⟩

theorem OwnR.alloc {w : World} {base n : Nat} {v : Value} {xs : List Value} (h : OwnR w base v n xs) (o : Obj) : OwnR (w.alloc o) base v n xs := by
 obtain ⟨e, h⟩ := h
 exact ⟨e, h.alloc o⟩

theorem OwnR.set {w : World} {base : Nat} {g n c : Nat} {xs : List Value} (h : OwnR w base (.slice (some ⟨g, 0, none⟩) n c) n xs) {k : Nat} (hk : k < n) (u : Value) :
 OwnR (w.setCell ⟨g, k, none⟩ u) base (.slice (some ⟨g, 0, none⟩) n c) n (xs.set k u) ∧ w.frozen? ⟨g, k, none⟩ = false ∧ ∃ x, w.cell? ⟨g, k, none⟩ = some x := by
 obtain ⟨e, h⟩ := h
 obtain ⟨h1, h2⟩ := owns_set h hk u
 exact ⟨⟨e, h1⟩, h2⟩

theorem OwnR.rd {w : World} {base n : Nat} {v : Value} {xs : List Value} (h : OwnR w base v n xs) : RdV w v xs := by
 obtain ⟨e, h⟩ := h
 exact RdV.owned h

theorem ownR_slice {w : World} {base n : Nat} {v : Value} {xs : List Value} (h : OwnR w base v n xs) : ∃ ao c, v = .slice ao n c := by
 obtain ⟨e, h⟩ := h
 exact owns_slice h

theorem chg_setCells {s : List Nat} {a : World} {g : Nat} : ∀ (cs : List Value) (off : Nat) (w : World), Chg s a w → (g ∈ s ∨ a.heap.size ≤ g) → Chg s a (w.setCells g off cs)
 | [], _, _, h, _ => h
 | v :: cs, off, w, h, hg => by
   rw [World.setCells]
   exact chg_setCells cs (off + 1) _ (h.setCell (p := ⟨g, off, none⟩) hg v) hg

/-- xs, its first k cells marked. -/
def mix (f : Nat → Value) (k : Nat) (xs : List Value) : List Value := (List.range k).map f ++ xs.drop k

theorem mix_zero (f : Nat → Value) (xs : List Value) : mix f 0 xs = xs := by simp [mix]

theorem mix_set {f : Nat → Value} {k : Nat} {xs : List Value} (h : k < xs.length) : (mix f k xs).set k (f k) = mix f (k + 1) xs := by
 have h1 : ((List.range k).map f).length = k := by simp
 unfold mix
 rw [List.set_append_right _ _ (by omega), h1, Nat.sub_self, List.drop_eq_getElem_cons h, List.set_cons_zero, List.range_succ, List.map_append]
 simp

theorem mix_full (f : Nat → Value) (xs : List Value) : mix f xs.length xs = (List.range xs.length).map f := by simp [mix]

/-- Lists that came out, each the asker's own: the list of them lies at lb, lo; each is a row of its own from base on, no two in one block. -/
structure Owns (w : World) (base : Nat) (e : TypeId) (lb lo : Nat) (vs : List (Value × List Value)) : Prop where
 head : ∀ (j : Nat) (v : Value) (xs : List Value), vs[j]? = some (v, xs) → w.cell? ⟨lb, lo + j, none⟩ = some v
 row : ∀ (j : Nat) (v : Value) (xs : List Value), vs[j]? = some (v, xs) → OwnR w base v xs.length xs
 apart : ∀ (i j : Nat) (v : Value) (xs : List Value) (v' : Value) (xs' : List Value) (g : Nat), i ≠ j → vs[i]? = some (v, xs) → vs[j]? = some (v', xs') → v.ownBlock = some g → v'.ownBlock ≠ some g
 list : ∀ (j : Nat) (v : Value) (xs : List Value), vs[j]? = some (v, xs) → v.ownBlock ≠ some lb
 lt : lb < w.heap.size

/-- What is known of them while they are marked: those before i are, of the i-th the first k cells. -/
structure OwnsA (f : Nat → Nat → Value) (w : World) (base : Nat) (e : TypeId) (lb lo : Nat) (vs : List (Value × List Value)) (i k : Nat) : Prop where
 head : ∀ (j : Nat) (v : Value) (xs : List Value), vs[j]? = some (v, xs) → w.cell? ⟨lb, lo + j, none⟩ = some v
 row : ∀ (j : Nat) (v : Value) (xs : List Value), vs[j]? = some (v, xs) → OwnR w base v xs.length (if j < i then mix (f j) xs.length xs else if j = i then mix (f j) k xs else xs)

theorem Owns.start {f : Nat → Nat → Value} {w : World} {base : Nat} {e : TypeId} {lb lo : Nat} {vs : List (Value × List Value)} (h : Owns w base e lb lo vs) : OwnsA f w base e lb lo vs 0 0 :=
 ⟨h.head, fun j v xs hj => by
  rw [if_neg (by omega)]
  by_cases h0 : j = 0
  ·rw [if_pos h0, mix_zero]; exact h.row j v xs hj
  ·rw [if_neg h0]; exact h.row j v xs hj⟩

theorem OwnsA.next {f : Nat → Nat → Value} {w : World} {base : Nat} {e : TypeId} {lb lo : Nat} {vs : List (Value × List Value)} {i k : Nat} {v : Value} {xs : List Value} (h : OwnsA f w base e lb lo vs i k) (hi : vs[i]? = some (v, xs)) (hk : k = xs.length) :
 OwnsA f w base e lb lo vs (i + 1) 0 :=
 ⟨h.head, fun j v' xs' hj => by
  have := h.row j v' xs' hj
  by_cases h1 : j < i
  ·rw [if_pos h1] at this; rw [if_pos (by omega)]; exact this
  ·rw [if_neg h1] at this
   by_cases h2 : j = i
   ·subst h2
    rw [hi] at hj
    obtain ⟨rfl, rfl⟩ : v = v' ∧ xs = xs' := by simpa using hj
    rw [if_pos rfl] at this
    subst hk
    rw [if_pos (by omega)]; exact this
   ·rw [if_neg h2] at this
    rw [if_neg (by omega)]
    by_cases h3 : j = i + 1
    ·rw [if_pos h3, mix_zero]; exact this
    ·rw [if_neg h3]; exact this⟩

/-- One cell more is marked. -/
theorem OwnsA.set {f : Nat → Nat → Value} {w0 w : World} {base : Nat} {e : TypeId} {lb lo : Nat} {vs : List (Value × List Value)} {i k : Nat} {g c : Nat} {xs : List Value} (ho : Owns w0 base e lb lo vs) (h : OwnsA f w base e lb lo vs i k)
 (hi : vs[i]? = some (.slice (some ⟨g, 0, none⟩) xs.length c, xs)) (hk : k < xs.length) (hlt : lb < w.heap.size) :
 OwnsA f (w.setCell ⟨g, k, none⟩ (f i k)) base e lb lo vs i (k + 1) ∧ w.frozen? ⟨g, k, none⟩ = false ∧ ∃ x, w.cell? ⟨g, k, none⟩ = some x := by
 have hrow := h.row i _ _ hi
 rw [if_neg (by omega), if_pos rfl] at hrow
 obtain ⟨h1, h2, h3⟩ := hrow.set hk (f i k)
 have hc : Chg [g] w (w.setCell ⟨g, k, none⟩ (f i k)) := (Chg.refl _ _).setCell (.inl (by simp)) _
 refine ⟨⟨fun j v xs' hj => ?_, fun j v' xs' hj => ?_⟩, h2, h3⟩
 ·have hne := ho.list i _ _ hi
  exact (hc.cell (p := ⟨lb, lo + j, none⟩) hlt (by simp [Value.ownBlock] at hne; simpa using fun e => hne e.symm)).trans (h.head j v xs' hj)
 ·by_cases hji : j = i
  ·subst hji
   rw [hi] at hj
   obtain ⟨rfl, rfl⟩ : _ = v' ∧ xs = xs' := by simpa using hj
   rw [if_neg (by omega), if_pos rfl, ← mix_set hk]
   exact h1
  ·have := (h.row j v' xs' hj).chg hc (fun b hb => by
    have := ho.apart i j _ _ _ _ g (fun e => hji e.symm) hi hj rfl
    intro hm
    obtain rfl : b = g := by simpa using hm
    exact this hb)
   by_cases h1 : j < i
   ·rw [if_pos h1] at this ⊢; exact this
   ·rw [if_neg h1, if_neg hji] at this ⊢; exact this

/-- The marks of one list. -/
def marks (f : Nat → Nat → Value) (j n : Nat) : List Value := (List.range n).map (f j)

theorem marks_len (f : Nat → Nat → Value) (j n : Nat) : (marks f j n).length = n := by simp [marks]

theorem marks_succ (f : Nat → Nat → Value) (j n : Nat) : marks f j (n + 1) = marks f j n ++ [f j n] := by simp [marks, List.range_succ]

/-- A list that has been marked, and its longer copy. -/
structure Done (fA fB : Nat → Nat → Value) (w : World) (H0 : Nat) (lg v : Value) (j n : Nat) (y : Value) : Prop where
 rv : RdV w v (marks fA j n)
 ry : RdV w y (marks fA j n ++ marks fB j 16)
 wh : ∀ b, y.ownBlock = some b → (v.ownBlock = some b ∨ H0 ≤ b) ∧ b < w.heap.size ∧ lg.ownBlock ≠ some b

/-- What is known while the longer copies are made: those before i are there. -/
structure OwnsB (fA fB : Nat → Nat → Value) (w : World) (base : Nat) (e le : TypeId) (lb lo : Nat) (vs : List (Value × List Value)) (H0 : Nat) (lg : Value) (ys : List Value) (i : Nat) : Prop where
 head : ∀ (j : Nat) (v : Value) (xs : List Value), vs[j]? = some (v, xs) → w.cell? ⟨lb, lo + j, none⟩ = some v
 row : ∀ (j : Nat) (v : Value) (xs : List Value), vs[j]? = some (v, xs) → i ≤ j → OwnR w base v xs.length (marks fA j xs.length)
 long : w.ownsRow H0 le 1 lg i ys
 done : ∀ (j : Nat) (v : Value) (xs : List Value) (y : Value), vs[j]? = some (v, xs) → ys[j]? = some y → Done fA fB w H0 lg v j xs.length y
 size : H0 ≤ w.heap.size

/-- The i-th longer copy grows: x, so far. -/
structure InB (fA fB : Nat → Nat → Value) (wi w : World) (base : Nat) (e : TypeId) (v : Value) (n i : Nat) (x : Value) (k : Nat) : Prop where
 row : OwnR w base x (n + k) (marks fA i n ++ marks fB i k)
 rv : RdV w v (marks fA i n)
 blk : x.ownBlock = v.ownBlock ∨ ∃ b, x.ownBlock = some b ∧ wi.heap.size ≤ b
 chg : Chg v.ownBlock.toList wi w

/-- All are marked: the longer copies begin. -/
theorem OwnsA.copy {fA fB : Nat → Nat → Value} {w : World} {base : Nat} {e le : TypeId} {lb lo : Nat} {vs : List (Value × List Value)} (h : OwnsA fA w base e lb lo vs vs.length 0) :
 OwnsB fA fB w base e le lb lo vs w.heap.size (.slice none 0 0) [] 0 :=
 ⟨h.head, fun j v xs hj _ => by
  have hlt : j < vs.length := (List.getElem?_eq_some_iff.1 hj).1
  have := h.row j v xs hj
  rw [if_pos hlt, mix_full] at this
  exact this, World.ownsRow_nil _ _ _ _, fun j v xs y hj hy => by simp at hy, Nat.le_refl _⟩

theorem InB.start {fA fB : Nat → Nat → Value} {w : World} {base : Nat} {e : TypeId} {v : Value} {n i : Nat} (h : OwnR w base v n (marks fA i n)) : InB fA fB w w base e v n i v 0 :=
 ⟨by simpa [marks] using h, h.rd, .inl rfl, Chg.refl _ _⟩

theorem InB.step {fA fB : Nat → Nat → Value} {wi w wn : World} {base : Nat} {e : TypeId} {v : Value} {n i : Nat} {x x' : Value} {k : Nat} (hv : OwnR wi base v n (marks fA i n)) (h : InB fA fB wi w base e v n i x k)
 (ho : OwnR wn base x' (n + k + 1) (marks fA i n ++ (marks fB i k ++ [fB i k]))) (hg : (w.alloc (.cells #[fB i k] e)).grownBy wn x.ownBlock)
 (hb : x'.ownBlock = x.ownBlock ∨ (x'.ownBlock = some (w.heap.size + 1) ∧ (w.alloc (.cells #[fB i k] e)).grownBy wn none)) : InB fA fB wi wn base e v n i x' (k + 1) := by
 have hzi := h.chg.size
 refine ⟨?_, ?_, ?_, (h.chg.alloc _).grown hg (fun b hbb => ?_)⟩
 ·rw [marks_succ]
  exact ho
 ·rcases hb with hb | ⟨hb, hn⟩
  ·rcases h.blk with hx | ⟨b, hx, hge⟩
   ·obtain ⟨e1, hv⟩ := hv
    obtain ⟨e2, ho⟩ := ho
    rcases hv.2 with ⟨rfl, rfl⟩ | ⟨g, cap, cur, rfl, _, hgg, _⟩
    ·exact .inl ⟨by simp [marks], _, _, rfl⟩
    ·have hx' : x'.ownBlock = some g := by rw [hb, hx]; rfl
     rcases ho.2 with ⟨rfl, _⟩ | ⟨g', cap', cur', rfl, _, hgg', _⟩
     ·cases hx'
     ·obtain rfl : g' = g := by simpa [Value.ownBlock] using hx'
      refine .inr ⟨g', 0, cap, by rw [marks_len], (Array.getElem?_eq_some_iff.1 hgg').1, fun j u hj => ?_⟩
      rw [Nat.zero_add]
      have hjl : j < n := by have := (List.getElem?_eq_some_iff.1 hj).1; rw [marks_len] at this; exact this
      refine ownsRow_cellAt ho ?_
      rw [List.getElem?_append_left (by rw [marks_len]; exact hjl)]
      exact hj
   ·refine (h.rv.chg (s := []) ((Chg.refl _ _).alloc _) (by simp)).chg (chg_of_grown hg) (fun b' hb' hm => ?_)
    obtain rfl : b' = b := by rw [hx] at hm; simpa using hm
    have := (hv.lt b' hb').2
    omega
  ·exact (h.rv.chg (s := []) ((Chg.refl _ _).alloc _) (by simp)).chg (chg_of_grown hn) (by simp)
 ·rcases hb with hb | ⟨hb, _⟩
  ·rw [hb]; exact h.blk
  ·exact .inr ⟨_, hb, by omega⟩
 ·rcases h.blk with hx | ⟨b', hx, hge⟩
  ·rw [hx] at hbb; exact .inl (by rw [hbb]; simp)
  ·rw [hx] at hbb
   obtain rfl : b' = b := by simpa using hbb
   exact .inr hge

/-- One more longer copy is there. -/
theorem OwnsB.next {fA fB : Nat → Nat → Value} {w0 wi w wn : World} {base : Nat} {e le : TypeId} {lb lo : Nat} {vs : List (Value × List Value)} {H0 : Nat} {lg lg' : Value} {ys : List Value} {i : Nat} {v : Value} {xs : List Value} {x : Value}
 (h0 : Owns w0 base e lb lo vs) (hH : w0.heap.size ≤ H0) (h : OwnsB fA fB wi base e le lb lo vs H0 lg ys i) (hi : vs[i]? = some (v, xs)) (hx : InB fA fB wi w base e v xs.length i x 16)
 (ho : wn.ownsRow H0 le 1 lg' (i + 1) (ys ++ [x])) (hg : (w.alloc (.cells #[x] le)).grownBy wn lg.ownBlock)
 (hb : lg'.ownBlock = lg.ownBlock ∨ (lg'.ownBlock = some (w.heap.size + 1) ∧ (w.alloc (.cells #[x] le)).grownBy wn none)) :
 OwnsB fA fB wn base e le lb lo vs H0 lg' (ys ++ [x]) (i + 1) := by
 have hyl : ys.length = i := owns_len h.long
 have vlt : ∀ (j : Nat) (v : Value) (xs : List Value) (b : Nat), vs[j]? = some (v, xs) → v.ownBlock = some b → b < H0 := fun j v xs b hj hb => by
  have := (h0.row j v xs hj).lt b hb
  omega
 have llt : ∀ b, lg.ownBlock = some b → H0 ≤ b ∧ b < wi.heap.size := fun b hb => h.long.lt b hb
 have c1 : Chg (v.ownBlock.toList ++ lg.ownBlock.toList) wi wn := ((hx.chg.mono (fun k hk => List.mem_append_left _ hk)).alloc _).grown hg (fun k hk => .inl (List.mem_append_right _ (by rw [hk]; simp)))
 have c2 : Chg lg.ownBlock.toList w wn := ((Chg.refl _ w).alloc _).grown hg (fun k hk => .inl (by rw [hk]; simp))
 have hz1 := hx.chg.size
 have hz2 := c2.size
 have nv : ∀ (j : Nat) (v' : Value) (xs' : List Value) (b : Nat), j ≠ i → vs[j]? = some (v', xs') → v'.ownBlock = some b → b ∉ v.ownBlock.toList ++ lg.ownBlock.toList := fun j v' xs' b hne hj hb' hm => by
  rcases List.mem_append.1 hm with hm | hm
  ·exact h0.apart j i v' xs' v xs b hne hj hi hb' (by simpa using hm)
  ·have := vlt j v' xs' b hj hb'
   have := (llt b (by simpa using hm)).1
   omega
 refine ⟨fun j v' xs' hj => ?_, fun j v' xs' hj hij => ?_, ho, fun j v' xs' y hj hy => ?_, by have := h.size; omega⟩
 ·refine (c1.cell (p := ⟨lb, lo + j, none⟩) ?_ (fun hm => ?_)).trans (h.head j v' xs' hj)
  ·have := h0.lt; have := h.size; show lb < _; omega
  ·rcases List.mem_append.1 hm with hm | hm
   ·exact h0.list i v xs hi (by simpa using hm)
   ·have := (llt lb (by simpa using hm)).1
    have := h0.lt
    omega
 ·exact (h.row j v' xs' hj (by omega)).chg c1 (fun b hb' => nv j v' xs' b (by omega) hj hb')
 ·by_cases hji : j < i
  ·rw [List.getElem?_append_left (by omega)] at hy
   have hd := h.done j v' xs' y hj hy
   refine ⟨hd.rv.chg c1 (fun b hb' => nv j v' xs' b (by omega) hj hb'), hd.ry.chg c1 (fun b hb' hm => ?_), fun b hb' => ?_⟩
   ·obtain ⟨q1, q2, q3⟩ := hd.wh b hb'
    rcases q1 with q1 | q1
    ·exact nv j v' xs' b (by omega) hj q1 hm
    ·rcases List.mem_append.1 hm with hm | hm
     ·have := vlt i v xs b hi (by simpa using hm)
      omega
     ·exact q3 (by simpa using hm)
   ·obtain ⟨q1, q2, q3⟩ := hd.wh b hb'
    refine ⟨q1, by omega, fun hl => ?_⟩
    rcases hb with hb | ⟨hb, _⟩
    ·rw [hb] at hl; exact q3 hl
    ·rw [hb] at hl
     simp at hl
     omega
  ·have hjlt : j < (ys ++ [x]).length := (List.getElem?_eq_some_iff.1 hy).1
   obtain rfl : j = i := by simp at hjlt; omega
   obtain rfl : x = y := by
    rw [List.getElem?_append_right (by omega), hyl, Nat.sub_self] at hy
    simpa using hy
   rw [hi] at hj
   obtain ⟨rfl, rfl⟩ : v = v' ∧ xs = xs' := by simpa using hj
   have xb : ∀ b, x.ownBlock = some b → (v.ownBlock = some b ∨ wi.heap.size ≤ b) ∧ b < w.heap.size := fun b hb' => by
    refine ⟨?_, (hx.row.lt b hb').2⟩
    rcases hx.blk with q | ⟨b', q, hge⟩
    ·exact .inl (by rw [← q]; exact hb')
    ·rw [q] at hb'
     obtain rfl : b' = b := by simpa using hb'
     exact .inr hge
   refine ⟨hx.rv.chg c2 (fun b hb' hm => ?_), hx.row.rd.chg c2 (fun b hb' hm => ?_), fun b hb' => ?_⟩
   ·have := vlt j v xs b hi hb'
    have := (llt b (by simpa using hm)).1
    omega
   ·have hl := llt b (by simpa using hm)
    rcases (xb b hb').1 with q | q
    ·have := vlt j v xs b hi q
     omega
    ·omega
   ·obtain ⟨q1, q2⟩ := xb b hb'
    have hsz := h.size
    refine ⟨?_, by omega, fun hl => ?_⟩
    ·rcases q1 with q1 | q1
     ·exact .inl q1
     ·exact .inr (by omega)
    ·rcases hb with hb | ⟨hb, _⟩
     ·rw [hb] at hl
      have hl2 := llt b hl
      rcases q1 with q | q
      ·have := vlt j v xs b hi q
       omega
      ·omega
     ·rw [hb] at hl
      simp at hl
      omega

end Go.Proofs.YtkafkdlgflkjgaaGreat
namespace Go.Proofs.YtkafkdlgflkjgaaGreat
open Go.RowKit

/-- The blocks of some lists. -/
def rowsOf (vs : List (Value × List Value)) : List Nat := vs.filterMap fun p => p.1.ownBlock

theorem rowsOf_mem {vs : List (Value × List Value)} {j : Nat} {v : Value} {xs : List Value} {g : Nat} (h : vs[j]? = some (v, xs)) (hg : v.ownBlock = some g) : g ∈ rowsOf vs :=
 List.mem_filterMap.2 ⟨_, List.mem_of_getElem? h, hg⟩

theorem rowsOf_spec {vs : List (Value × List Value)} {g : Nat} (h : g ∈ rowsOf vs) : ∃ (j : Nat) (v : Value) (xs : List Value), vs[j]? = some (v, xs) ∧ v.ownBlock = some g := by
 obtain ⟨⟨v, xs⟩, hm, hg⟩ := List.mem_filterMap.1 h
 obtain ⟨j, hj⟩ := List.mem_iff_getElem?.1 hm
 exact ⟨j, v, xs, hj, hg⟩

end Go.Proofs.YtkafkdlgflkjgaaGreat

/-
  Arrays by value, at an operation: made, read, written. No function of the program is named here. By an AI agent.
-/
namespace Go.Proofs.YtkafkdlgflkjgaaGreat
open Go.RowKit

/-- A variable of a great type is made. -/
theorem wpList_alloc_arr {P : Program} {w : World} {ops : Array Oper} {rest : List Oper} {o : Oper} {a : Act} {Q : Exit → Act → World → Prop} (hgd : o.guard = none) (t : TypeId) (ho : o.op = .alloc t)
 (i : TypeInfo) (z : Value) (hi : P.info? t = some i) (hz : i.zero = some z)
 (h : wpList P ops Q rest (a.put o.dst (.pointer (some ⟨w.heap.size, 0, none⟩))) (w.alloc (.cells z.cells t))) : wpList P ops Q (o :: rest) a w := by
 refine wpList_plain hgd fun K hK => ?_
 unfold Oper.wp
 simp [execOp, ho, Instr.alloc, zeroValue, typeInfo, hi, hz, newVar, newRow, Result.andThen]
 exact hK _ _ h

/-- Cells into the middle of a block that is known whole. -/
theorem Blk.setCells {g : Nat} {e : TypeId} : ∀ (cs : List Value) (cur : List Value) (off : Nat) (w : World), Blk w g e cur → off + cs.length ≤ cur.length → Blk (w.setCells g off cs) g e (lay cur off cs)
 | [], cur, off, w, h, _ => by rw [lay_nil]; exact h
 | v :: cs, cur, off, w, h, hl => by
   have hl' : off + (cs.length + 1) ≤ cur.length := hl
   rw [World.setCells]
   have := Blk.setCells cs (cur.set off v) (off + 1) _ (h.set off v) (by rw [List.length_set]; omega)
   rw [show Go.Proofs.YtkafkdlgflkjgaaGreat.lay cur off (v :: cs) = Go.Proofs.YtkafkdlgflkjgaaGreat.lay (cur.set off v) (off + 1) cs from ?_]
   ·exact this
   ·unfold Go.Proofs.YtkafkdlgflkjgaaGreat.lay
    rw [List.length_cons, List.take_set, List.drop_set, if_pos (by omega), show off + (cs.length + 1) = off + 1 + cs.length by omega]
    rw [show (cur.take (off + 1)).set off v = cur.take off ++ [v] from ?_]
    ·simp
    ·apply List.ext_getElem?
     intro j
     by_cases hj : j < off
     ·rw [List.getElem?_set_ne (by omega), List.getElem?_append_left (by simp; omega), List.getElem?_take_of_lt (by omega), List.getElem?_take_of_lt hj]
     ·by_cases hj2 : j = off
      ·subst hj2
       rw [List.getElem?_set_self (by simp; omega), List.getElem?_append_right (by simp; omega), List.length_take, Nat.min_eq_left (by omega), Nat.sub_self]
       rfl
      ·rw [List.getElem?_eq_none (by simp; omega), List.getElem?_eq_none (by simp; omega)]

theorem Chg.setCells {s : List Nat} {a : World} {g : Nat} : ∀ (cs : List Value) (off : Nat) (w : World), Chg s a w → (g ∈ s ∨ a.heap.size ≤ g) → Chg s a (w.setCells g off cs)
 | [], _, _, h, _ => h
 | v :: cs, off, w, h, hg => by
   rw [World.setCells]
   exact Chg.setCells cs (off + 1) _ (h.setCell (p := ⟨g, off, none⟩) hg v) hg

theorem Blk.range {w : World} {g : Nat} {e : TypeId} {vs : List Value} (h : Blk w g e vs) (off n : Nat) : w.rangeAt g off ((vs.drop off).take n) := fun j v hv => by
 refine h.cell ?_
 have hj : j < n := by
  have := (List.getElem?_eq_some_iff.1 hv).1
  rw [List.length_take] at this
  omega
 rw [List.getElem?_take_of_lt hj, List.getElem?_drop] at hv
 exact hv

theorem Blk.rangeAll {w : World} {g : Nat} {e : TypeId} {vs : List Value} (h : Blk w g e vs) : w.rangeAt g 0 vs := fun j v hv => by
 rw [Nat.zero_add]
 exact h.cell hv

theorem Blk.there {w : World} {g : Nat} {e : TypeId} {vs : List Value} (h : Blk w g e vs) (off n : Nat) (hn : off + n ≤ vs.length) : w.there g off n := fun j hj => by
 have hlt : off + j < vs.length := by omega
 exact ⟨by rw [h.cell (List.getElem?_eq_getElem hlt)]; rfl, h.free _⟩

theorem lay_all {α : Type} (a b : List α) (h : b.length = a.length) : lay a 0 b = b := by
 unfold lay
 rw [List.take_zero, List.nil_append, Nat.zero_add, List.drop_eq_nil_of_le (by omega), List.append_nil]

/-- A great value into a block that is known whole. -/
theorem wpList_store_blk {P : Program} {w : World} {ops : Array Oper} {rest : List Oper} {o : Oper} {a : Act} {Q : Exit → Act → World → Prop} (hgd : o.guard = none) (ty : TypeId) (x y : Operand) (ho : o.op = .store ty x y)
 (g off : Nat) (e : TypeId) (cur cs : List Value) (hx : a.eval x = .pointer (some ⟨g, off, none⟩)) (hy : a.eval y = .agg cs.toArray)
 (hb : Blk w g e cur) (hl : off + cs.length ≤ cur.length) (hi : (P.info? ty).map (·.size) = some cs.length) (h1 : ∀ v ∈ cs, v.oneCell' = true)
 (h : ∀ w', Hid (Blk w' g e (lay cur off cs)) → Hid (Chg [g] w w') → wpList P ops Q rest (a.put o.dst undef) w') : wpList P ops Q (o :: rest) a w := by
 refine wpList_store_mid hgd ty x y ho g off cs.toArray hx hy (by simpa using hb.there off cs.length hl) (by simpa using hi) (all_oneCell_toArray h1) ?_
 exact h _ (show Blk _ _ _ _ from Blk.setCells cs cur off w hb hl) (show Chg _ _ _ from Chg.setCells cs off w (Chg.refl _ _) (.inl (by simp)))

end Go.Proofs.YtkafkdlgflkjgaaGreat

/-
  Things that lie side by side in memory: each with its blocks, and what is said of it while they stay. No function of the program is named here. By an AI agent.
-/
namespace Go.Proofs.YtkafkdlgflkjgaaGreat
open Go.RowKit

/-- Something in memory: its blocks, and what is said of it, which stands while these stay. -/
structure Thing where
 F : List Nat
 P : World → Prop
 lt : ∀ w, P w → ∀ k ∈ F, k < w.heap.size
 stays : ∀ w w' s, P w → Chg s w w' → (∀ k ∈ F, k ∉ s) → P w'

/-- Blocks that none of both has. -/
def Thing.off (a b : Thing) : Prop := ∀ k ∈ a.F, k ∉ b.F

theorem Thing.off.symm {a b : Thing} (h : a.off b) : b.off a := fun k hk hm => h k hm hk

/-- Things side by side, all of them newer than w0. -/
structure Side (w0 w : World) (ts : List Thing) : Prop where
 each : ∀ t ∈ ts, t.P w
 apart : ts.Pairwise Thing.off
 new : ∀ t ∈ ts, ∀ k ∈ t.F, w0.heap.size ≤ k
 chg : Chg [] w0 w

theorem Side.nil {w0 w : World} (c : Chg [] w0 w) : Side w0 w [] := ⟨(fun t h => by cases h), List.Pairwise.nil, (fun t h => by cases h), c⟩

theorem Side.size {w0 w : World} {ts : List Thing} (h : Side w0 w ts) : w0.heap.size ≤ w.heap.size := h.chg.size

theorem Side.quiet {w0 w w' : World} {ts : List Thing} (h : Side w0 w ts) (c : Chg [] w w') : Side w0 w' ts :=
 ⟨fun t ht => t.stays w w' [] (h.each t ht) c (fun _ _ => by simp), h.apart, h.new, h.chg.trans c⟩

theorem Side.get {w0 w : World} {ts : List Thing} (h : Side w0 w ts) (i : Nat) {t : Thing} (hi : ts[i]? = some t) : t.P w := h.each t (List.mem_of_getElem? hi)

theorem Side.perm {w0 w : World} {ts us : List Thing} (h : Side w0 w ts) (p : ts.Perm us) : Side w0 w us :=
 ⟨fun t ht => h.each t (p.mem_iff.2 ht), (List.Perm.pairwise_iff (R := Thing.off) (fun {a b} (q : a.off b) => q.symm) p).1 h.apart, fun t ht => h.new t (p.mem_iff.2 ht), h.chg⟩

theorem Side.sub {w0 w : World} {ts us : List Thing} (h : Side w0 w ts) (s : us.Sublist ts) : Side w0 w us :=
 ⟨fun t ht => h.each t (s.subset ht), h.apart.sublist s, fun t ht => h.new t (s.subset ht), h.chg⟩

theorem Side.tail {w0 w : World} {t : Thing} {ts : List Thing} (h : Side w0 w (t :: ts)) : Side w0 w ts := h.sub (List.sublist_cons_self _ _)

/-- What stood ahead turned into something else: in its own blocks, and in new ones. -/
theorem Side.swap {w0 w w' : World} {olds bs ts : List Thing} {s : List Nat} (h : Side w0 w (olds ++ ts)) (c : Chg s w w') (hs : ∀ k ∈ s, (∃ a ∈ olds, k ∈ a.F) ∨ w.heap.size ≤ k)
 (hb : ∀ b ∈ bs, b.P w') (hf : ∀ b ∈ bs, ∀ k ∈ b.F, (∃ a ∈ olds, k ∈ a.F) ∨ w.heap.size ≤ k) (ha : bs.Pairwise Thing.off) : Side w0 w' (bs ++ ts) := by
 obtain ⟨ha0, ht0, hat⟩ := List.pairwise_append.1 h.apart
 have old : ∀ t ∈ ts, ∀ k ∈ t.F, ¬ ((∃ a ∈ olds, k ∈ a.F) ∨ w.heap.size ≤ k) := fun t ht k hk hor => by
  rcases hor with ⟨a, haa, hka⟩ | hge
  ·exact hat a haa t ht k hka hk
  ·have := t.lt w (h.each t (List.mem_append_right _ ht)) k hk
   omega
 refine ⟨fun t ht => ?_, List.pairwise_append.2 ⟨ha, ht0, fun b hb2 t ht k hk hm => old t ht k hm (hf b hb2 k hk)⟩, fun t ht k hk => ?_, ?_⟩
 ·rcases List.mem_append.1 ht with ht | ht
  ·exact hb t ht
  ·exact t.stays w w' s (h.each t (List.mem_append_right _ ht)) c (fun k hk hm => old t ht k hk (hs k hm))
 ·rcases List.mem_append.1 ht with ht | ht
  ·rcases hf t ht k hk with ⟨a, haa, hka⟩ | hge
   ·exact h.new a (List.mem_append_left _ haa) k hka
   ·have := h.chg.size
    omega
  ·exact h.new t (List.mem_append_right _ ht) k hk
 ·refine h.chg.fresh c (fun k hk => ?_)
  rcases hs k hk with ⟨a, haa, hka⟩ | hge
  ·exact .inr (h.new a (List.mem_append_left _ haa) k hka)
  ·have := h.chg.size
   exact .inr (by omega)

/-- The first of them turned. -/
theorem Side.turn {w0 w w' : World} {a b : Thing} {ts : List Thing} {s : List Nat} (h : Side w0 w (a :: ts)) (c : Chg s w w') (hs : ∀ k ∈ s, k ∈ a.F ∨ w.heap.size ≤ k) (hb : b.P w') (hf : ∀ k ∈ b.F, k ∈ a.F ∨ w.heap.size ≤ k) : Side w0 w' (b :: ts) := by
 refine Side.swap (olds := [a]) (bs := [b]) h c (fun k hk => ?_) (fun x hx => ?_) (fun x hx k hk => ?_) (List.pairwise_singleton _ _)
 ·rcases hs k hk with q | q
  ·exact .inl ⟨a, List.mem_singleton.2 rfl, q⟩
  ·exact .inr q
 ·rw [List.mem_singleton.1 hx]; exact hb
 ·rw [List.mem_singleton.1 hx] at hk
  rcases hf k hk with q | q
  ·exact .inl ⟨a, List.mem_singleton.2 rfl, q⟩
  ·exact .inr q

/-- The first two turned into one. -/
theorem Side.join {w0 w w' : World} {a b c : Thing} {ts : List Thing} {s : List Nat} (h : Side w0 w (a :: b :: ts)) (ch : Chg s w w') (hs : ∀ k ∈ s, k ∈ a.F ∨ k ∈ b.F ∨ w.heap.size ≤ k) (hc : c.P w') (hf : ∀ k ∈ c.F, k ∈ a.F ∨ k ∈ b.F ∨ w.heap.size ≤ k) : Side w0 w' (c :: ts) := by
 refine Side.swap (olds := [a, b]) (bs := [c]) h ch (fun k hk => ?_) (fun x hx => ?_) (fun x hx k hk => ?_) (List.pairwise_singleton _ _)
 ·rcases hs k hk with q | q | q
  ·exact .inl ⟨a, by simp, q⟩
  ·exact .inl ⟨b, by simp, q⟩
  ·exact .inr q
 ·rw [List.mem_singleton.1 hx]; exact hc
 ·rw [List.mem_singleton.1 hx] at hk
  rcases hf k hk with q | q | q
  ·exact .inl ⟨a, by simp, q⟩
  ·exact .inl ⟨b, by simp, q⟩
  ·exact .inr q

/-- One thing more, in new blocks. -/
theorem Side.add {w0 w w' : World} {b : Thing} {ts : List Thing} (h : Side w0 w ts) (c : Chg [] w w') (hb : b.P w') (hf : ∀ k ∈ b.F, w.heap.size ≤ k) : Side w0 w' (b :: ts) := by
 refine Side.swap (olds := []) (bs := [b]) h c (fun k hk => by cases hk) (fun x hx => ?_) (fun x hx k hk => ?_) (List.pairwise_singleton _ _)
 ·rw [List.mem_singleton.1 hx]; exact hb
 ·rw [List.mem_singleton.1 hx] at hk
  exact .inr (hf k hk)

/-- The i-th to the front. -/
def front (ts : List Thing) (i : Nat) : List Thing := match ts[i]? with
 | some t => t :: ts.eraseIdx i
 | none => ts

theorem front_perm : ∀ (ts : List Thing) (i : Nat), ts.Perm (front ts i)
 | [], i => by simp [front]
 | t :: ts, 0 => by simp [front]
 | t :: ts, i + 1 => by
   have ih := front_perm ts i
   unfold front at ih ⊢
   rw [List.getElem?_cons_succ, List.eraseIdx_cons_succ]
   cases h : ts[i]? with
   | none => exact List.Perm.refl _
   | some x =>
     rw [h] at ih
     exact (List.Perm.cons t ih).trans (List.Perm.swap x t _)

theorem Side.front {w0 w : World} {ts : List Thing} (h : Side w0 w ts) (i : Nat) : Side w0 w (front ts i) := h.perm (front_perm ts i)

theorem set_perm : ∀ (ts : List Thing) (i : Nat) (t : Thing), i < ts.length → (ts.set i t).Perm (t :: ts.eraseIdx i)
 | [], i, _, h => by cases h
 | a :: ts, 0, t, _ => by simp
 | a :: ts, i + 1, t, h => by
   rw [List.set_cons_succ, List.eraseIdx_cons_succ]
   exact (List.Perm.cons a (set_perm ts i t (by simpa using h))).trans (List.Perm.swap t a _)

theorem front_some {ts : List Thing} {i : Nat} {t : Thing} (h : ts[i]? = some t) : Go.Proofs.YtkafkdlgflkjgaaGreat.front ts i = t :: ts.eraseIdx i := by
 unfold Go.Proofs.YtkafkdlgflkjgaaGreat.front
 rw [h]

/-- The i-th of them turned. -/
theorem Side.turnAt {w0 w w' : World} {a b : Thing} {ts : List Thing} {s : List Nat} (h : Side w0 w ts) (i : Nat) (hi : ts[i]? = some a) (c : Chg s w w') (hs : ∀ k ∈ s, k ∈ a.F ∨ w.heap.size ≤ k) (hb : b.P w') (hf : ∀ k ∈ b.F, k ∈ a.F ∨ w.heap.size ≤ k) : Side w0 w' (ts.set i b) := by
 have h1 := h.front i
 rw [front_some hi] at h1
 exact (h1.turn c hs hb hf).perm (set_perm ts i b (List.getElem?_eq_some_iff.1 hi).1).symm

/-- What a call does to the thing whose blocks are F. -/
def Turns (w : World) (F : List Nat) (T : List Nat → Thing) (w' : World) : Prop := ∃ F', (T F').P w' ∧ (∀ k ∈ (T F').F, k ∈ F ∨ w.heap.size ≤ k) ∧ Chg F w w'

theorem Side.act {w0 w w' : World} {a : Thing} {ts : List Thing} {T : List Nat → Thing} (h : Side w0 w ts) (i : Nat) (hi : ts[i]? = some a) (c : Turns w a.F T w') : ∃ F', Side w0 w' (ts.set i (T F')) := by
 obtain ⟨F', h1, h2, h3⟩ := c
 exact ⟨F', h.turnAt i hi h3 (fun k hk => .inl hk) h1 h2⟩

/-- Cells in a row of their own. -/
def ownT (e : TypeId) (v : Value) (xs : List Value) : Thing where
 F := v.ownBlock.toList
 P := fun w => w.ownsRow 0 e 1 v xs.length xs
 lt := fun w h k hk => (h.lt k (by simpa using hk)).2
 stays := fun w w' s h c hs => owns_chg h c (fun k hk => hs k (by rw [hk]; simp))

/-- A block that is known whole. -/
def blkT (g : Nat) (e : TypeId) (vs : List Value) : Thing where
 F := [g]
 P := fun w => Blk w g e vs
 lt := fun w h k hk => by rw [List.mem_singleton.1 hk]; exact h.lt
 stays := fun w w' s h c hs => h.chg c (hs g (by simp))

/-- A row of their own more. -/
theorem Side.own {w0 w w' : World} {ts : List Thing} {e : TypeId} {v : Value} {n : Nat} {xs : List Value} (h : Side w0 w ts) (o : w'.ownsRow w.heap.size e 1 v n xs) (c : Chg [] w w') : Side w0 w' (ownT e v xs :: ts) := by
 have hn : xs.length = n := owns_len o
 subst hn
 exact h.add c (ownsRow_base (B' := 0) o (Nat.zero_le _)) (fun k hk => (o.lt k (by simpa [ownT] using hk)).1)

/-- One cell of such a row is written. -/
theorem Side.set {w0 w : World} {ts : List Thing} {e : TypeId} {g n c : Nat} {xs : List Value} (h : Side w0 w ts) (i : Nat) (hi : ts[i]? = some (ownT e (.slice (some ⟨g, 0, none⟩) n c) xs)) {k : Nat} (hk : k < xs.length) (u : Value) :
 Side w0 (w.setCell ⟨g, k, none⟩ u) (ts.set i (ownT e (.slice (some ⟨g, 0, none⟩) n c) (xs.set k u))) ∧ w.frozen? ⟨g, k, none⟩ = false ∧ ∃ x, w.cell? ⟨g, k, none⟩ = some x := by
 have o : w.ownsRow 0 e 1 (.slice (some ⟨g, 0, none⟩) n c) xs.length xs := h.get i hi
 have hn : n = xs.length := by
  rcases o.2 with ⟨h1, _⟩ | ⟨_, _, _, hv, _⟩
  ·cases h1
  ·simp at hv; exact hv.2.1
 subst hn
 obtain ⟨h1, h2, h3⟩ := owns_set o hk u
 refine ⟨h.turnAt i hi (s := [g]) ((Chg.refl _ _).setCell (.inl (by simp)) _) (fun k hk => .inl ?_) ?_ (fun k hk => .inl hk), h2, h3⟩
 ·rw [List.mem_singleton.1 hk]
  simp [ownT, Value.ownBlock]
 ·show (w.setCell ⟨g, k, none⟩ u).ownsRow 0 e 1 _ (xs.set k u).length (xs.set k u)
  rw [List.length_set]
  exact h1

end Go.Proofs.YtkafkdlgflkjgaaGreat

/-
  Lists of values of several cells that came out, each in memory of its own: what is known of them while they are written over. No function of the program is named here. By an AI agent.
-/
namespace Go.Proofs.YtkafkdlgflkjgaaGreat
open Go.RowKit

/-- A list with some of its places written over. -/
def setL : List Value → Nat → List Value → List Value
 | l, _, [] => l
 | l, off, v :: cs => setL (l.set off v) (off + 1) cs

theorem setL_len : ∀ (cs : List Value) (l : List Value) (off : Nat), (setL l off cs).length = l.length
 | [], _, _ => rfl
 | v :: cs, l, off => by rw [setL, setL_len cs]; simp

theorem setL_mid : ∀ (new old A C : List Value), old.length = new.length → setL (A ++ old ++ C) A.length new = A ++ new ++ C
 | [], [], A, C, _ => by simp [setL]
 | v :: new, b :: old, A, C, h => by
   have h1 : (A ++ b :: old ++ C).set A.length v = (A ++ [v]) ++ old ++ C := by simp
   rw [setL, h1, show A.length + 1 = (A ++ [v]).length by simp, setL_mid new old (A ++ [v]) C (by simpa using h)]
   simp

theorem setL_front : ∀ (cs P R : List Value) (off : Nat), off + cs.length ≤ P.length → setL (P ++ R) off cs = setL P off cs ++ R
 | [], _, _, _, _ => rfl
 | v :: cs, P, R, off, h => by
   have h2 : off + (cs.length + 1) ≤ P.length := h
   rw [setL, setL, List.set_append_left _ _ (by omega), setL_front cs _ R (off + 1) (by rw [List.length_set]; omega)]

theorem heap_setL {g : Nat} {e : TypeId} : ∀ (cs : List Value) (cur : Array Value) (off : Nat) (w : World), w.heap[g]? = some (.cells cur e (0, 0)) →
 ∃ cur' : Array Value, (w.setCells g off cs).heap[g]? = some (.cells cur' e (0, 0)) ∧ cur'.size = cur.size ∧ cur'.toList = setL cur.toList off cs
 | [], cur, off, w, h => ⟨cur, h, rfl, rfl⟩
 | v :: cs, cur, off, w, h => by
   have h2 : (w.setCell ⟨g, off, none⟩ v).heap[g]? = some (.cells (cur.setIfInBounds off v) e (0, 0)) := by
    simp [World.setCell, Array.getElem?_modify, h]
   obtain ⟨c2, q1, q2, q3⟩ := heap_setL cs (cur.setIfInBounds off v) (off + 1) _ h2
   exact ⟨c2, q1, by rw [q2]; simp, by rw [q3, Array.toList_setIfInBounds]; rfl⟩

/-- Slots of s cells. -/
def Slots (s : Nat) (xs : List (List Value)) : Prop := ∀ x ∈ xs, x.length = s

theorem Slots.set {s : Nat} {xs : List (List Value)} (h : Slots s xs) {k : Nat} {x : List Value} (hx : x.length = s) : Slots s (xs.set k x) := fun y hy => by
 rcases List.mem_or_eq_of_mem_set hy with q | rfl
 ·exact h y q
 ·exact hx

theorem Slots.app {s : Nat} {xs ys : List (List Value)} (h : Slots s xs) (h2 : Slots s ys) : Slots s (xs ++ ys) := fun y hy => (List.mem_append.1 hy).elim (h y) (h2 y)

theorem flat_len {s : Nat} : ∀ {xs : List (List Value)}, Slots s xs → xs.flatten.length = xs.length * s
 | [], _ => by simp
 | x :: xs, h => by
   rw [List.flatten_cons, List.length_append, h x List.mem_cons_self, flat_len (fun y hy => h y (List.mem_cons_of_mem _ hy)), List.length_cons, Nat.add_mul, Nat.one_mul, Nat.add_comm]

theorem flat_at {s : Nat} : ∀ {xs : List (List Value)}, Slots s xs → ∀ {j r : Nat} {x : List Value} {u : Value}, xs[j]? = some x → x[r]? = some u → xs.flatten[j * s + r]? = some u
 | [], _, j, r, x, u, h, _ => by simp at h
 | y :: xs, hs, 0, r, x, u, h, hr => by
   obtain rfl : y = x := by simpa using h
   rw [Nat.zero_mul, Nat.zero_add, List.flatten_cons, List.getElem?_append_left (List.getElem?_eq_some_iff.1 hr).1]
   exact hr
 | y :: xs, hs, j + 1, r, x, u, h, hr => by
   have hy := hs y List.mem_cons_self
   rw [List.flatten_cons, List.getElem?_append_right (by rw [hy, Nat.add_mul]; omega), hy, show (j + 1) * s + r - s = j * s + r by rw [Nat.add_mul]; omega]
   exact flat_at (fun z hz => hs z (List.mem_cons_of_mem _ hz)) (by simpa using h) hr

theorem flat_set {s : Nat} {xs : List (List Value)} (h : Slots s xs) {k : Nat} (hk : k < xs.length) {x : List Value} (hx : x.length = s) : setL xs.flatten (k * s) x = (xs.set k x).flatten := by
 have e1 : xs = xs.take k ++ [xs[k]] ++ xs.drop (k + 1) := by simp
 have hA : (xs.take k).flatten.length = k * s := by
  rw [flat_len (fun y hy => h y (List.mem_of_mem_take hy)), List.length_take, Nat.min_eq_left (by omega)]
 have e2 : xs.set k x = xs.take k ++ [x] ++ xs.drop (k + 1) := by
  rw [List.set_eq_take_append_cons_drop, if_pos hk]
  simp
 have e3 : xs.flatten = (xs.take k).flatten ++ xs[k] ++ (xs.drop (k + 1)).flatten := by
  conv => lhs; rw [e1]
  simp only [List.flatten_append, List.flatten_cons, List.flatten_nil, List.append_nil]
 rw [e2, e3, ← hA, setL_mid x xs[k] _ _ (by rw [hx, h _ (List.getElem_mem _)])]
 simp only [List.flatten_append, List.flatten_cons, List.flatten_nil, List.append_nil]

/-- The slice v reads as these slots. -/
def RdW (s : Nat) (w : World) (v : Value) (xs : List (List Value)) : Prop :=
 (xs = [] ∧ ∃ ao c, v = .slice ao 0 c) ∨ ∃ b c, v = .slice (some ⟨b, 0, none⟩) xs.length c ∧ b < w.heap.size ∧ ∀ j r x u, xs[j]? = some x → x[r]? = some u → w.cell? ⟨b, j * s + r, none⟩ = some u

theorem RdW.slice {s : Nat} {w : World} {v : Value} {xs : List (List Value)} (h : RdW s w v xs) : ∃ ao c, v = .slice ao xs.length c := by
 rcases h with ⟨rfl, ao, c, rfl⟩ | ⟨b, cp, rfl, _⟩
 ·exact ⟨ao, c, rfl⟩
 ·exact ⟨_, _, rfl⟩

theorem RdW.at {s : Nat} {w : World} {ao : Option Addr} {n c : Nat} {xs : List (List Value)} (h : RdW s w (.slice ao n c) xs) {k : Nat} {x : List Value} (hx : xs[k]? = some x) : ∃ b, ao = some ⟨b, 0, none⟩ ∧ ∀ r u, x[r]? = some u → w.cell? ⟨b, k * s + r, none⟩ = some u := by
 rcases h with ⟨rfl, _⟩ | ⟨b, c', hv, hb, hc⟩
 ·simp at hx
 ·obtain ⟨rfl, _⟩ : ao = some ⟨b, 0, none⟩ ∧ n = xs.length ∧ c = c' := by simpa using hv
  exact ⟨b, rfl, fun r u hr => hc k r x u hx hr⟩

theorem RdW.chg {s : Nat} {w w' : World} {t : List Nat} {v : Value} {xs : List (List Value)} (h : RdW s w v xs) (c : Chg t w w') (hv : ∀ b, v.ownBlock = some b → b ∉ t) : RdW s w' v xs := by
 rcases h with h | ⟨b, cp, rfl, hb, hc⟩
 ·exact .inl h
 ·exact .inr ⟨b, cp, rfl, Nat.lt_of_lt_of_le hb c.size, fun j r x u hj hr => (c.cell (p := ⟨b, _, none⟩) hb (hv b rfl)).trans (hc j r x u hj hr)⟩

/-- A row of one's own, of slots. -/
def OwnW (s : Nat) (w : World) (base : Nat) (e : TypeId) (v : Value) (xs : List (List Value)) : Prop := Slots s xs ∧ w.ownsRow base e s v xs.length xs.flatten

theorem OwnW.nil (s : Nat) (w : World) (base : Nat) (e : TypeId) : OwnW s w base e (.slice none 0 0) [] := ⟨fun _ h => (by cases h), World.ownsRow_nil _ _ _ _⟩

theorem OwnW.lt {s : Nat} {w : World} {base : Nat} {e : TypeId} {v : Value} {xs : List (List Value)} (h : OwnW s w base e v xs) : ∀ k, v.ownBlock = some k → base ≤ k ∧ k < w.heap.size := h.2.lt

theorem OwnW.chg {s : Nat} {w w' : World} {t : List Nat} {base : Nat} {e : TypeId} {v : Value} {xs : List (List Value)} (h : OwnW s w base e v xs) (c : Chg t w w') (hs : ∀ k, v.ownBlock = some k → k ∉ t) : OwnW s w' base e v xs := ⟨h.1, owns_chg h.2 c hs⟩

theorem OwnW.slice {s : Nat} {w : World} {base : Nat} {e : TypeId} {v : Value} {xs : List (List Value)} (h : OwnW s w base e v xs) : ∃ ao c, v = .slice ao xs.length c := owns_slice h.2

theorem OwnW.rd {s : Nat} {w : World} {base : Nat} {e : TypeId} {v : Value} {xs : List (List Value)} (h : OwnW s w base e v xs) : RdW s w v xs := by
 obtain ⟨hs, ho⟩ := h
 rcases ho.2 with ⟨rfl, h0⟩ | ⟨g, cap, cur, rfl, hb, hg, _⟩
 ·exact .inl ⟨List.eq_nil_of_length_eq_zero h0, _, _, rfl⟩
 ·refine .inr ⟨g, cap, rfl, (Array.getElem?_eq_some_iff.1 hg).1, fun j r x u hj hr => ?_⟩
  have := ho.cells (g := g) rfl (j * s + r) u (flat_at hs hj hr)
  rw [Addr.add_lit, Nat.zero_add] at this
  exact this

theorem OwnW.head {s : Nat} {w : World} {base : Nat} {e : TypeId} {ao : Option Addr} {n c : Nat} {xs : List (List Value)} (h : OwnW s w base e (.slice ao n c) xs) (hn : 0 < xs.length) : ∃ g, ao = some ⟨g, 0, none⟩ := by
 rcases h.2.2 with ⟨_, h0⟩ | ⟨g, cap, cur, hv, _⟩
 ·omega
 ·exact ⟨g, by simp at hv; exact hv.1⟩

/-- One slot is written. -/
theorem OwnW.set {s : Nat} {w : World} {base : Nat} {e : TypeId} {g n c : Nat} {xs : List (List Value)} (h : OwnW s w base e (.slice (some ⟨g, 0, none⟩) n c) xs) {k : Nat} (hk : k < xs.length) {x : List Value} (hx : x.length = s) :
 OwnW s (w.setCells g (k * s) x) base e (.slice (some ⟨g, 0, none⟩) n c) (xs.set k x) ∧ (∀ r, w.frozen? ⟨g, r, none⟩ = false) ∧ ∀ r, r < s → ∃ u, w.cell? ⟨g, k * s + r, none⟩ = some u := by
 obtain ⟨hs, h1, h2⟩ := h
 rcases h2 with ⟨h2, _⟩ | ⟨g', cap, cur, hv, hb, hg, q1, q2, q3, q4⟩
 ·cases h2
 ·obtain ⟨rfl, rfl, rfl⟩ : g = g' ∧ n = xs.length ∧ c = cap := by simpa using hv
  obtain ⟨cur', p1, p2, p3⟩ := heap_setL x cur (k * s) w hg
  have hfl := flat_len hs
  have hks : k * s + s ≤ xs.length * s := by rw [← Nat.succ_mul]; exact Nat.mul_le_mul_right _ hk
  have hcl : xs.length * s ≤ c * s := Nat.mul_le_mul_right _ q1
  refine ⟨⟨hs.set hx, ?_, .inr ⟨g, c, cur', by simp, hb, p1, by simpa using q1, q2, by rw [p2, q3], ?_⟩⟩, fun r => by simp [World.frozen?, hg], fun r hr => ⟨cur[k * s + r]'(by rw [q3]; omega), by simp [World.cell?, hg, show k * s + r < cur.size by rw [q3]; omega]⟩⟩
  ·rw [flat_len (hs.set hx)]
  ·rw [p3, List.length_set, ← flat_set hs hk hx]
   have e1 : cur.toList = xs.flatten ++ cur.toList.drop (xs.length * s) := by rw [← q4, List.take_append_drop]
   rw [e1, setL_front _ _ _ _ (by rw [hfl, hx]; omega), List.take_append_of_le_length (by rw [setL_len, hfl]; exact Nat.le_refl _), List.take_of_length_le (by rw [setL_len, hfl]; exact Nat.le_refl _)]

/-- xs, its first k slots marked. -/
def mixW (f : Nat → List Value) (k : Nat) (xs : List (List Value)) : List (List Value) := (List.range k).map f ++ xs.drop k

theorem mixW_zero (f : Nat → List Value) (xs : List (List Value)) : mixW f 0 xs = xs := by simp [mixW]

theorem mixW_len {f : Nat → List Value} {k : Nat} {xs : List (List Value)} (h : k ≤ xs.length) : (mixW f k xs).length = xs.length := by simp [mixW]; omega

theorem mixW_set {f : Nat → List Value} {k : Nat} {xs : List (List Value)} (h : k < xs.length) : (mixW f k xs).set k (f k) = mixW f (k + 1) xs := by
 have h1 : ((List.range k).map f).length = k := by simp
 unfold mixW
 rw [List.set_append_right _ _ (by omega), h1, Nat.sub_self, List.drop_eq_getElem_cons h, List.set_cons_zero, List.range_succ, List.map_append]
 simp

theorem mixW_full (f : Nat → List Value) (xs : List (List Value)) : mixW f xs.length xs = (List.range xs.length).map f := by simp [mixW]

/-- The marks of one list. -/
def marksW (f : Nat → Nat → List Value) (j n : Nat) : List (List Value) := (List.range n).map (f j)

theorem marksW_len (f : Nat → Nat → List Value) (j n : Nat) : (marksW f j n).length = n := by simp [marksW]

theorem marksW_succ (f : Nat → Nat → List Value) (j n : Nat) : marksW f j (n + 1) = marksW f j n ++ [f j n] := by simp [marksW, List.range_succ]

theorem marksW_slots {s : Nat} {f : Nat → Nat → List Value} (hf : ∀ i k, (f i k).length = s) (j n : Nat) : Slots s (marksW f j n) := fun x hx => by
 obtain ⟨k, _, rfl⟩ := List.mem_map.1 hx
 exact hf j k

abbrev Wides := List (Value × List (List Value))

/-- The blocks of some lists. -/
def blocksOf (vs : Wides) : List Nat := vs.filterMap fun p => p.1.ownBlock

theorem blocksOf_mem {vs : Wides} {j : Nat} {v : Value} {xs : List (List Value)} {g : Nat} (h : vs[j]? = some (v, xs)) (hg : v.ownBlock = some g) : g ∈ blocksOf vs :=
 List.mem_filterMap.2 ⟨_, List.mem_of_getElem? h, hg⟩

theorem blocksOf_spec {vs : Wides} {g : Nat} (h : g ∈ blocksOf vs) : ∃ (j : Nat) (v : Value) (xs : List (List Value)), vs[j]? = some (v, xs) ∧ v.ownBlock = some g := by
 obtain ⟨⟨v, xs⟩, hm, hg⟩ := List.mem_filterMap.1 h
 obtain ⟨j, hj⟩ := List.mem_iff_getElem?.1 hm
 exact ⟨j, v, xs, hj, hg⟩

/-- Lists that came out, each the asker's own. -/
structure OwnsW (s : Nat) (w : World) (base : Nat) (e : TypeId) (lb : Nat) (vs : Wides) : Prop where
 head : ∀ (j : Nat) (v : Value) (xs : List (List Value)), vs[j]? = some (v, xs) → w.cell? ⟨lb, j, none⟩ = some v
 row : ∀ (j : Nat) (v : Value) (xs : List (List Value)), vs[j]? = some (v, xs) → OwnW s w base e v xs
 apart : ∀ (i j : Nat) (v : Value) (xs : List (List Value)) (v' : Value) (xs' : List (List Value)) (g : Nat), i ≠ j → vs[i]? = some (v, xs) → vs[j]? = some (v', xs') → v.ownBlock = some g → v'.ownBlock ≠ some g
 list : ∀ (j : Nat) (v : Value) (xs : List (List Value)), vs[j]? = some (v, xs) → v.ownBlock ≠ some lb
 lt : lb < w.heap.size

/-- While they are marked: those before i are, of the i-th the first k slots. -/
structure MarkW (s : Nat) (f : Nat → Nat → List Value) (w : World) (base : Nat) (e : TypeId) (lb : Nat) (vs : Wides) (i k : Nat) : Prop where
 head : ∀ (j : Nat) (v : Value) (xs : List (List Value)), vs[j]? = some (v, xs) → w.cell? ⟨lb, j, none⟩ = some v
 row : ∀ (j : Nat) (v : Value) (xs : List (List Value)), vs[j]? = some (v, xs) → OwnW s w base e v (if j < i then mixW (f j) xs.length xs else if j = i then mixW (f j) k xs else xs)

theorem OwnsW.start {s : Nat} {f : Nat → Nat → List Value} {w : World} {base : Nat} {e : TypeId} {lb : Nat} {vs : Wides} (h : OwnsW s w base e lb vs) : MarkW s f w base e lb vs 0 0 :=
 ⟨h.head, fun j v xs hj => by
  rw [if_neg (by omega)]
  by_cases h0 : j = 0
  ·rw [if_pos h0, mixW_zero]; exact h.row j v xs hj
  ·rw [if_neg h0]; exact h.row j v xs hj⟩

theorem MarkW.next {s : Nat} {f : Nat → Nat → List Value} {w : World} {base : Nat} {e : TypeId} {lb : Nat} {vs : Wides} {i k : Nat} {v : Value} {xs : List (List Value)} (h : MarkW s f w base e lb vs i k) (hi : vs[i]? = some (v, xs)) (hk : k = xs.length) :
 MarkW s f w base e lb vs (i + 1) 0 :=
 ⟨h.head, fun j v' xs' hj => by
  have := h.row j v' xs' hj
  by_cases h1 : j < i
  ·rw [if_pos h1] at this; rw [if_pos (by omega)]; exact this
  ·rw [if_neg h1] at this
   by_cases h2 : j = i
   ·subst h2
    rw [hi] at hj
    obtain ⟨rfl, rfl⟩ : v = v' ∧ xs = xs' := by simpa using hj
    rw [if_pos rfl] at this
    subst hk
    rw [if_pos (by omega)]; exact this
   ·rw [if_neg h2] at this
    rw [if_neg (by omega)]
    by_cases h3 : j = i + 1
    ·rw [if_pos h3, mixW_zero]; exact this
    ·rw [if_neg h3]; exact this⟩

/-- One slot more is marked. -/
theorem MarkW.set {s : Nat} {f : Nat → Nat → List Value} (hf : ∀ i k, (f i k).length = s) {w0 w : World} {base : Nat} {e : TypeId} {lb : Nat} {vs : Wides} {i k : Nat} {g c : Nat} {xs : List (List Value)} (ho : OwnsW s w0 base e lb vs) (h : MarkW s f w base e lb vs i k)
 (hi : vs[i]? = some (.slice (some ⟨g, 0, none⟩) xs.length c, xs)) (hk : k < xs.length) (hlt : lb < w.heap.size) :
 MarkW s f (w.setCells g (k * s) (f i k)) base e lb vs i (k + 1) ∧ (∀ r, w.frozen? ⟨g, r, none⟩ = false) ∧ ∀ r, r < s → ∃ x, w.cell? ⟨g, k * s + r, none⟩ = some x := by
 have hrow := h.row i _ _ hi
 rw [if_neg (by omega), if_pos rfl] at hrow
 obtain ⟨h1, h2, h3⟩ := hrow.set (k := k) (by rw [mixW_len (by omega)]; exact hk) (hf i k)
 have hc : Chg [g] w (w.setCells g (k * s) (f i k)) := chg_setCells _ _ _ (Chg.refl _ _) (.inl (by simp))
 refine ⟨⟨fun j v xs' hj => ?_, fun j v' xs' hj => ?_⟩, h2, h3⟩
 ·have hne := ho.list i _ _ hi
  exact (hc.cell (p := ⟨lb, j, none⟩) hlt (by simp [Value.ownBlock] at hne; simpa using fun e => hne e.symm)).trans (h.head j v xs' hj)
 ·by_cases hji : j = i
  ·subst hji
   rw [hi] at hj
   obtain ⟨rfl, rfl⟩ : _ = v' ∧ xs = xs' := by simpa using hj
   rw [if_neg (by omega), if_pos rfl, ← mixW_set hk]
   exact h1
  ·have := (h.row j v' xs' hj).chg hc (fun b hb => by
    have := ho.apart i j _ _ _ _ g (fun e => hji e.symm) hi hj rfl
    intro hm
    obtain rfl : b = g := by simpa using hm
    exact this hb)
   by_cases h1 : j < i
   ·rw [if_pos h1] at this ⊢; exact this
   ·rw [if_neg h1, if_neg hji] at this ⊢; exact this

/-- A list that has been marked, and its longer copy. -/
structure DoneW (s : Nat) (fA fB : Nat → Nat → List Value) (w : World) (H0 : Nat) (lg v : Value) (j n : Nat) (y : Value) : Prop where
 rv : RdW s w v (marksW fA j n)
 ry : RdW s w y (marksW fA j n ++ marksW fB j 16)
 wh : ∀ b, y.ownBlock = some b → (v.ownBlock = some b ∨ H0 ≤ b) ∧ b < w.heap.size ∧ lg.ownBlock ≠ some b

/-- While the longer copies are made: those before i are there. -/
structure LongW (s : Nat) (fA fB : Nat → Nat → List Value) (w : World) (base : Nat) (e le : TypeId) (lb : Nat) (vs : Wides) (H0 : Nat) (lg : Value) (ys : List Value) (i : Nat) : Prop where
 head : ∀ (j : Nat) (v : Value) (xs : List (List Value)), vs[j]? = some (v, xs) → w.cell? ⟨lb, j, none⟩ = some v
 row : ∀ (j : Nat) (v : Value) (xs : List (List Value)), vs[j]? = some (v, xs) → i ≤ j → OwnW s w base e v (marksW fA j xs.length)
 long : w.ownsRow H0 le 1 lg i ys
 done : ∀ (j : Nat) (v : Value) (xs : List (List Value)) (y : Value), vs[j]? = some (v, xs) → ys[j]? = some y → DoneW s fA fB w H0 lg v j xs.length y
 size : H0 ≤ w.heap.size

/-- The i-th longer copy grows: x, so far. -/
structure GrowW (s : Nat) (fA fB : Nat → Nat → List Value) (wi w : World) (base : Nat) (e : TypeId) (v : Value) (n i : Nat) (x : Value) (k : Nat) : Prop where
 row : OwnW s w base e x (marksW fA i n ++ marksW fB i k)
 rv : RdW s w v (marksW fA i n)
 blk : x.ownBlock = v.ownBlock ∨ ∃ b, x.ownBlock = some b ∧ wi.heap.size ≤ b
 chg : Chg v.ownBlock.toList wi w

/-- All are marked: the longer copies begin. -/
theorem MarkW.copy {s : Nat} {fA fB : Nat → Nat → List Value} {w : World} {base : Nat} {e le : TypeId} {lb : Nat} {vs : Wides} (h : MarkW s fA w base e lb vs vs.length 0) :
 LongW s fA fB w base e le lb vs w.heap.size (.slice none 0 0) [] 0 :=
 ⟨h.head, fun j v xs hj _ => by
  have hlt : j < vs.length := (List.getElem?_eq_some_iff.1 hj).1
  have := h.row j v xs hj
  rw [if_pos hlt, mixW_full] at this
  exact this, World.ownsRow_nil _ _ _ _, fun j v xs y hj hy => by simp at hy, Nat.le_refl _⟩

theorem GrowW.start {s : Nat} {fA fB : Nat → Nat → List Value} {w : World} {base : Nat} {e : TypeId} {v : Value} {n i : Nat} (h : OwnW s w base e v (marksW fA i n)) : GrowW s fA fB w w base e v n i v 0 :=
 ⟨by simpa [marksW] using h, h.rd, .inl rfl, Chg.refl _ _⟩

theorem GrowW.step {s : Nat} {fA fB : Nat → Nat → List Value} (hB : ∀ i k, (fB i k).length = s) (hA : ∀ i k, (fA i k).length = s) {wi w wn : World} {base : Nat} {e : TypeId} {v : Value} {n i : Nat} {x x' : Value} {k : Nat} {o : Obj} (hv : OwnW s wi base e v (marksW fA i n)) (h : GrowW s fA fB wi w base e v n i x k)
 (ho : wn.ownsRow base e s x' (n + k + 1) ((marksW fA i n ++ marksW fB i k).flatten ++ fB i k)) (hg : (w.alloc o).grownBy wn x.ownBlock)
 (hb : x'.ownBlock = x.ownBlock ∨ (x'.ownBlock = some (w.heap.size + 1) ∧ (w.alloc o).grownBy wn none)) : GrowW s fA fB wi wn base e v n i x' (k + 1) := by
 have hzi := h.chg.size
 have hrow : OwnW s wn base e x' (marksW fA i n ++ marksW fB i (k + 1)) := by
  refine ⟨(marksW_slots hA i n).app (marksW_slots hB i _), ?_⟩
  rw [List.length_append, marksW_len, marksW_len, marksW_succ, ← List.append_assoc, List.flatten_append, ← Nat.add_assoc]
  simpa using ho
 refine ⟨hrow, ?_, ?_, (h.chg.alloc _).grown hg (fun b hbb => ?_)⟩
 ·rcases hb with hb | ⟨hb, hn⟩
  ·rcases h.blk with hx | ⟨b, hx, hge⟩
   ·rcases hv.2.2 with ⟨rfl, hn0⟩ | ⟨g, cap, cur, rfl, _, hgg, _⟩
    ·exact .inl ⟨List.eq_nil_of_length_eq_zero hn0, _, _, rfl⟩
    ·have hx' : x'.ownBlock = some g := by rw [hb, hx]; rfl
     rcases hrow.rd with ⟨h0, _⟩ | ⟨g', cap', hv', hlt', hc'⟩
     ·have : (marksW fA i n).length = 0 := by
       have := congrArg List.length h0
       simp only [List.length_append, List.length_nil] at this
       omega
      exact .inl ⟨List.eq_nil_of_length_eq_zero this, some ⟨g, 0, none⟩, cap, by rw [this]⟩
     ·have hgq : g' = g := by rw [hv'] at hx'; simpa [Value.ownBlock] using hx'
      subst hgq
      exact .inr ⟨g', cap, rfl, hlt', fun j r y u hj hr => hc' j r y u (by rw [List.getElem?_append_left (List.getElem?_eq_some_iff.1 hj).1]; exact hj) hr⟩
   ·refine (h.rv.chg (t := []) ((Chg.refl _ _).alloc _) (by simp)).chg (chg_of_grown hg) (fun b' hb' hm => ?_)
    obtain rfl : b' = b := by rw [hx] at hm; simpa using hm
    have := (hv.lt b' hb').2
    omega
  ·exact (h.rv.chg (t := []) ((Chg.refl _ _).alloc _) (by simp)).chg (chg_of_grown hn) (by simp)
 ·rcases hb with hb | ⟨hb, _⟩
  ·rw [hb]; exact h.blk
  ·exact .inr ⟨_, hb, by omega⟩
 ·rcases h.blk with hx | ⟨b', hx, hge⟩
  ·rw [hx] at hbb; exact .inl (by rw [hbb]; simp)
  ·rw [hx] at hbb
   obtain rfl : b' = b := by simpa using hbb
   exact .inr hge

/-- One more longer copy is there. -/
theorem LongW.next {s : Nat} {fA fB : Nat → Nat → List Value} {w0 wi w wn : World} {base : Nat} {e le : TypeId} {lb : Nat} {vs : Wides} {H0 : Nat} {lg lg' : Value} {ys : List Value} {i : Nat} {v : Value} {xs : List (List Value)} {x : Value} {o : Obj}
 (h0 : OwnsW s w0 base e lb vs) (hH : w0.heap.size ≤ H0) (h : LongW s fA fB wi base e le lb vs H0 lg ys i) (hi : vs[i]? = some (v, xs)) (hx : GrowW s fA fB wi w base e v xs.length i x 16)
 (ho : wn.ownsRow H0 le 1 lg' (i + 1) (ys ++ [x])) (hg : (w.alloc o).grownBy wn lg.ownBlock)
 (hb : lg'.ownBlock = lg.ownBlock ∨ (lg'.ownBlock = some (w.heap.size + 1) ∧ (w.alloc o).grownBy wn none)) :
 LongW s fA fB wn base e le lb vs H0 lg' (ys ++ [x]) (i + 1) := by
 have hyl : ys.length = i := owns_len h.long
 have vlt : ∀ (j : Nat) (v : Value) (xs : List (List Value)) (b : Nat), vs[j]? = some (v, xs) → v.ownBlock = some b → b < H0 := fun j v xs b hj hb => by
  have := (h0.row j v xs hj).lt b hb
  omega
 have llt : ∀ b, lg.ownBlock = some b → H0 ≤ b ∧ b < wi.heap.size := fun b hb => h.long.lt b hb
 have c1 : Chg (v.ownBlock.toList ++ lg.ownBlock.toList) wi wn := ((hx.chg.mono (fun k hk => List.mem_append_left _ hk)).alloc _).grown hg (fun k hk => .inl (List.mem_append_right _ (by rw [hk]; simp)))
 have c2 : Chg lg.ownBlock.toList w wn := ((Chg.refl _ w).alloc _).grown hg (fun k hk => .inl (by rw [hk]; simp))
 have hz1 := hx.chg.size
 have hz2 := c2.size
 have nv : ∀ (j : Nat) (v' : Value) (xs' : List (List Value)) (b : Nat), j ≠ i → vs[j]? = some (v', xs') → v'.ownBlock = some b → b ∉ v.ownBlock.toList ++ lg.ownBlock.toList := fun j v' xs' b hne hj hb' hm => by
  rcases List.mem_append.1 hm with hm | hm
  ·exact h0.apart j i v' xs' v xs b hne hj hi hb' (by simpa using hm)
  ·have := vlt j v' xs' b hj hb'
   have := (llt b (by simpa using hm)).1
   omega
 refine ⟨fun j v' xs' hj => ?_, fun j v' xs' hj hij => ?_, ho, fun j v' xs' y hj hy => ?_, by have := h.size; omega⟩
 ·refine (c1.cell (p := ⟨lb, j, none⟩) ?_ (fun hm => ?_)).trans (h.head j v' xs' hj)
  ·have := h0.lt; have := h.size; show lb < _; omega
  ·rcases List.mem_append.1 hm with hm | hm
   ·exact h0.list i v xs hi (by simpa using hm)
   ·have := (llt lb (by simpa using hm)).1
    have := h0.lt
    omega
 ·exact (h.row j v' xs' hj (by omega)).chg c1 (fun b hb' => nv j v' xs' b (by omega) hj hb')
 ·by_cases hji : j < i
  ·rw [List.getElem?_append_left (by omega)] at hy
   have hd := h.done j v' xs' y hj hy
   refine ⟨hd.rv.chg c1 (fun b hb' => nv j v' xs' b (by omega) hj hb'), hd.ry.chg c1 (fun b hb' hm => ?_), fun b hb' => ?_⟩
   ·obtain ⟨q1, q2, q3⟩ := hd.wh b hb'
    rcases q1 with q1 | q1
    ·exact nv j v' xs' b (by omega) hj q1 hm
    ·rcases List.mem_append.1 hm with hm | hm
     ·have := vlt i v xs b hi (by simpa using hm)
      omega
     ·exact q3 (by simpa using hm)
   ·obtain ⟨q1, q2, q3⟩ := hd.wh b hb'
    refine ⟨q1, by omega, fun hl => ?_⟩
    rcases hb with hb | ⟨hb, _⟩
    ·rw [hb] at hl; exact q3 hl
    ·rw [hb] at hl
     simp at hl
     omega
  ·have hjlt : j < (ys ++ [x]).length := (List.getElem?_eq_some_iff.1 hy).1
   obtain rfl : j = i := by simp at hjlt; omega
   obtain rfl : x = y := by
    rw [List.getElem?_append_right (by omega), hyl, Nat.sub_self] at hy
    simpa using hy
   rw [hi] at hj
   obtain ⟨rfl, rfl⟩ : v = v' ∧ xs = xs' := by simpa using hj
   have xb : ∀ b, x.ownBlock = some b → (v.ownBlock = some b ∨ wi.heap.size ≤ b) ∧ b < w.heap.size := fun b hb' => by
    refine ⟨?_, (hx.row.lt b hb').2⟩
    rcases hx.blk with q | ⟨b', q, hge⟩
    ·exact .inl (by rw [← q]; exact hb')
    ·rw [q] at hb'
     obtain rfl : b' = b := by simpa using hb'
     exact .inr hge
   refine ⟨hx.rv.chg c2 (fun b hb' hm => ?_), hx.row.rd.chg c2 (fun b hb' hm => ?_), fun b hb' => ?_⟩
   ·have := vlt j v xs b hi hb'
    have := (llt b (by simpa using hm)).1
    omega
   ·have hl := llt b (by simpa using hm)
    rcases (xb b hb').1 with q | q
    ·have := vlt j v xs b hi q
     omega
    ·omega
   ·obtain ⟨q1, q2⟩ := xb b hb'
    have hsz := h.size
    refine ⟨?_, by omega, fun hl => ?_⟩
    ·rcases q1 with q1 | q1
     ·exact .inl q1
     ·exact .inr (by omega)
    ·rcases hb with hb | ⟨hb, _⟩
     ·rw [hb] at hl
      have hl2 := llt b hl
      rcases q1 with q | q
      ·have := vlt j v xs b hi q
       omega
      ·omega
     ·rw [hb] at hl
      simp at hl
      omega

end Go.Proofs.YtkafkdlgflkjgaaGreat

/-
  Rows that came out: in a rack, or in a pool; lists of values of several cells. By an AI agent.
-/
namespace Go.Proofs.YtkafkdlgflkjgaaGreat
open Go.RowKit

/-- A list of lists that came out, each in memory of its own. -/
structure Rack (w : World) (e le : TypeId) (lv : Value) (vs : List (Value × List Value)) : Prop where
 own : w.ownsRow 0 le 1 lv vs.length (vs.map (·.1))
 row : ∀ (j : Nat) (v : Value) (xs : List Value), vs[j]? = some (v, xs) → OwnR w 0 v xs.length xs
 apart : ∀ (i j : Nat) (v : Value) (xs : List Value) (v' : Value) (xs' : List Value) (g : Nat), i ≠ j → vs[i]? = some (v, xs) → vs[j]? = some (v', xs') → v.ownBlock = some g → v'.ownBlock ≠ some g
 list : ∀ (j : Nat) (v : Value) (xs : List Value) (g : Nat), vs[j]? = some (v, xs) → v.ownBlock = some g → lv.ownBlock ≠ some g

theorem Rack.nil (w : World) (e le : TypeId) : Rack w e le (.slice none 0 0) [] := ⟨World.ownsRow_nil _ _ _ _, fun j v xs hj => by simp at hj, fun i j v xs v' xs' g _ hi => by simp at hi, fun j v xs g hj => by simp at hj⟩

theorem rowsOf_append (a b : List (Value × List Value)) : rowsOf (a ++ b) = rowsOf a ++ rowsOf b := by simp [rowsOf]

/-- Rows that came out and lie nowhere yet: each in memory of its own. -/
structure Pool (w : World) (vs : List (Value × List Value)) : Prop where
 row : ∀ p ∈ vs, OwnR w 0 p.1 p.2.length p.2
 apart : vs.Pairwise fun p q => ∀ g, p.1.ownBlock = some g → q.1.ownBlock ≠ some g

def poolT (vs : List (Value × List Value)) : Thing where
 F := rowsOf vs
 P := fun w => Pool w vs
 lt := fun w h k hk => by
  obtain ⟨j, v, xs, hj, hg⟩ := rowsOf_spec hk
  exact ((h.row _ (List.mem_of_getElem? hj)).lt k hg).2
 stays := fun w w' s h c hs => ⟨fun p hp => (h.row p hp).chg c (fun k hk => hs k (by
  obtain ⟨j, hj⟩ := List.mem_iff_getElem?.1 hp
  exact rowsOf_mem (v := p.1) (xs := p.2) hj hk)), h.apart⟩

theorem rowsOf_cons (p : Value × List Value) (vs : List (Value × List Value)) : rowsOf (p :: vs) = p.1.ownBlock.toList ++ rowsOf vs := by
 unfold rowsOf
 cases h : p.1.ownBlock <;> simp [h]

/-- One more among them. -/
theorem Side.pool {w0 w : World} {ts : List Thing} {e : TypeId} {v : Value} {xs : List Value} {vs : List (Value × List Value)} (h : Side w0 w (ownT e v xs :: poolT vs :: ts)) : Side w0 w (poolT (vs ++ [(v, xs)]) :: ts) := by
 have ho : w.ownsRow 0 e 1 v xs.length xs := h.get 0 rfl
 have hp : Pool w vs := h.get 1 rfl
 have hoff : ∀ k, v.ownBlock = some k → k ∉ rowsOf vs := fun k hk hm => (List.pairwise_cons.1 h.apart).1 _ List.mem_cons_self k (by simp [ownT, hk]) hm
 refine h.join (Chg.refl [] w) (fun k hk => by cases hk) ⟨fun p hp2 => ?_, ?_⟩ (fun k hk => ?_)
 ·rcases List.mem_append.1 hp2 with q | q
  ·exact hp.row p q
  ·rw [List.mem_singleton.1 q]
   exact ⟨e, ho⟩
 ·refine List.pairwise_append.2 ⟨hp.apart, List.pairwise_singleton _ _, fun p hp2 q hq g hg hg2 => ?_⟩
  rw [List.mem_singleton.1 hq] at hg2
  obtain ⟨j, hj⟩ := List.mem_iff_getElem?.1 hp2
  exact hoff g hg2 (rowsOf_mem (v := p.1) (xs := p.2) hj hg)
 ·have hk2 : k ∈ rowsOf (vs ++ [(v, xs)]) := hk
  rw [rowsOf_append] at hk2
  rcases List.mem_append.1 hk2 with q | q
  ·exact .inr (.inl q)
  ·rw [rowsOf_cons] at q
   rcases List.mem_append.1 q with q | q
   ·exact .inl q
   ·simp [rowsOf] at q

theorem Pool.nil (w : World) : Pool w [] := ⟨fun p hp => (by cases hp), List.Pairwise.nil⟩

/-- A list of values of several cells, in memory of its own. -/
def wideT (s : Nat) (e : TypeId) (v : Value) (xs : List (List Value)) : Thing where
 F := v.ownBlock.toList
 P := fun w => OwnW s w 0 e v xs
 lt := fun w h k hk => (h.lt k (by simpa using hk)).2
 stays := fun w w' t h c hs => h.chg c (fun k hk => hs k (by rw [hk]; simp))

/-- What stood first is of no more concern, whatever it became. -/
theorem Side.gone {w0 w w' : World} {a : Thing} {ts : List Thing} {s : List Nat} (h : Side w0 w (a :: ts)) (c : Chg s w w') (hs : ∀ k ∈ s, k ∈ a.F) : Side w0 w' ts :=
 Side.swap (olds := [a]) (bs := []) h c (fun k hk => .inl ⟨a, List.mem_singleton.2 rfl, hs k hk⟩) (fun b hb => by cases hb) (fun b hb => by cases hb) List.Pairwise.nil

theorem Pool.sub {w : World} {vs us : List (Value × List Value)} (h : Pool w vs) (s : us.Sublist vs) : Pool w us := ⟨fun p hp => h.row p (s.subset hp), h.apart.sublist s⟩

/-- Blocks of two of them. -/
theorem Side.offAt {w0 w : World} {ts : List Thing} {a b : Thing} (h : Side w0 w ts) (i j : Nat) (hi : ts[i]? = some a) (hj : ts[j]? = some b) (hij : i ≠ j) : a.off b := by
 obtain ⟨hi1, rfl⟩ := List.getElem?_eq_some_iff.1 hi
 obtain ⟨hj1, rfl⟩ := List.getElem?_eq_some_iff.1 hj
 have hp := List.pairwise_iff_getElem.1 h.apart
 rcases Nat.lt_or_gt_of_ne hij with q | q
 ·exact hp i j hi1 hj1 q
 ·exact (hp j i hj1 hi1 q).symm

end Go.Proofs.YtkafkdlgflkjgaaGreat

/-
  Values of many cells, built: a struct of a number and an array, a slice of one such; an append of one such, at a step of a region that draws its order. No function of the program is named here. By an AI agent.
-/
namespace Go.Proofs.YtkafkdlgflkjgaaGreat
open Go.RowKit

theorem fold_lay (off : Nat) : ∀ (cs : List Value) (i : Nat) (base : Array Value), off + i + cs.length ≤ base.size →
 ((cs.zipIdx i).foldl (fun b (p : Value × Nat) => b.setIfInBounds (off + p.2) p.1) base).toList = base.toList.take (off + i) ++ cs ++ base.toList.drop (off + i + cs.length)
 | [], i, base, h => by simp
 | c :: cs, i, base, h => by
   have h' : off + i + (cs.length + 1) ≤ base.size := h
   rw [List.zipIdx_cons, List.foldl_cons, fold_lay off cs (i + 1) _ (by simp; omega)]
   have e : ((base.setIfInBounds (off + i) c).toList).take (off + (i + 1)) = base.toList.take (off + i) ++ [c] := by
    rw [Array.toList_setIfInBounds, List.take_set]
    apply List.ext_getElem?
    intro j
    by_cases hj : j < off + i
    ·rw [List.getElem?_set_ne (by omega), List.getElem?_append_left (by simp; omega), List.getElem?_take_of_lt (by omega), List.getElem?_take_of_lt hj]
    ·by_cases hj2 : j = off + i
     ·subst hj2
      rw [List.getElem?_set_self (by simp; omega), List.getElem?_append_right (by simp; omega), List.length_take, Array.length_toList, Nat.min_eq_left (by omega), Nat.sub_self]
      rfl
     ·rw [List.getElem?_eq_none (by simp; omega), List.getElem?_eq_none (by simp; omega)]
   have e2 : ((base.setIfInBounds (off + i) c).toList).drop (off + (i + 1) + cs.length) = base.toList.drop (off + i + (c :: cs).length) := by
    rw [Array.toList_setIfInBounds, List.drop_set, if_pos (by omega), List.length_cons]
    congr 1
    omega
   rw [e, e2]
   simp

theorem fold_all (off : Nat) (cs : List Value) (base : Array Value) (h : off + cs.length ≤ base.size) :
 (cs.toArray.zipIdx.foldl (fun b (p : Value × Nat) => b.setIfInBounds (off + p.2) p.1) base).toList = base.toList.take off ++ cs ++ base.toList.drop (off + cs.length) := by
 have := fold_lay off cs 0 base (by omega)
 rw [← Array.foldl_toList]
 simpa using this

theorem fill_one (place : Nat → Option (Nat × Nat)) (base : Array Value) (v : Value) (cs : List Value) (hp : place 0 = some (0, cs.length)) (hv : v.cells = cs.toArray) (hb : base.size = cs.length) :
 Instr.fill place base [(0, v)] = some cs.toArray := by
 have := fold_all 0 cs base (by omega)
 rw [List.take_zero, List.nil_append, List.drop_eq_nil_of_le (by simp; omega), List.append_nil] at this
 unfold Instr.fill
 simp only [hp, hv]
 rw [if_neg (by simp [hb])]
 unfold Instr.fill
 congr 1
 apply Array.ext'
 exact this

theorem fill_two (place : Nat → Option (Nat × Nat)) (base : Array Value) (u0 v : Value) (cs : List Value) (hp : place 0 = some (0, 1)) (hp1 : place 1 = some (1, cs.length)) (hu : u0.cells = #[u0]) (hv : v.cells = cs.toArray) (hb : base.size = 1 + cs.length) :
 Instr.fill place base [(0, u0), (1, v)] = some (u0 :: cs).toArray := by
 have h1 := fold_all 0 [u0] base (by simp; omega)
 unfold Instr.fill
 simp only [hp, hu]
 rw [if_neg (by rw [hb]; simp)]
 rw [show (#[u0] : Array Value) = [u0].toArray from rfl]
 generalize ([u0].toArray.zipIdx.foldl (fun b (p : Value × Nat) => b.setIfInBounds (0 + p.2) p.1) base) = base1 at *
 have hs : base1.size = 1 + cs.length := by
  have := congrArg List.length h1
  simp at this
  omega
 have h2 := fold_all 1 cs base1 (by omega)
 unfold Instr.fill
 simp only [hp1, hv]
 rw [if_neg (by rw [hs]; simp)]
 unfold Instr.fill
 congr 1
 apply Array.ext'
 have e3 : base1.toList.drop (1 + cs.length) = [] := List.drop_eq_nil_of_le (by rw [Array.length_toList, hs]; exact Nat.le_refl _)
 rw [h2, e3, List.append_nil, h1]
 simp

/-- A slice literal of one great value. -/
theorem wp_buildSlice_one {P : Program} {w : World} {o : Oper} {a : Act} {K : Act → World → Prop} {Q : Exit → Act → World → Prop} (t e : TypeId) (x : Operand) (ho : o.op = .buildSlice t 1 #[(0, x)])
 (i : TypeInfo) (z : Value) (cs : List Value) (hx : a.eval x = .agg cs.toArray) (hu : P.underlying t = some (.slice e)) (hi : P.info? e = some i) (hz : i.zero = some z) (hs : i.size = cs.length) (hzs : z.cells.size = cs.length) (h0 : 0 < cs.length) (h24 : cs.length ≤ 2 ^ 24)
 (h : K (a.put o.dst (.slice (some ⟨w.heap.size, 0, none⟩) 1 1)) (w.alloc (.cells cs.toArray e))) : o.wp P a w K Q := by
 have hf := fill_one (fun i => some (i * cs.length, cs.length)) ((Array.range (1 * cs.length)).map (z.cells[· % z.cells.size]!)) (.agg cs.toArray) cs (by simp) rfl (by simp)
 have hr : (Instr.buildSlice t 1 #[(0, .agg cs.toArray)]).run P w = .ok (.slice (some ⟨w.heap.size, 0, none⟩) 1 1) (w.alloc (.cells cs.toArray e)) := by
  have h1 : ¬ (2 ^ 24 < cs.length) := by omega
  have h2 : ¬ (cs.length = 0) := by omega
  simp only [Nat.one_mul] at hf
  simp [Instr.buildSlice, run_underlying hu, sizeOf, typeInfo, hi, hs, h1, h2, zeroValue, hz, newRow]
  rw [hf]
  simp
 unfold Oper.wp execOp
 simp only [ho]
 simp [hx, hr, Result.andThen]
 exact h

/-- Append of rows of whatever size, at an operation. -/
theorem wp_append_three {P : Program} (w : World) {o : Oper} {a : Act} {K : Act → World → Prop} {Q : Exit → Act → World → Prop} (s x : Operand) (t : TypeId)
 (ho : o.op = .call { callee := .builtin .append, args := #[s, x], argTypes := #[t, t] })
 (base : Nat) (e : TypeId) (i : TypeInfo) (z : Value) (size bytes : Nat) (ht : P.underlying t = some (.slice e)) (hi : P.info? e = some i) (hz : i.zero = some z)
 (hsize : i.size = size) (hby : i.bytes = bytes) (hzs : z.cells.size = size) (hsz : 0 < size)
 (v : Value) (n : Nat) (xs : List Value) (hs : a.eval s = v) (hown : w.ownsRow base e size v n xs)
 (ad : Addr) (m c : Nat) (news : List Value) (hx : a.eval x = .slice (some ad) m c) (hl : news.length = m * size) (hnews : ∀ j u, news[j]? = some u → w.cell? (ad.add j) = some u) (h1 : ∀ u ∈ news, u.oneCell' = true)
 (h63 : n + m ≤ maxLen) (hbytes : (n + m) * bytes ≤ 140737488355328) (hbase : base ≤ w.heap.size)
 (h : ∀ v' w', Hid (w'.ownsRow base e size v' (n + m) (xs ++ news)) → Hid (w.grownBy w' v.ownBlock) → Hid (v'.ownBlock = v.ownBlock ∨ (v'.ownBlock = some w.heap.size ∧ w.grownBy w' none)) → K (a.put o.dst v') w') : o.wp P a w K Q := by
 obtain ⟨v', w', hr, h2, h3, h4⟩ := run_append_three (P := P) w base t o.type e i z size bytes ht hi hz hsize hby hzs hsz v n xs hown ad m c news hl hnews h1 h63 hbytes hbase
 unfold Oper.wp
 simp [execOp, ho, resolve, invoke, builtin, hs, hx, hr, Result.andThen]
 exact h _ _ h2 h3 h4

/-- A slice as an array's address. -/
theorem arr_run {P : Program} {w : World} (ρ : Operand → Value) (o : Oper) (t : TypeId) (x : Operand) (ho : o.op = .sliceToArrayPointer t x) {ad : Option Addr} {len c n : Nat} {e : TypeId} (hx : ρ x = .slice ad len c) (hu : P.underlying t = some (.array n e)) (hn : n ≤ len) :
 (execOp ρ o).run P w = .ok (.value (.pointer ad)) w := by
 unfold execOp
 simp only [ho, hx]
 simp [Instr.arrayAt, run_underlying hu, show ¬ len < n by omega]

/-- A struct of two parts. -/
theorem bld_run {P : Program} {w : World} (ρ : Operand → Value) (o : Oper) (t : TypeId) (x0 x1 : Operand) (ho : o.op = .build t #[(0, x0), (1, x1)]) {u0 u1 : Value} {cells : Array Value} (h0 : ρ x0 = u0) (h1 : ρ x1 = u1) (hb : P.built t [(0, u0), (1, u1)] = some cells) :
 (execOp ρ o).run P w = .ok (.value (.agg cells)) w := by
 have hr := run_build (P := P) w t #[(0, u0), (1, u1)] cells (by simpa using hb)
 unfold execOp
 simp only [ho]
 simp [h0, h1, hr, Result.andThen]

end Go.Proofs.YtkafkdlgflkjgaaGreat
